/- The plain part of SlatEnds and SlatTrue, the document's own checks, and what draws true numbers. -/
import Derived.Test.YtaafmfhpoimjhaaZm
import Derived.Test.YtaafmfhpoimjhaaSm
namespace Go.Proofs.Ytaafmfhpoimjhaa
open Go.RowKit Go.Shelf

set_option maxHeartbeats 400000 in
theorem rin5_any (n a b : Int) (w : World) : Calls Try.prog 54 #[.int .i64 n, .int .i64 a, .int .i64 b] w fun e w' => e = .returned (.bool (fromB n a b)) ∧ w = w' := by
  go_enter Try.func54, Try.ntmps54
  go_wp2
  all_goals go_ret
  all_goals exact ⟨ret_bool (by rw [Bool.eq_iff_iff]; simp only [fromB, decide_eq_true_eq, Bool.false_eq_true, false_iff]; omega), rfl⟩
set_option maxHeartbeats 400000 in
theorem rspan5_any (a b c d : Int) (w : World) : Calls Try.prog 53 #[.agg #[.int .i64 a, .int .i64 b], .int .i64 c, .int .i64 d] w (Ret (.bool (withinB ⟨a, b⟩ c d)) w) := by
  go_enter Try.func53, Try.ntmps53
  go_wp2
  all_goals go_ret
  all_goals exact ⟨ret_bool (by rw [Bool.eq_iff_iff]; simp only [withinB, decide_eq_true_eq, Bool.false_eq_true, false_iff]; omega), (Below.refl _ _).alloc (Nat.le_refl _) _⟩
set_option maxRecDepth 100000 in
set_option maxHeartbeats 2000000 in
theorem rjig5_any (j : Jig) (w : World) : Calls Try.prog 24 #[.agg #[.int .i64 j.glue.lo, .int .i64 j.glue.hi, .int .i64 j.lead.lo, .int .i64 j.lead.hi, .int .i64 j.side.lo, .int .i64 j.side.hi, .int .i64 j.height.lo, .int .i64 j.height.hi, .int .i64 j.play, .int .i64 j.grooves]] w (Ret (.bool (jigOk j)) w) := by
  have HB := Lib.hid (show Below w.heap.size w (w.alloc (.cells #[.int .i64 j.glue.lo, .int .i64 j.glue.hi, .int .i64 j.lead.lo, .int .i64 j.lead.hi, .int .i64 j.side.lo, .int .i64 j.side.hi, .int .i64 j.height.lo, .int .i64 j.height.hi, .int .i64 j.play, .int .i64 j.grooves] 25)) from (Below.refl _ _).alloc (Nat.le_refl _) _)
  have HK := Lib.hid (Blk.new w 25 #[.int .i64 j.glue.lo, .int .i64 j.glue.hi, .int .i64 j.lead.lo, .int .i64 j.lead.hi, .int .i64 j.side.lo, .int .i64 j.side.hi, .int .i64 j.height.lo, .int .i64 j.height.hi, .int .i64 j.play, .int .i64 j.grooves])
  have HD : Hid (jigOk j = (withinB ⟨j.glue.lo, j.glue.hi⟩ 0 500 && withinB ⟨j.lead.lo, j.lead.hi⟩ 1 5000 && withinB ⟨j.side.lo, j.side.hi⟩ (-500) 500 && withinB ⟨j.height.lo, j.height.hi⟩ (-500) 500 && fromB j.play 0 500 && fromB j.grooves 1 10)) := Lib.hid rfl
  go_enter Try.func24, Try.ntmps24
  go_wp2_with fail
  generalize World.alloc w _ = V at HB HK ⊢
  refine (rspan5_any _ _ _ _ _).mono ?_
  rintro e W1 ⟨he, hb1⟩
  replace HK := Lib.hid (HK.out.below hb1 HK.out.lt)
  replace HB := Lib.hid (HB.out.trans (hb1.mono HB.out.size))
  clear hb1
  obtain ⟨z1, hz1⟩ : ∃ z, withinB ⟨j.glue.lo, j.glue.hi⟩ 0 500 = z := ⟨_, rfl⟩
  rw [hz1] at he
  have H0 := Lib.hid hz1
  clear hz1
  subst he
  cases z1 with
  | false =>
    go_wp2_with fail
    go_ret
    exact ⟨ret_bool (Eq.symm (by rw [HD.out, H0.out]; simp)), HB.out⟩
  | true =>
    skip
    have x2 := HK.out.cell 2
    have x3 := HK.out.cell 3
    go_wp2_with fail
    clear x2 x3
    refine (rspan5_any _ _ _ _ _).mono ?_
    rintro e W1 ⟨he, hb1⟩
    replace HK := Lib.hid (HK.out.below hb1 HK.out.lt)
    replace HB := Lib.hid (HB.out.trans (hb1.mono HB.out.size))
    clear hb1
    obtain ⟨z1, hz1⟩ : ∃ z, withinB ⟨j.lead.lo, j.lead.hi⟩ 1 5000 = z := ⟨_, rfl⟩
    rw [hz1] at he
    have H1 := Lib.hid hz1
    clear hz1
    subst he
    cases z1 with
    | false =>
      go_wp2_with fail
      go_ret
      exact ⟨ret_bool (Eq.symm (by rw [HD.out, H0.out, H1.out]; simp)), HB.out⟩
    | true =>
      skip
      have x4 := HK.out.cell 4
      have x5 := HK.out.cell 5
      go_wp2_with fail
      clear x4 x5
      refine (rspan5_any _ _ _ _ _).mono ?_
      rintro e W1 ⟨he, hb1⟩
      replace HK := Lib.hid (HK.out.below hb1 HK.out.lt)
      replace HB := Lib.hid (HB.out.trans (hb1.mono HB.out.size))
      clear hb1
      obtain ⟨z1, hz1⟩ : ∃ z, withinB ⟨j.side.lo, j.side.hi⟩ (-500) 500 = z := ⟨_, rfl⟩
      rw [hz1] at he
      have H2 := Lib.hid hz1
      clear hz1
      subst he
      cases z1 with
      | false =>
        go_wp2_with fail
        go_ret
        exact ⟨ret_bool (Eq.symm (by rw [HD.out, H0.out, H1.out, H2.out]; simp)), HB.out⟩
      | true =>
        skip
        have x6 := HK.out.cell 6
        have x7 := HK.out.cell 7
        go_wp2_with fail
        clear x6 x7
        refine (rspan5_any _ _ _ _ _).mono ?_
        rintro e W1 ⟨he, hb1⟩
        replace HK := Lib.hid (HK.out.below hb1 HK.out.lt)
        replace HB := Lib.hid (HB.out.trans (hb1.mono HB.out.size))
        clear hb1
        obtain ⟨z1, hz1⟩ : ∃ z, withinB ⟨j.height.lo, j.height.hi⟩ (-500) 500 = z := ⟨_, rfl⟩
        rw [hz1] at he
        have H3 := Lib.hid hz1
        clear hz1
        subst he
        cases z1 with
        | false =>
          go_wp2_with fail
          go_ret
          exact ⟨ret_bool (Eq.symm (by rw [HD.out, H0.out, H1.out, H2.out, H3.out]; simp)), HB.out⟩
        | true =>
          skip
          have x8 := HK.out.cell 8
          go_wp2_with fail
          clear x8
          refine (rin5_any _ _ _ _).mono ?_
          rintro e W1 ⟨he, rfl⟩
          skip
          obtain ⟨z1, hz1⟩ : ∃ z, fromB j.play 0 500 = z := ⟨_, rfl⟩
          rw [hz1] at he
          have H4 := Lib.hid hz1
          clear hz1
          subst he
          cases z1 with
          | false =>
            go_wp2_with fail
            go_ret
            exact ⟨ret_bool (Eq.symm (by rw [HD.out, H0.out, H1.out, H2.out, H3.out, H4.out]; simp)), HB.out⟩
          | true =>
            skip
            have x9 := HK.out.cell 9
            go_wp2_with fail
            clear x9
            refine (rin5_any _ _ _ _).mono ?_
            rintro e W1 ⟨rfl, rfl⟩
            go_wp2_with fail
            go_ret
            exact ⟨ret_bool (by rw [HD.out, H0.out, H1.out, H2.out, H3.out, H4.out]; simp), HB.out⟩
set_option maxRecDepth 100000 in
set_option maxHeartbeats 2000000 in
theorem rslat5_any (s : Slat) (w : World) : Calls Try.prog 25 #[.agg #[.int .i64 s.thick.lo, .int .i64 s.thick.hi, .int .i64 s.depth.lo, .int .i64 s.depth.hi, .int .i64 s.shift.lo, .int .i64 s.shift.hi, .int .i64 s.pitch.lo, .int .i64 s.pitch.hi]] w (Ret (.bool (slatOk s)) w) := by
  have HB := Lib.hid (show Below w.heap.size w (w.alloc (.cells #[.int .i64 s.thick.lo, .int .i64 s.thick.hi, .int .i64 s.depth.lo, .int .i64 s.depth.hi, .int .i64 s.shift.lo, .int .i64 s.shift.hi, .int .i64 s.pitch.lo, .int .i64 s.pitch.hi] 37)) from (Below.refl _ _).alloc (Nat.le_refl _) _)
  have HK := Lib.hid (Blk.new w 37 #[.int .i64 s.thick.lo, .int .i64 s.thick.hi, .int .i64 s.depth.lo, .int .i64 s.depth.hi, .int .i64 s.shift.lo, .int .i64 s.shift.hi, .int .i64 s.pitch.lo, .int .i64 s.pitch.hi])
  have HD : Hid (slatOk s = (withinB ⟨s.thick.lo, s.thick.hi⟩ 1 10000 && withinB ⟨s.depth.lo, s.depth.hi⟩ 0 s.thick.lo && withinB ⟨s.shift.lo, s.shift.hi⟩ (-500) 500 && withinB ⟨s.pitch.lo, s.pitch.hi⟩ (-50) 50)) := Lib.hid rfl
  go_enter Try.func25, Try.ntmps25
  go_wp2_with fail
  generalize World.alloc w _ = V at HB HK ⊢
  refine (rspan5_any _ _ _ _ _).mono ?_
  rintro e W1 ⟨he, hb1⟩
  replace HK := Lib.hid (HK.out.below hb1 HK.out.lt)
  replace HB := Lib.hid (HB.out.trans (hb1.mono HB.out.size))
  clear hb1
  obtain ⟨z1, hz1⟩ : ∃ z, withinB ⟨s.thick.lo, s.thick.hi⟩ 1 10000 = z := ⟨_, rfl⟩
  rw [hz1] at he
  have H0 := Lib.hid hz1
  clear hz1
  subst he
  cases z1 with
  | false =>
    go_wp2_with fail
    go_ret
    exact ⟨ret_bool (Eq.symm (by rw [HD.out, H0.out]; simp)), HB.out⟩
  | true =>
    skip
    have x0 := HK.out.cell 0
    have x2 := HK.out.cell 2
    have x3 := HK.out.cell 3
    go_wp2_with fail
    clear x0 x2 x3
    refine (rspan5_any _ _ _ _ _).mono ?_
    rintro e W1 ⟨he, hb1⟩
    replace HK := Lib.hid (HK.out.below hb1 HK.out.lt)
    replace HB := Lib.hid (HB.out.trans (hb1.mono HB.out.size))
    clear hb1
    obtain ⟨z1, hz1⟩ : ∃ z, withinB ⟨s.depth.lo, s.depth.hi⟩ 0 s.thick.lo = z := ⟨_, rfl⟩
    rw [hz1] at he
    have H1 := Lib.hid hz1
    clear hz1
    subst he
    cases z1 with
    | false =>
      go_wp2_with fail
      go_ret
      exact ⟨ret_bool (Eq.symm (by rw [HD.out, H0.out, H1.out]; simp)), HB.out⟩
    | true =>
      skip
      have x4 := HK.out.cell 4
      have x5 := HK.out.cell 5
      go_wp2_with fail
      clear x4 x5
      refine (rspan5_any _ _ _ _ _).mono ?_
      rintro e W1 ⟨he, hb1⟩
      replace HK := Lib.hid (HK.out.below hb1 HK.out.lt)
      replace HB := Lib.hid (HB.out.trans (hb1.mono HB.out.size))
      clear hb1
      obtain ⟨z1, hz1⟩ : ∃ z, withinB ⟨s.shift.lo, s.shift.hi⟩ (-500) 500 = z := ⟨_, rfl⟩
      rw [hz1] at he
      have H2 := Lib.hid hz1
      clear hz1
      subst he
      cases z1 with
      | false =>
        go_wp2_with fail
        go_ret
        exact ⟨ret_bool (Eq.symm (by rw [HD.out, H0.out, H1.out, H2.out]; simp)), HB.out⟩
      | true =>
        skip
        have x6 := HK.out.cell 6
        have x7 := HK.out.cell 7
        go_wp2_with fail
        clear x6 x7
        refine (rspan5_any _ _ _ _ _).mono ?_
        rintro e W1 ⟨rfl, hb1⟩
        replace HB := Lib.hid (HB.out.trans (hb1.mono HB.out.size))
        clear hb1
        go_wp2_with fail
        go_ret
        exact ⟨ret_bool (by rw [HD.out, H0.out, H1.out, H2.out]; simp), HB.out⟩

theorem sq_le {x m : Int} (h1 : -m ≤ x) (h2 : x ≤ m) : x * x ≤ m * m := by
  rcases Int.le_total 0 x with h | h
  · exact Int.mul_le_mul h2 h2 h (by omega)
  · have := Int.mul_le_mul (show -x ≤ m by omega) (show -x ≤ m by omega) (show 0 ≤ -x by omega) (by omega)
    rw [Int.neg_mul_neg] at this
    exact this
theorem mul_self_nn (x : Int) : 0 ≤ x * x := by
  rcases Int.le_total 0 x with h | h
  · exact Int.mul_nonneg h h
  · exact Int.mul_nonneg_of_nonpos_of_nonpos h h
theorem told_ok {j : Jig} {a b : Slat} (hj : jigOk j = true) (ha : slatOk a = true) (hb : slatOk b = true) (o : Bool) (ho : o = true) : slErr j [a] [b] [] o = 0 := by
  subst ho
  unfold slErr
  simp [hj, ha, hb, limsOk]
theorem gra_yes {j : Jig} {a b : Slat} {x : List Int} {N : Nat} (hN : j.grooves = N) (h : graE j a b x = 0) : graL j a b x = gradesOf j a b x ∧ (graL j a b x).length = N := by
  unfold graE at h
  have h0 : graE0 j a b x = 0 ∧ alwaysB j a b = true := by
    split at h
    · rename_i h1
      split at h
      · rename_i h2; exact ⟨h1, h2⟩
      · cases h
    · rename_i h1; exact absurd h h1
  have e : graL j a b x = gradesOf j a b x := by unfold graL; rw [if_pos h0]
  exact ⟨e, by rw [e, grades_len, leads_len, hN]; simp⟩
theorem gra_err {j : Jig} {a b : Slat} {x : List Int} (h : graE j a b x = 0) : graE0 j a b x = 0 := by
  unfold graE at h
  split at h
  · rename_i h1; exact h1
  · rename_i h1; exact absurd h h1
theorem gra_lims {j : Jig} {a b : Slat} {x : List Int} (h : graE j a b x = 0) : ∀ y ∈ x, 0 ≤ y ∧ y ≤ 1000 := (gra_ok (gra_err h)).2.2.2.2
theorem gra_at {j : Jig} {a b : Slat} {x : List Int} {k : Nat} (h : k < (gradesOf j a b x).length) : (gradesOf j a b x)[k] = gradeOf (leadOf j a b (k : Int)) x := by
  simp [gradesOf, leadsOf]
theorem le_of_own {w : World} {B : Nat} {e : TypeId} {size : Nat} {v : Value} {k : Nat} {xs : List Value} (hr : w.ownsRow B e size v k xs) : k ≤ 9223372036854775807 := by
  rcases hr.2 with ⟨rfl, h⟩ | ⟨g, cap, cur, rfl, h1, h2, h3, h4, h5⟩
  · omega
  · have : maxLen ≤ 9223372036854775807 := by unfold maxLen; omega
    omega
/-- Limits rise. -/
theorem lims_rise {x : List Int} (h : limsOk x = true) {i k : Nat} (hik : i ≤ k) (hi : i < x.length) (hk : k < x.length) : x[i] ≤ x[k] := by
  induction k with
  | zero => obtain rfl : i = 0 := by omega
            exact Int.le_refl _
  | succ k ih =>
    rcases Nat.lt_or_ge k i with h1 | h1
    · obtain rfl : i = k + 1 := by omega
      exact Int.le_refl _
    · have h2 := ih h1 (by omega)
      unfold limsOk at h
      rw [List.all_eq_true] at h
      have h3 := h (k + 1) (by simpa using hk)
      unfold limAt at h3
      simp [hk, show k < x.length by omega] at h3
      omega
theorem gra_rise {j : Jig} {a b : Slat} {x : List Int} (h : graE j a b x = 0) : limsOk x = true := by
  have h1 := gra_err h
  unfold graE0 slErr at h1
  split at h1
  · cases h1
  · split at h1
    · cases h1
    · split at h1
      · cases h1
      · rename_i h2
        cases hl : limsOk x with
        | true => rfl
        | false => rw [hl] at h2; simp at h2
theorem grade_first : ∀ (x : List Int) (l : Lead) (i : Int) (q : Nat) (hq : q < x.length), leadIn l x[q] = true → gradeFrom l x i ≠ -1 ∨ i < 0 := by
  intro x
  induction x with
  | nil => intro l i q hq; simp at hq
  | cons y ys ih =>
    intro l i q hq h
    unfold gradeFrom
    by_cases hy : leadIn l y = true
    · rw [if_pos hy]; omega
    · rw [if_neg hy]
      cases q with
      | zero => exact absurd h hy
      | succ q =>
        have := ih l (i + 1) q (by simpa using hq) (by simpa using h)
        omega
theorem grade_least : ∀ (x : List Int) (l : Lead) (i : Int) (q : Nat) (hq : q < x.length), 0 ≤ i → leadIn l x[q] = true → i ≤ gradeFrom l x i ∧ gradeFrom l x i ≤ i + q := by
  intro x
  induction x with
  | nil => intro l i q hq; simp at hq
  | cons y ys ih =>
    intro l i q hq h0 h
    unfold gradeFrom
    by_cases hy : leadIn l y = true
    · rw [if_pos hy]; omega
    · rw [if_neg hy]
      cases q with
      | zero => exact absurd h hy
      | succ q =>
        have := ih l (i + 1) q (by simpa using hq) (by omega) (by simpa using h)
        omega
theorem grade_in : ∀ (x : List Int) (l : Lead) (i : Int), gradeFrom l x i = -1 ∨ ∃ k : Nat, ∃ h : k < x.length, gradeFrom l x i = i + k ∧ leadIn l x[k] = true
  | [], _, _ => .inl rfl
  | y :: x, l, i => by
    unfold gradeFrom
    by_cases h : leadIn l y = true
    · rw [if_pos h]
      exact .inr ⟨0, by simp, by simp, h⟩
    · rw [if_neg h]
      rcases grade_in x l (i + 1) with h1 | ⟨k, hk, h1, h2⟩
      · exact .inl h1
      · exact .inr ⟨k + 1, by simpa using hk, by rw [h1]; simp; omega, h2⟩
/-- A lead has a grade up to q just if it is within the q-th limit. -/
theorem grade_iff {x : List Int} (hr : limsOk x = true) (h0 : ∀ y ∈ x, 0 ≤ y ∧ y ≤ 1000) (l : Lead) {q : Nat} (hq : q < x.length) :
    amountS l.side * amountS l.side + amountS l.height * amountS l.height ≤ 4 * x[q] * x[q] ↔ (gradeOf l x ≠ -1 ∧ gradeOf l x ≤ (q : Int)) := by
  constructor
  · intro h
    have hin : leadIn l x[q] = true := by unfold leadIn; rw [decide_eq_true_eq]; exact h
    have := grade_least x l 0 q hq (Int.le_refl _) hin
    unfold gradeOf
    omega
  · rintro ⟨h1, h2⟩
    rcases grade_in x l 0 with hg | ⟨k, hk, hg, hin⟩
    · exact absurd hg h1
    · unfold gradeOf at h2
      have hkq : k ≤ q := by omega
      have hle := lims_rise hr hkq hk hq
      unfold leadIn at hin
      rw [decide_eq_true_eq] at hin
      have hk0 := (h0 x[k] (List.getElem_mem hk)).1
      have := Int.mul_le_mul hle hle hk0 (by omega)
      have e1 : 4 * x[k] * x[k] = 4 * (x[k] * x[k]) := Int.mul_assoc _ _ _
      have e2 : 4 * x[q] * x[q] = 4 * (x[q] * x[q]) := Int.mul_assoc _ _ _
      rw [e1] at hin
      rw [e2]
      omega
theorem wrz {x : Int} (h : -9000000000000000000 ≤ x) (h' : x ≤ 9000000000000000000) : IntKind.i64.wrap x = x := IntWalk.i64_in x ⟨by omega, by omega⟩
/-- The numbers of the two rows ahead of the loop. -/
theorem low_wraps {j : Jig} {a b : Slat} (hj : JigIn j) (ha : SlatIn a) (hb : SlatIn b) {g0 g1 : Int} (h0 : (heightS j a b).lo = g0) (h1 : (heightS j a b).hi = g1) :
    (IntKind.i64.wrap (a.thick.lo - b.thick.hi) = a.thick.lo - b.thick.hi ∧ IntKind.i64.wrap (a.thick.lo - b.thick.hi - j.glue.hi) = a.thick.lo - b.thick.hi - j.glue.hi ∧ IntKind.i64.wrap (2 * a.depth.hi) = 2 * a.depth.hi ∧ IntKind.i64.wrap (a.thick.lo - b.thick.hi - j.glue.hi - 2 * a.depth.hi) = a.thick.lo - b.thick.hi - j.glue.hi - 2 * a.depth.hi ∧ IntKind.i64.wrap (a.thick.lo - b.thick.hi - j.glue.hi - 2 * a.depth.hi + j.lead.lo) = a.thick.lo - b.thick.hi - j.glue.hi - 2 * a.depth.hi + j.lead.lo ∧ IntKind.i64.wrap (2 * j.height.hi) = 2 * j.height.hi ∧ IntKind.i64.wrap (a.thick.lo - b.thick.hi - j.glue.hi - 2 * a.depth.hi + j.lead.lo - 2 * j.height.hi) = g0) ∧
    IntKind.i64.wrap (a.thick.hi - b.thick.lo) = a.thick.hi - b.thick.lo ∧ IntKind.i64.wrap (a.thick.hi - b.thick.lo - j.glue.lo) = a.thick.hi - b.thick.lo - j.glue.lo ∧ IntKind.i64.wrap (2 * a.depth.lo) = 2 * a.depth.lo ∧ IntKind.i64.wrap (a.thick.hi - b.thick.lo - j.glue.lo - 2 * a.depth.lo) = a.thick.hi - b.thick.lo - j.glue.lo - 2 * a.depth.lo ∧ IntKind.i64.wrap (a.thick.hi - b.thick.lo - j.glue.lo - 2 * a.depth.lo + j.lead.hi) = a.thick.hi - b.thick.lo - j.glue.lo - 2 * a.depth.lo + j.lead.hi ∧ IntKind.i64.wrap (2 * j.height.lo) = 2 * j.height.lo ∧ IntKind.i64.wrap (a.thick.hi - b.thick.lo - j.glue.lo - 2 * a.depth.lo + j.lead.hi - 2 * j.height.lo) = g1 := by
  subst h0 h1
  obtain ⟨jg0, jg1, jg2, jl0, jl1, jl2, js0, js1, js2, jh0, jh1, jh2, jp0, jp1, jn0, jn1⟩ := hj
  obtain ⟨at0, at1, at2, ad0, ad1, ad2, as0, as1, as2, ap0, ap1, ap2⟩ := ha
  obtain ⟨bt0, bt1, bt2, bd0, bd1, bd2, bs0, bs1, bs2, bp0, bp1, bp2⟩ := hb
  unfold heightS
  dsimp only
  refine ⟨⟨?_, ?_, ?_, ?_, ?_, ?_, ?_⟩, ?_, ?_, ?_, ?_, ?_, ?_, ?_⟩
  all_goals exact wrz (by omega) (by omega)
/-- The numbers of a round's two rows. -/
theorem side_wraps {j : Jig} {a b : Slat} (hj : JigIn j) (ha : SlatIn a) (hb : SlatIn b) {k : Int} (k0 : 0 ≤ k) (k1 : k ≤ 9) {s0 s1 : Int} (h0 : (sideS j a b k).lo = s0) (h1 : (sideS j a b k).hi = s1) :
    (IntKind.i64.wrap (k * a.pitch.lo) = k * a.pitch.lo ∧ IntKind.i64.wrap (a.shift.lo + k * a.pitch.lo) = a.shift.lo + k * a.pitch.lo ∧ IntKind.i64.wrap (a.shift.lo + k * a.pitch.lo + b.shift.lo) = a.shift.lo + k * a.pitch.lo + b.shift.lo ∧ IntKind.i64.wrap (k * b.pitch.lo) = k * b.pitch.lo ∧ IntKind.i64.wrap (a.shift.lo + k * a.pitch.lo + b.shift.lo + k * b.pitch.lo) = a.shift.lo + k * a.pitch.lo + b.shift.lo + k * b.pitch.lo ∧ IntKind.i64.wrap (2 * j.side.hi) = 2 * j.side.hi ∧ IntKind.i64.wrap (a.shift.lo + k * a.pitch.lo + b.shift.lo + k * b.pitch.lo - 2 * j.side.hi) = s0) ∧
    (IntKind.i64.wrap (k * a.pitch.hi) = k * a.pitch.hi ∧ IntKind.i64.wrap (a.shift.hi + k * a.pitch.hi) = a.shift.hi + k * a.pitch.hi ∧ IntKind.i64.wrap (a.shift.hi + k * a.pitch.hi + b.shift.hi) = a.shift.hi + k * a.pitch.hi + b.shift.hi ∧ IntKind.i64.wrap (k * b.pitch.hi) = k * b.pitch.hi ∧ IntKind.i64.wrap (a.shift.hi + k * a.pitch.hi + b.shift.hi + k * b.pitch.hi) = a.shift.hi + k * a.pitch.hi + b.shift.hi + k * b.pitch.hi ∧ IntKind.i64.wrap (2 * j.side.lo) = 2 * j.side.lo ∧ IntKind.i64.wrap (a.shift.hi + k * a.pitch.hi + b.shift.hi + k * b.pitch.hi - 2 * j.side.lo) = s1) ∧
    ((-3000 ≤ s0 ∧ s0 ≤ 3000) ∧ -3000 ≤ s1 ∧ s1 ≤ 3000) := by
  have hs := side_bd hj ha hb k0 k1
  have m1 := mul_in (i := k) (x := a.pitch.lo) (m := 50) k0 k1 ha.p0 (by have := ha.p1; have := ha.p2; omega) (by omega)
  have m2 := mul_in (i := k) (x := a.pitch.hi) (m := 50) k0 k1 (by have := ha.p0; have := ha.p1; omega) ha.p2 (by omega)
  have m3 := mul_in (i := k) (x := b.pitch.lo) (m := 50) k0 k1 hb.p0 (by have := hb.p1; have := hb.p2; omega) (by omega)
  have m4 := mul_in (i := k) (x := b.pitch.hi) (m := 50) k0 k1 (by have := hb.p0; have := hb.p1; omega) hb.p2 (by omega)
  unfold SpanBd at hs
  rw [h0, h1] at hs
  obtain ⟨jg0, jg1, jg2, jl0, jl1, jl2, js0, js1, js2, jh0, jh1, jh2, jp0, jp1, jn0, jn1⟩ := hj
  obtain ⟨at0, at1, at2, ad0, ad1, ad2, as0, as1, as2, ap0, ap1, ap2⟩ := ha
  obtain ⟨bt0, bt1, bt2, bd0, bd1, bd2, bs0, bs1, bs2, bp0, bp1, bp2⟩ := hb
  unfold sideS placeS at h0 h1
  dsimp only at h0 h1
  generalize k * a.pitch.lo = p1 at *
  generalize k * a.pitch.hi = p2 at *
  generalize k * b.pitch.lo = p3 at *
  generalize k * b.pitch.hi = p4 at *
  refine ⟨⟨?_, ?_, ?_, ?_, ?_, ?_, ?_⟩, ⟨?_, ?_, ?_, ?_, ?_, ?_, ?_⟩, ?_⟩
  all_goals first | exact wrz (by omega) (by omega) | (rw [wrz (by omega) (by omega)]; omega) | omega
/-- The numbers of the inner loop: u and v, and their squares. -/
theorem sq_wraps {s0 s1 g0 g1 u v lim : Int} (h1 : (-3000 ≤ s0 ∧ s0 ≤ 3000) ∧ -3000 ≤ s1 ∧ s1 ≤ 3000) (h2 : (-40000 ≤ g0 ∧ g0 ≤ 40000) ∧ -40000 ≤ g1 ∧ g1 ≤ 40000) (hu : max s1 (-s0) = u) (hv : max g1 (-g0) = v) (hl : 0 ≤ lim ∧ lim ≤ 1000) :
    IntKind.i64.wrap (u * u) = u * u ∧ IntKind.i64.wrap (v * v) = v * v ∧ IntKind.i64.wrap (u * u + v * v) = u * u + v * v ∧ IntKind.i64.wrap (4 * lim) = 4 * lim ∧ IntKind.i64.wrap (4 * lim * lim) = 4 * lim * lim := by
  have a1 := sq_le (x := u) (m := 3000) (by omega) (by omega)
  have a2 := sq_le (x := v) (m := 40000) (by omega) (by omega)
  have a3 := sq_le (x := lim) (m := 1000) (by omega) (by omega)
  have b1 := mul_self_nn u
  have b2 := mul_self_nn v
  have b3 := mul_self_nn lim
  have e2 : 4 * lim * lim = 4 * (lim * lim) := Int.mul_assoc _ _ _
  rw [e2]
  clear hu hv
  refine ⟨?_, ?_, ?_, ?_, ?_⟩
  all_goals exact wrz (by omega) (by omega)
/-- The numbers of the last rows. -/
theorem end_wraps {j : Jig} {a b : Slat} (hj : JigIn j) (ha : SlatIn a) (hb : SlatIn b) {l : Int} (hl : j.grooves - 1 = l) :
    IntKind.i64.wrap (j.grooves - 1) = l ∧
    (IntKind.i64.wrap (a.shift.hi - b.shift.lo) = a.shift.hi - b.shift.lo ∧ IntKind.i64.wrap (b.shift.hi - a.shift.lo) = b.shift.hi - a.shift.lo ∧ IntKind.i64.wrap (a.pitch.hi - b.pitch.lo) = a.pitch.hi - b.pitch.lo ∧ IntKind.i64.wrap (b.pitch.hi - a.pitch.lo) = b.pitch.hi - a.pitch.lo ∧ IntKind.i64.wrap (l * (a.pitch.hi - b.pitch.lo)) = l * (a.pitch.hi - b.pitch.lo) ∧ IntKind.i64.wrap (l * (b.pitch.hi - a.pitch.lo)) = l * (b.pitch.hi - a.pitch.lo) ∧ IntKind.i64.wrap (a.shift.hi - b.shift.lo + l * (a.pitch.hi - b.pitch.lo)) = a.shift.hi - b.shift.lo + l * (a.pitch.hi - b.pitch.lo) ∧ IntKind.i64.wrap (b.shift.hi - a.shift.lo + l * (b.pitch.hi - a.pitch.lo)) = b.shift.hi - a.shift.lo + l * (b.pitch.hi - a.pitch.lo) ∧
    IntKind.i64.wrap (a.depth.lo + b.depth.lo) = a.depth.lo + b.depth.lo ∧ IntKind.i64.wrap (a.depth.lo + b.depth.lo + j.glue.lo) = a.depth.lo + b.depth.lo + j.glue.lo ∧ IntKind.i64.wrap (a.depth.hi + b.depth.hi) = a.depth.hi + b.depth.hi ∧ IntKind.i64.wrap (a.depth.hi + b.depth.hi + j.glue.hi) = a.depth.hi + b.depth.hi + j.glue.hi) ∧
    (IntKind.i64.wrap (-j.play) = -j.play ∧ IntKind.i64.wrap (a.shift.lo - b.shift.hi) = a.shift.lo - b.shift.hi ∧ IntKind.i64.wrap (a.pitch.lo - b.pitch.hi) = a.pitch.lo - b.pitch.hi ∧ IntKind.i64.wrap (l * (a.pitch.lo - b.pitch.hi)) = l * (a.pitch.lo - b.pitch.hi) ∧ ∀ left right : Int, left = max (-j.play) (a.shift.lo - b.shift.hi) → right = min j.play (a.shift.hi - b.shift.lo) → IntKind.i64.wrap (left + l * (a.pitch.lo - b.pitch.hi)) = left + l * (a.pitch.lo - b.pitch.hi) ∧ IntKind.i64.wrap (right + l * (a.pitch.hi - b.pitch.lo)) = right + l * (a.pitch.hi - b.pitch.lo)) := by
  obtain ⟨jg0, jg1, jg2, jl0, jl1, jl2, js0, js1, js2, jh0, jh1, jh2, jp0, jp1, jn0, jn1⟩ := hj
  obtain ⟨at0, at1, at2, ad0, ad1, ad2, as0, as1, as2, ap0, ap1, ap2⟩ := ha
  obtain ⟨bt0, bt1, bt2, bd0, bd1, bd2, bs0, bs1, bs2, bp0, bp1, bp2⟩ := hb
  have m1 := mul_in (i := l) (x := a.pitch.hi - b.pitch.lo) (m := 100) (by omega) (by omega) (by omega) (by omega) (by omega)
  have m2 := mul_in (i := l) (x := b.pitch.hi - a.pitch.lo) (m := 100) (by omega) (by omega) (by omega) (by omega) (by omega)
  have m3 := mul_in (i := l) (x := a.pitch.lo - b.pitch.hi) (m := 100) (by omega) (by omega) (by omega) (by omega) (by omega)
  generalize l * (a.pitch.hi - b.pitch.lo) = q1 at *
  generalize l * (b.pitch.hi - a.pitch.lo) = q2 at *
  generalize l * (a.pitch.lo - b.pitch.hi) = q3 at *
  refine ⟨?_, ⟨?_, ?_, ?_, ?_, ?_, ?_, ?_, ?_, ?_, ?_, ?_, ?_⟩, ?_, ?_, ?_, ?_, ?_⟩
  · rw [wrz (by omega) (by omega)]; exact hl
  all_goals first | exact wrz (by omega) (by omega) | (rintro left right h1 h2; exact ⟨wrz (by omega) (by omega), wrz (by omega) (by omega)⟩)
theorem mul_turn (l x y : Int) : l * (y - x) = -(l * (x - y)) := by rw [← Int.mul_neg]; congr 1; omega
theorem always_iff {j : Jig} {a b : Slat} (hj : JigIn j) (ha : SlatIn a) (hb : SlatIn b) {l : Int} (hl : j.grooves - 1 = l) :
    alwaysB j a b = true ↔ (max (a.shift.hi - b.shift.lo) (b.shift.hi - a.shift.lo) ≤ j.play ∧ max (a.shift.hi - b.shift.lo + l * (a.pitch.hi - b.pitch.lo)) (b.shift.hi - a.shift.lo + l * (b.pitch.hi - a.pitch.lo)) ≤ j.play) ∧ j.lead.hi ≤ a.depth.lo + b.depth.lo + j.glue.lo := by
  obtain ⟨jg0, jg1, jg2, jl0, jl1, jl2, js0, js1, js2, jh0, jh1, jh2, jp0, jp1, jn0, jn1⟩ := hj
  obtain ⟨at0, at1, at2, ad0, ad1, ad2, as0, as1, as2, ap0, ap1, ap2⟩ := ha
  obtain ⟨bt0, bt1, bt2, bd0, bd1, bd2, bs0, bs1, bs2, bp0, bp1, bp2⟩ := hb
  rw [mul_turn l a.pitch.lo b.pitch.hi]
  unfold alwaysB insideB roomS roomB firstS playS lastS cutS stepS playS firstS
  simp only [Bool.and_eq_true, decide_eq_true_eq]
  rw [hl]
  generalize l * (a.pitch.hi - b.pitch.lo) = q1
  generalize l * (a.pitch.lo - b.pitch.hi) = q3
  omega
theorem perhaps_iff {j : Jig} {a b : Slat} (hj : JigIn j) (ha : SlatIn a) (hb : SlatIn b) {l left right : Int} (hl : j.grooves - 1 = l) (h1 : left = max (-j.play) (a.shift.lo - b.shift.hi)) (h2 : right = min j.play (a.shift.hi - b.shift.lo)) :
    perhapsB j a b = true ↔ ((left ≤ right ∧ left + l * (a.pitch.lo - b.pitch.hi) ≤ j.play) ∧ -j.play ≤ right + l * (a.pitch.hi - b.pitch.lo)) ∧ j.lead.lo ≤ a.depth.hi + b.depth.hi + j.glue.hi := by
  obtain ⟨jg0, jg1, jg2, jl0, jl1, jl2, js0, js1, js2, jh0, jh1, jh2, jp0, jp1, jn0, jn1⟩ := hj
  obtain ⟨at0, at1, at2, ad0, ad1, ad2, as0, as1, as2, ap0, ap1, ap2⟩ := ha
  obtain ⟨bt0, bt1, bt2, bd0, bd1, bd2, bs0, bs1, bs2, bp0, bp1, bp2⟩ := hb
  have m := Int.mul_le_mul_of_nonneg_left (show a.pitch.lo - b.pitch.hi ≤ a.pitch.hi - b.pitch.lo by omega) (show 0 ≤ l by omega)
  subst h1 h2
  unfold perhapsB meetsB roomS roomB lastS cutS stepS playS firstS
  simp only [Bool.and_eq_true, decide_eq_true_eq]
  rw [hl]
  generalize l * (a.pitch.hi - b.pitch.lo) = q1 at *
  generalize l * (a.pitch.lo - b.pitch.hi) = q3 at *
  omega
theorem gra_q {j : Jig} {a b : Slat} {x : List Int} {N : Nat} (hN : j.grooves = N) (h : graE j a b x = 0) (k : Nat) (hk : k < N) {s0 s1 g0 g1 : Int} (e0 : (sideS j a b k).lo = s0) (e1 : (sideS j a b k).hi = s1) (e2 : (heightS j a b).lo = g0) (e3 : (heightS j a b).hi = g1) :
    ∃ g : Int, (graL j a b x)[k]? = some g ∧ ∀ (u v : Int), max s1 (-s0) = u → max g1 (-g0) = v → ∀ (q : Nat) (hq : q < x.length), (u * u + v * v ≤ 4 * x[q] * x[q] ↔ (g ≠ -1 ∧ g ≤ (q : Int))) ∧ (0 ≤ x[q] ∧ x[q] ≤ 1000) := by
  obtain ⟨h1, h2⟩ := gra_yes hN h
  have hl : k < (gradesOf j a b x).length := by rw [← h1, h2]; exact hk
  refine ⟨gradeOf (leadOf j a b (k : Int)) x, ?_, ?_⟩
  · rw [h1, List.getElem?_eq_getElem hl, gra_at hl]
  · rintro u v rfl rfl q hq
    refine ⟨?_, gra_lims h _ (List.getElem_mem hq)⟩
    have := grade_iff (gra_rise h) (gra_lims h) (leadOf j a b (k : Int)) hq
    rw [show amountS (leadOf j a b (k : Int)).side = max s1 (-s0) by unfold amountS leadOf; dsimp only; rw [e0, e1, Int.max_comm], show amountS (leadOf j a b (k : Int)).height = max g1 (-g0) by unfold amountS leadOf; dsimp only; rw [e2, e3, Int.max_comm]] at this
    exact this
theorem always_perhaps {j : Jig} {a b : Slat} (hj : JigIn j) (ha : SlatIn a) (hb : SlatIn b) (h : alwaysB j a b = true) : perhapsB j a b = true := by
  rw [perhaps_iff hj ha hb rfl rfl rfl]
  rw [always_iff hj ha hb rfl, mul_turn (j.grooves - 1) a.pitch.lo b.pitch.hi] at h
  have hl0 : 0 ≤ j.grooves - 1 := by have := hj.n0; omega
  have m1 := Int.mul_le_mul_of_nonneg_left ha.p1 hl0
  have m2 := Int.mul_le_mul_of_nonneg_left hb.p1 hl0
  have e1 := Int.mul_sub (j.grooves - 1) a.pitch.lo b.pitch.hi
  have e2 := Int.mul_sub (j.grooves - 1) a.pitch.hi b.pitch.lo
  obtain ⟨jg0, jg1, jg2, jl0, jl1, jl2, js0, js1, js2, jh0, jh1, jh2, jp0, jp1, jn0, jn1⟩ := hj
  obtain ⟨at0, at1, at2, ad0, ad1, ad2, as0, as1, as2, ap0, ap1, ap2⟩ := ha
  obtain ⟨bt0, bt1, bt2, bd0, bd1, bd2, bs0, bs1, bs2, bp0, bp1, bp2⟩ := hb
  rw [e1, e2] at h ⊢
  clear e1 e2
  generalize (j.grooves - 1) * a.pitch.lo = x1 at *
  generalize (j.grooves - 1) * a.pitch.hi = x2 at *
  generalize (j.grooves - 1) * b.pitch.lo = x3 at *
  generalize (j.grooves - 1) * b.pitch.hi = x4 at *
  omega
theorem side_bds {j : Jig} {a b : Slat} (hj : JigIn j) (ha : SlatIn a) (hb : SlatIn b) {g0 g1 : Int} (e2 : (heightS j a b).lo = g0) (e3 : (heightS j a b).hi = g1) : (-40000 ≤ g0 ∧ g0 ≤ 40000) ∧ -40000 ≤ g1 ∧ g1 ≤ 40000 := by
  have h := height_bd hj ha hb
  unfold SpanBd at h
  rw [e2, e3] at h
  omega

def U16At (w : World) (b off : Nat) (l : List Int) : Prop := ∀ i (h : i < l.length), w.cell? ⟨b, off + i, none⟩ = some (.int .u16 l[i])
def U16Sl (w : World) (B : Nat) (A : Option Addr) (l : List Int) : Prop := l ≠ [] → ∃ b off, A = some ⟨b, off, none⟩ ∧ b < B ∧ U16At w b off l
theorem U16At.below {w w' : World} {b off B : Nat} {l : List Int} (h : U16At w b off l) (hb : Below B w w') (hlt : b < B) : U16At w' b off l := fun i hi => (hb.cell (p := ⟨b, _, none⟩) hlt).trans (h i hi)
theorem U16Sl.on {w w' : World} {B : Nat} {A : Option Addr} {l : List Int} (h : U16Sl w B A l) (hb : Below w.heap.size w w') (hB : B ≤ w.heap.size) : U16Sl w' w'.heap.size A l := fun hne => by
  obtain ⟨b, off, e, hlt, hs⟩ := h hne
  exact ⟨b, off, e, Nat.lt_of_lt_of_le hlt (Nat.le_trans hB hb.size), hs.below (hb.mono hB) hlt⟩
def pickV (lo hi y : Int) : Int := lo + y % (hi - lo + 1)
theorem pickV_bd {lo hi y : Int} (h : lo ≤ hi) : lo ≤ pickV lo hi y ∧ pickV lo hi y ≤ hi := by
  unfold pickV
  have h1 := Int.emod_nonneg y (show hi - lo + 1 ≠ 0 by omega)
  have h2 := Int.emod_lt_of_pos y (show (0 : Int) < hi - lo + 1 by omega)
  omega
/-- A true width is between the thinnest and the thickest one. -/
theorem nano_between {wide w0 w1 s0 s1 u0 u1 u wear shrink : Int} (a0 : 0 ≤ wide) (b0 : 0 ≤ w0) (_c0 : 0 ≤ s0) (c1 : s1 ≤ 300) (d0 : 0 ≤ u0) (hw0 : w0 ≤ wear) (hw1 : wear ≤ w1) (hs0 : s0 ≤ shrink) (hs1 : shrink ≤ s1) (hu0 : u0 ≤ u) (hu1 : u ≤ u1) :
    nano wide w0 s1 u0 ≤ nano wide wear shrink u ∧ nano wide wear shrink u ≤ nano wide w1 s0 u1 := by
  unfold nano
  have e0 : w0 * u0 ≤ wear * u := Int.mul_le_mul hw0 hu0 d0 (by omega)
  have e1 : wear * u ≤ w1 * u1 := Int.mul_le_mul hw1 hu1 (by omega) (by omega)
  have e2 : 0 ≤ w0 * u0 := Int.mul_nonneg b0 d0
  exact ⟨Int.mul_le_mul (by omega) (by omega) (by omega) (by omega), Int.mul_le_mul (by omega) (by omega) (by omega) (by omega)⟩

theorem u16_bd (n : Int) : 0 ≤ IntKind.u16.wrap n ∧ IntKind.u16.wrap n ≤ 65535 := by
  have h : IntKind.u16.wrap n = n % 65536 := by
    simp [IntKind.wrap, IntKind.signed, IntKind.bits]
  rw [h]
  omega
theorem Blk.keep1 {W W' : World} {g L : Nat} {t : TypeId} {cs : Array Value} (h : Blk W g t cs) (hk : Keeps1 L W W') (hne : g ≠ L) : Blk W' g t cs := (hk.block g hne h.lt).trans h
theorem Keeps1.row {w W : World} {L g : Nat} (h : Keeps1 L w W) (hg : w.heap.size ≤ g) (cs : Array Value) : Keeps1 L w (W.setRow g cs) := ⟨by have := h.size; simp; omega, fun i h1 h3 => (setRow_other W g i cs (by omega)).trans (h.block i h1 h3)⟩
/-- A drawer: what it draws by, and how often it has. -/
structure DrS (gd B : Nat) (Y : Option Addr) (c : Nat) (ys : List Int) (k : Nat) (W : World) : Prop where
  kd : Blk W gd 53 #[.slice Y ys.length c, .int .i64 (k : Int)]
  sl : U16Sl W B Y ys
section
variable {gd B : Nat} {Y : Option Addr} {c : Nat} {ys : List Int} {k : Nat} {W W' : World}
theorem DrS.low (x : DrS gd B Y c ys k W) {M : Nat} (hb : Below M W W') (hg : gd < M) (hB : B ≤ M) : DrS gd B Y c ys k W' :=
  ⟨x.kd.below hb hg, fun hne => by obtain ⟨b, off, e, hlt, hs⟩ := x.sl hne; exact ⟨b, off, e, hlt, hs.below hb (Nat.lt_of_lt_of_le hlt hB)⟩⟩
theorem DrS.keep (x : DrS gd B Y c ys k W) (hb : Below W.heap.size W W') (hB : B ≤ W.heap.size) : DrS gd B Y c ys k W' := x.low hb x.kd.lt hB
end
def RetDr (gd B : Nat) (Y : Option Addr) (c : Nat) (ys : List Int) (k : Nat) (lo hi : Int) (w : World) (e : Ending) (w' : World) : Prop := ∃ v : Int, e = .returned (.int .i64 v) ∧ (lo ≤ v ∧ v ≤ hi) ∧ DrS gd B Y c ys (k + 1) w' ∧ Keeps1 gd w w' ∧ Below gd w w'
set_option maxRecDepth 100000 in
set_option maxHeartbeats 2000000 in
theorem of5d_any (gd B : Nat) (Y : Option Addr) (c : Nat) (ys : List Int) (k : Nat) (lo hi : Int) (w : World) (hk : k ≤ 100) (h0 : -1000000 ≤ lo) (h1 : lo ≤ hi) (h2 : hi ≤ 1000000) (hy : ys ≠ []) (hyl : ys.length ≤ 9223372036854775807) (hyb : ∀ y ∈ ys, 0 ≤ y ∧ y ≤ 65535) (hS : DrS gd B Y c ys k w) (hB : B ≤ gd) :
    Calls Try.prog 27 #[.pointer (some ⟨gd, 0, none⟩), .agg #[.int .i64 lo, .int .i64 hi]] w (RetDr gd B Y c ys k lo hi w) := by
  obtain ⟨bY, oY, rfl, hbY, hat⟩ := hS.sl hy
  have hl1 : 0 < ys.length := List.length_pos_iff.2 hy
  obtain ⟨m, hm⟩ : ∃ m, (k + 1) % ys.length = m := ⟨_, rfl⟩
  have hml : m < ys.length := by rw [← hm]; exact Nat.mod_lt _ hl1
  have hcm := hat m hml
  have hyb2 := hyb ys[m] (List.getElem_mem hml)
  have hgd := hS.kd.lt
  generalize ys[m] = y at *
  obtain ⟨v1, hv1⟩ : ∃ v, IntKind.u16.wrap ((k : Int) + 1) = v := ⟨_, rfl⟩
  obtain ⟨u, hu⟩ : ∃ v, IntKind.u16.wrap (y + v1) = v := ⟨_, rfl⟩
  have hub := u16_bd (y + v1)
  rw [hu] at hub
  have hb := pickV_bd (y := u) h1
  have HP : Hid (pickV lo hi u = lo + u % (hi - lo + 1)) := Lib.hid rfl
  have hr : u.tmod (hi - lo + 1) = u % (hi - lo + 1) := Int.tmod_eq_emod_of_nonneg hub.1
  have hm0 := Int.emod_nonneg u (show hi - lo + 1 ≠ 0 by omega)
  have hm1 := Int.emod_lt_of_pos u (show (0 : Int) < hi - lo + 1 by omega)
  have hw1 : IntKind.i64.wrap (hi - lo) = hi - lo := wr (by omega) (by omega)
  have hw2 : IntKind.i64.wrap (hi - lo + 1) = hi - lo + 1 := wr (by omega) (by omega)
  have hw3 : IntKind.i64.wrap u = u := wr (by omega) (by omega)
  have hn : (hi - lo + 1 == 0) = false := by rw [beq_eq_false_iff_ne]; omega
  have hn2 : hi - lo + 1 ≠ 0 := by omega
  have hrk : ((k : Int) + 1).tmod (ys.length : Int) = (m : Int) := by
    rw [Int.tmod_eq_emod_of_nonneg (by omega), ← hm]
    simp
  have hwk : IntKind.i64.wrap ((k : Int) + 1) = (k : Int) + 1 := wr (by omega) (by omega)
  have hwm : IntKind.i64.wrap (m : Int) = (m : Int) := wr (by omega) (by omega)
  have hnl : ((ys.length : Int) == 0) = false := by rw [beq_eq_false_iff_ne]; omega
  have hnl2 : (ys.length : Int) ≠ 0 := by omega
  have hml' : (m : Int) < ys.length := by omega
  have hm0' : (0 : Int) ≤ m := by omega
  generalize u % (hi - lo + 1) = r at *
  have hw4 : IntKind.i64.wrap r = r := wr (by omega) (by omega)
  have hw5 : IntKind.i64.wrap (lo + r) = lo + r := wr (by omega) (by omega)
  generalize pickV lo hi u = z at *
  have x0 := hS.kd.cell 1
  have x1 := hS.kd.frozen 1
  have hs3 : Below ((w.setCell ⟨gd, 1, none⟩ (.int .i64 ((k : Int) + 1)))).heap.size (w.setCell ⟨gd, 1, none⟩ (.int .i64 ((k : Int) + 1))) ((w.setCell ⟨gd, 1, none⟩ (.int .i64 ((k : Int) + 1))).alloc (.cells #[.int .i64 lo, .int .i64 hi] 23)) := (Below.refl _ _).alloc (Nat.le_refl _) _
  have hcm1 : ((w.setCell ⟨gd, 1, none⟩ (.int .i64 ((k : Int) + 1)))).cell? ⟨bY, oY + m, none⟩ = some (.int .u16 y) := (World.cell?_of_block (a := ⟨bY, oY + m, none⟩) (Below.heap_setCell _ _ _ _ (by simp only []; omega))).trans hcm
  have hW : DrS gd B (some ⟨bY, oY, none⟩) c ys (k + 1) ((w.setCell ⟨gd, 1, none⟩ (.int .i64 ((k : Int) + 1))).alloc (.cells #[.int .i64 lo, .int .i64 hi] 23)) := by
    refine DrS.keep ⟨?_, fun hne => ⟨bY, oY, rfl, hbY, fun i hi => ?_⟩⟩ hs3 (by simp; omega)
    · exact hS.kd.set_ 1 (.int .i64 ((k : Int) + 1))
    · obtain ⟨b, off, e, hlt, hs⟩ := hS.sl hne
      cases e
      exact (World.cell?_of_block (a := ⟨bY, oY + i, none⟩) (Below.heap_setCell _ _ _ _ (by simp only []; omega))).trans (hs i hi)
  have hK : Keeps1 gd w ((w.setCell ⟨gd, 1, none⟩ (.int .i64 ((k : Int) + 1))).alloc (.cells #[.int .i64 lo, .int .i64 hi] 23)) := (Keeps1.set _ _ _).trans (.of_below hs3)
  have hBl : Below gd w ((w.setCell ⟨gd, 1, none⟩ (.int .i64 ((k : Int) + 1))).alloc (.cells #[.int .i64 lo, .int .i64 hi] 23)) := ((Below.refl gd w).setCell (by simp) _).alloc (by simp; omega) _
  have K3 : Blk ((w.setCell ⟨gd, 1, none⟩ (.int .i64 ((k : Int) + 1))).alloc (.cells #[.int .i64 lo, .int .i64 hi] 23)) w.heap.size 23 #[.int .i64 lo, .int .i64 hi] := by
    have h9 := Blk.new (w.setCell ⟨gd, 1, none⟩ (.int .i64 ((k : Int) + 1))) 23 #[.int .i64 lo, .int .i64 hi]
    rw [World.size_setCell] at h9
    exact h9
  have HW := Lib.hid hW
  have HKA : Hid (Blk ((w.setCell ⟨gd, 1, none⟩ (.int .i64 ((k : Int) + 1))).alloc (.cells #[.int .i64 lo, .int .i64 hi] 23)) gd 53 #[.slice (some ⟨bY, oY, none⟩) ys.length c, .int .i64 ((k : Int) + 1)]) := Lib.hid (by have h9 := hW.kd; rw [Int.natCast_add] at h9; exact h9)
  have HK := Lib.hid hK
  have HBl := Lib.hid hBl
  have HK3 := Lib.hid K3
  have HC : Hid ((((w.setCell ⟨gd, 1, none⟩ (.int .i64 ((k : Int) + 1))).alloc (.cells #[.int .i64 lo, .int .i64 hi] 23))).cell? ⟨bY, oY + m, none⟩ = some (.int .u16 y)) := Lib.hid ((hs3.cell (p := ⟨bY, oY + m, none⟩) (by simp; omega)).trans hcm1)
  clear hS hs3 hW hK hBl K3 hat hcm hcm1 hm hbY
  go_enter Try.func27, Try.ntmps27
  go_wp2_with fail
  generalize World.alloc (World.setCell _ _ _) _ = V at HW HKA HK HBl HK3 HC ⊢
  refine wp_region_held_drew (S := fun W => Blk W w.heap.size 23 #[.int .i64 lo, .int .i64 hi] ∧ Blk W gd 53 #[.slice (some ⟨bY, oY, none⟩) ys.length c, .int .i64 ((k : Int) + 1)] ∧ W.cell? ⟨bY, oY + m, none⟩ = some (.int .u16 y)) (by kernel_rfl) ⟨HK3.out, HKA.out, HC.out⟩ (fun hH0 => ?_)
  generalize hV0 : World.drew V = V0 at hH0 ⊢
  simp only [List.size_toArray, List.length_cons, List.length_nil, Nat.reduceAdd, Array.replicate_succ, Array.replicate_zero, List.push_toArray, List.nil_append, List.cons_append]
  refine wpAnyH_take (i := 0 ) (v := ?_) rfl (by kernel_rfl) (by kernel_rfl) (by kernel_rfl) (fun _ _ _ h => h) (Or.inl ⟨by rfl, ?_⟩) (by assumption) ?_; rotate_left; (· (intro w0 hSw; obtain ⟨k1, k2, k4⟩ := hSw; have s0 := k1.cell 0; have s1 := k1.cell 1; have s2 := k2.cell 0; have s3 := k2.cell 1; clear k1 k2; go_simp); first | done | with_reducible rfl); (try simp only [Act.put, List.getElem_toArray, List.getElem_cons_zero, List.setIfInBounds_toArray, List.set_cons_zero, List.set_cons_succ])
  refine wpAnyH_take (i := 1 ) (v := ?_) rfl (by kernel_rfl) (by kernel_rfl) (by kernel_rfl) (fun _ _ _ h => h) (Or.inl ⟨by rfl, ?_⟩) (by assumption) ?_; rotate_left; (· (intro w0 hSw; obtain ⟨k1, k2, k4⟩ := hSw; have s0 := k1.cell 0; have s1 := k1.cell 1; have s2 := k2.cell 0; have s3 := k2.cell 1; clear k1 k2; go_simp); first | done | with_reducible rfl); (try simp only [Act.put, List.getElem_toArray, List.getElem_cons_succ, List.getElem_cons_zero, List.setIfInBounds_toArray, List.set_cons_zero, List.set_cons_succ])
  refine wpAnyH_take (i := 2 ) (v := ?_) rfl (by kernel_rfl) (by kernel_rfl) (by kernel_rfl) (fun _ _ _ h => h) (Or.inl ⟨by rfl, ?_⟩) (by assumption) ?_; rotate_left; (· (intro w0 hSw; obtain ⟨k1, k2, k4⟩ := hSw; have s0 := k1.cell 0; have s1 := k1.cell 1; have s2 := k2.cell 0; have s3 := k2.cell 1; clear k1 k2; go_simp); first | done | with_reducible rfl); (try simp only [Act.put, List.getElem_toArray, List.getElem_cons_succ, List.getElem_cons_zero, List.setIfInBounds_toArray, List.set_cons_zero, List.set_cons_succ])
  refine wpAnyH_take (i := 3 ) (v := ?_) rfl (by kernel_rfl) (by kernel_rfl) (by kernel_rfl) (fun _ _ _ h => h) (Or.inl ⟨by rfl, ?_⟩) (by assumption) ?_; rotate_left; (· (intro w0 hSw; obtain ⟨k1, k2, k4⟩ := hSw; have s0 := k1.cell 0; have s1 := k1.cell 1; have s2 := k2.cell 0; have s3 := k2.cell 1; clear k1 k2; go_simp); first | done | with_reducible rfl); (try simp only [Act.put, List.getElem_toArray, List.getElem_cons_succ, List.getElem_cons_zero, List.setIfInBounds_toArray, List.set_cons_zero, List.set_cons_succ])
  refine wpAnyH_take (i := 4 ) (v := ?_) rfl (by kernel_rfl) (by kernel_rfl) (by kernel_rfl) (fun _ _ _ h => h) (Or.inl ⟨by rfl, ?_⟩) (by assumption) ?_; rotate_left; (· (intro w0 hSw; obtain ⟨k1, k2, k4⟩ := hSw; have s0 := k1.cell 0; have s1 := k1.cell 1; have s2 := k2.cell 0; have s3 := k2.cell 1; clear k1 k2; go_simp); first | done | with_reducible rfl); (try simp only [Act.put, List.getElem_toArray, List.getElem_cons_succ, List.getElem_cons_zero, List.setIfInBounds_toArray, List.set_cons_zero, List.set_cons_succ])
  refine wpAnyH_take (i := 5 ) (v := ?_) rfl (by kernel_rfl) (by kernel_rfl) (by kernel_rfl) (fun _ _ _ h => h) (Or.inl ⟨by rfl, ?_⟩) (by assumption) ?_; rotate_left; (· (intro w0 hSw; obtain ⟨k1, k2, k4⟩ := hSw; have s0 := k1.cell 0; have s1 := k1.cell 1; have s2 := k2.cell 0; have s3 := k2.cell 1; clear k1 k2; go_simp); first | done | with_reducible rfl); (try simp only [Act.put, List.getElem_toArray, List.getElem_cons_succ, List.getElem_cons_zero, List.setIfInBounds_toArray, List.set_cons_zero, List.set_cons_succ])
  refine wpAnyH_take (i := 6 ) (v := ?_) rfl (by kernel_rfl) (by kernel_rfl) (by kernel_rfl) (fun _ _ _ h => h) (Or.inl ⟨by rfl, ?_⟩) (by assumption) ?_; rotate_left; (· (intro w0 hSw; obtain ⟨k1, k2, k4⟩ := hSw; have s0 := k1.cell 0; have s1 := k1.cell 1; have s2 := k2.cell 0; have s3 := k2.cell 1; clear k1 k2; go_simp); first | done | with_reducible rfl); (try simp only [Act.put, List.getElem_toArray, List.getElem_cons_succ, List.getElem_cons_zero, List.setIfInBounds_toArray, List.set_cons_zero, List.set_cons_succ])
  refine wpAnyH_take (i := 7 ) (v := ?_) rfl (by kernel_rfl) (by kernel_rfl) (by kernel_rfl) (fun _ _ _ h => h) (Or.inl ⟨by rfl, ?_⟩) (by assumption) ?_; rotate_left; (· (intro w0 hSw; obtain ⟨k1, k2, k4⟩ := hSw; have s0 := k1.cell 0; have s1 := k1.cell 1; have s2 := k2.cell 0; have s3 := k2.cell 1; clear k1 k2; go_simp); first | done | with_reducible rfl); (try simp only [Act.put, List.getElem_toArray, List.getElem_cons_succ, List.getElem_cons_zero, List.setIfInBounds_toArray, List.set_cons_zero, List.set_cons_succ])
  refine wpAnyH_take (i := 8 ) (v := ?_) rfl (by kernel_rfl) (by kernel_rfl) (by kernel_rfl) (fun _ _ _ h => h) (Or.inl ⟨by rfl, ?_⟩) (by assumption) ?_; rotate_left; (· (intro w0 hSw; obtain ⟨k1, k2, k4⟩ := hSw; have s0 := k1.cell 0; have s1 := k1.cell 1; have s2 := k2.cell 0; have s3 := k2.cell 1; clear k1 k2; go_simp); first | done | with_reducible rfl); (try simp only [Act.put, List.getElem_toArray, List.getElem_cons_succ, List.getElem_cons_zero, List.setIfInBounds_toArray, List.set_cons_zero, List.set_cons_succ])
  refine wpAnyH_take (i := 9 ) (v := ?_) rfl (by kernel_rfl) (by kernel_rfl) (by kernel_rfl) (fun _ _ _ h => h) (Or.inl ⟨by rfl, ?_⟩) (by assumption) ?_; rotate_left; (· (intro w0 hSw; obtain ⟨k1, k2, k4⟩ := hSw; have s0 := k1.cell 0; have s1 := k1.cell 1; have s2 := k2.cell 0; have s3 := k2.cell 1; clear k1 k2; go_simp); first | done | with_reducible rfl); (try simp only [Act.put, List.getElem_toArray, List.getElem_cons_succ, List.getElem_cons_zero, List.setIfInBounds_toArray, List.set_cons_zero, List.set_cons_succ])
  refine wpAnyH_take (i := 10 ) (v := ?_) rfl (by kernel_rfl) (by kernel_rfl) (by kernel_rfl) (fun _ _ _ h => h) (Or.inl ⟨by rfl, ?_⟩) (by assumption) ?_; rotate_left; (· (intro w0 hSw; obtain ⟨k1, k2, k4⟩ := hSw; have s0 := k1.cell 0; have s1 := k1.cell 1; have s2 := k2.cell 0; have s3 := k2.cell 1; clear k1 k2; go_simp); first | done | with_reducible rfl); (try simp only [Act.put, List.getElem_toArray, List.getElem_cons_succ, List.getElem_cons_zero, List.setIfInBounds_toArray, List.set_cons_zero, List.set_cons_succ])
  refine wpAnyH_take (i := 11 ) (v := ?_) rfl (by kernel_rfl) (by kernel_rfl) (by kernel_rfl) (fun _ _ _ h => h) (Or.inl ⟨by rfl, ?_⟩) (by assumption) ?_; rotate_left; (· (intro w0 hSw; obtain ⟨k1, k2, k4⟩ := hSw; have s0 := k1.cell 0; have s1 := k1.cell 1; have s2 := k2.cell 0; have s3 := k2.cell 1; clear k1 k2; go_simp); first | done | with_reducible rfl); (try simp only [Act.put, List.getElem_toArray, List.getElem_cons_succ, List.getElem_cons_zero, List.setIfInBounds_toArray, List.set_cons_zero, List.set_cons_succ])
  refine wpAnyH_take (i := 12 ) (v := ?_) rfl (by kernel_rfl) (by kernel_rfl) (by kernel_rfl) (fun _ _ _ h => h) (Or.inl ⟨by rfl, ?_⟩) (by assumption) ?_; rotate_left; (· (intro w0 hSw; obtain ⟨k1, k2, k4⟩ := hSw; have s0 := k1.cell 0; have s1 := k1.cell 1; have s2 := k2.cell 0; have s3 := k2.cell 1; clear k1 k2; go_simp); first | done | with_reducible rfl); (try simp only [Act.put, List.getElem_toArray, List.getElem_cons_succ, List.getElem_cons_zero, List.setIfInBounds_toArray, List.set_cons_zero, List.set_cons_succ])
  refine wpAnyH_take (i := 13 ) (v := ?_) rfl (by kernel_rfl) (by kernel_rfl) (by kernel_rfl) (fun _ _ _ h => h) (Or.inl ⟨by rfl, ?_⟩) (by assumption) ?_; rotate_left; (· (intro w0 hSw; obtain ⟨k1, k2, k4⟩ := hSw; have s0 := k1.cell 0; have s1 := k1.cell 1; have s2 := k2.cell 0; have s3 := k2.cell 1; clear k1 k2; go_simp); first | done | with_reducible rfl); (try simp only [Act.put, List.getElem_toArray, List.getElem_cons_succ, List.getElem_cons_zero, List.setIfInBounds_toArray, List.set_cons_zero, List.set_cons_succ])
  refine wpAnyH_take (i := 14 ) (v := ?_) rfl (by kernel_rfl) (by kernel_rfl) (by kernel_rfl) (fun _ _ _ h => h) (Or.inl ⟨by rfl, ?_⟩) (by assumption) ?_; rotate_left; (· (intro w0 hSw; obtain ⟨k1, k2, k4⟩ := hSw; have s0 := k1.cell 0; have s1 := k1.cell 1; have s2 := k2.cell 0; have s3 := k2.cell 1; clear k1 k2; go_simp); first | done | with_reducible rfl); (try simp only [Act.put, List.getElem_toArray, List.getElem_cons_succ, List.getElem_cons_zero, List.setIfInBounds_toArray, List.set_cons_zero, List.set_cons_succ])
  refine wpAnyH_take (i := 15 ) (v := ?_) rfl (by kernel_rfl) (by kernel_rfl) (by kernel_rfl) (fun _ _ _ h => h) (Or.inl ⟨by rfl, ?_⟩) (by assumption) ?_; rotate_left; (· (intro w0 hSw; obtain ⟨k1, k2, k4⟩ := hSw; have s0 := k1.cell 0; have s1 := k1.cell 1; have s2 := k2.cell 0; have s3 := k2.cell 1; clear k1 k2; go_simp); first | done | with_reducible rfl); (try simp only [Act.put, List.getElem_toArray, List.getElem_cons_succ, List.getElem_cons_zero, List.setIfInBounds_toArray, List.set_cons_zero, List.set_cons_succ])
  refine wpAnyH_take (i := 16 ) (v := ?_) rfl (by kernel_rfl) (by kernel_rfl) (by kernel_rfl) (fun _ _ _ h => h) (Or.inl ⟨by rfl, ?_⟩) (by assumption) ?_; rotate_left; (· (intro w0 hSw; obtain ⟨k1, k2, k4⟩ := hSw; have s0 := k1.cell 0; have s1 := k1.cell 1; have s2 := k2.cell 0; have s3 := k2.cell 1; clear k1 k2; go_simp); first | done | with_reducible rfl); (try simp only [Act.put, List.getElem_toArray, List.getElem_cons_succ, List.getElem_cons_zero, List.setIfInBounds_toArray, List.set_cons_zero, List.set_cons_succ])
  refine wpAnyH_take (i := 17 ) (v := ?_) rfl (by kernel_rfl) (by kernel_rfl) (by kernel_rfl) (fun _ _ _ h => h) (Or.inl ⟨by rfl, ?_⟩) (by assumption) ?_; rotate_left; (· (intro w0 hSw; obtain ⟨k1, k2, k4⟩ := hSw; have s0 := k1.cell 0; have s1 := k1.cell 1; have s2 := k2.cell 0; have s3 := k2.cell 1; clear k1 k2; go_simp); first | done | with_reducible rfl); (try simp only [Act.put, List.getElem_toArray, List.getElem_cons_succ, List.getElem_cons_zero, List.setIfInBounds_toArray, List.set_cons_zero, List.set_cons_succ])
  refine wpAnyH_take (i := 18 ) (v := ?_) rfl (by kernel_rfl) (by kernel_rfl) (by kernel_rfl) (fun _ _ _ h => h) (Or.inl ⟨by rfl, ?_⟩) (by assumption) ?_; rotate_left; (· (intro w0 hSw; obtain ⟨k1, k2, k4⟩ := hSw; have s0 := k1.cell 0; have s1 := k1.cell 1; have s2 := k2.cell 0; have s3 := k2.cell 1; clear k1 k2; go_simp); first | done | with_reducible rfl); (try simp only [Act.put, List.getElem_toArray, List.getElem_cons_succ, List.getElem_cons_zero, List.setIfInBounds_toArray, List.set_cons_zero, List.set_cons_succ])
  refine wpAnyH_take (i := 19 ) (v := ?_) rfl (by kernel_rfl) (by kernel_rfl) (by kernel_rfl) (fun _ _ _ h => h) (Or.inl ⟨by rfl, ?_⟩) (by assumption) ?_; rotate_left; (· (intro w0 hSw; obtain ⟨k1, k2, k4⟩ := hSw; have s0 := k1.cell 0; have s1 := k1.cell 1; have s2 := k2.cell 0; have s3 := k2.cell 1; clear k1 k2; go_simp); first | done | with_reducible rfl); (try simp only [Act.put, List.getElem_toArray, List.getElem_cons_succ, List.getElem_cons_zero, List.setIfInBounds_toArray, List.set_cons_zero, List.set_cons_succ])
  refine wpAnyH_take (i := 20 ) (v := ?_) rfl (by kernel_rfl) (by kernel_rfl) (by kernel_rfl) (fun _ _ _ h => h) (Or.inl ⟨by rfl, ?_⟩) (by assumption) ?_; rotate_left; (· (intro w0 hSw; obtain ⟨k1, k2, k4⟩ := hSw; have s0 := k1.cell 0; have s1 := k1.cell 1; have s2 := k2.cell 0; have s3 := k2.cell 1; clear k1 k2; go_simp); first | done | with_reducible rfl); (try simp only [Act.put, List.getElem_toArray, List.getElem_cons_succ, List.getElem_cons_zero, List.setIfInBounds_toArray, List.set_cons_zero, List.set_cons_succ])
  refine wpAnyH_take (i := 21 ) (v := ?_) rfl (by kernel_rfl) (by kernel_rfl) (by kernel_rfl) (fun _ _ _ h => h) (Or.inl ⟨by rfl, ?_⟩) (by assumption) ?_; rotate_left; (· (intro w0 hSw; obtain ⟨k1, k2, k4⟩ := hSw; have s0 := k1.cell 0; have s1 := k1.cell 1; have s2 := k2.cell 0; have s3 := k2.cell 1; clear k1 k2; go_simp); first | done | with_reducible rfl); (try simp only [Act.put, List.getElem_toArray, List.getElem_cons_succ, List.getElem_cons_zero, List.setIfInBounds_toArray, List.set_cons_zero, List.set_cons_succ])
  refine wpAnyH_take (i := 22 ) (v := ?_) rfl (by kernel_rfl) (by kernel_rfl) (by kernel_rfl) (fun _ _ _ h => h) (Or.inl ⟨by rfl, ?_⟩) (by assumption) ?_; rotate_left; (· (intro w0 hSw; obtain ⟨k1, k2, k4⟩ := hSw; have s0 := k1.cell 0; have s1 := k1.cell 1; have s2 := k2.cell 0; have s3 := k2.cell 1; clear k1 k2; go_simp); first | done | with_reducible rfl); (try simp only [Act.put, List.getElem_toArray, List.getElem_cons_succ, List.getElem_cons_zero, List.setIfInBounds_toArray, List.set_cons_zero, List.set_cons_succ])
  refine wpAnyH_take (i := 23 ) (v := ?_) rfl (by kernel_rfl) (by kernel_rfl) (by kernel_rfl) (fun _ _ _ h => h) (Or.inl ⟨by rfl, ?_⟩) (by assumption) ?_; rotate_left; (· (intro w0 hSw; obtain ⟨k1, k2, k4⟩ := hSw; have s0 := k1.cell 0; have s1 := k1.cell 1; have s2 := k2.cell 0; have s3 := k2.cell 1; clear k1 k2; go_simp); first | done | with_reducible rfl); (try simp only [Act.put, List.getElem_toArray, List.getElem_cons_succ, List.getElem_cons_zero, List.setIfInBounds_toArray, List.set_cons_zero, List.set_cons_succ])
  refine wpAnyH_take (i := 24 ) (v := ?_) rfl (by kernel_rfl) (by kernel_rfl) (by kernel_rfl) (fun _ _ _ h => h) (Or.inl ⟨by rfl, ?_⟩) (by assumption) ?_; rotate_left; (· (intro w0 hSw; obtain ⟨k1, k2, k4⟩ := hSw; have s0 := k1.cell 0; have s1 := k1.cell 1; have s2 := k2.cell 0; have s3 := k2.cell 1; clear k1 k2; go_simp); first | done | with_reducible rfl); (try simp only [Act.put, List.getElem_toArray, List.getElem_cons_succ, List.getElem_cons_zero, List.setIfInBounds_toArray, List.set_cons_zero, List.set_cons_succ])
  refine wpAnyH_take (i := 25 ) (v := ?_) rfl (by kernel_rfl) (by kernel_rfl) (by kernel_rfl) (fun _ _ _ h => h) (Or.inl ⟨by rfl, ?_⟩) (by assumption) ?_; rotate_left; (· (intro w0 hSw; obtain ⟨k1, k2, k4⟩ := hSw; have s0 := k1.cell 0; have s1 := k1.cell 1; have s2 := k2.cell 0; have s3 := k2.cell 1; clear k1 k2; go_simp); first | done | with_reducible rfl); (try simp only [Act.put, List.getElem_toArray, List.getElem_cons_succ, List.getElem_cons_zero, List.setIfInBounds_toArray, List.set_cons_zero, List.set_cons_succ])
  refine wpAnyH_take (i := 26 ) (v := ?_) rfl (by kernel_rfl) (by kernel_rfl) (by kernel_rfl) (fun _ _ _ h => h) (Or.inl ⟨by rfl, ?_⟩) (by assumption) ?_; rotate_left; (· (intro w0 hSw; obtain ⟨k1, k2, k4⟩ := hSw; have s0 := k1.cell 0; have s1 := k1.cell 1; have s2 := k2.cell 0; have s3 := k2.cell 1; clear k1 k2; go_simp); first | done | with_reducible rfl); (try simp only [Act.put, List.getElem_toArray, List.getElem_cons_succ, List.getElem_cons_zero, List.setIfInBounds_toArray, List.set_cons_zero, List.set_cons_succ])
  refine wpAnyH_take (i := 27 ) (v := ?_) rfl (by kernel_rfl) (by kernel_rfl) (by kernel_rfl) (fun _ _ _ h => h) (Or.inl ⟨by rfl, ?_⟩) (by assumption) ?_; rotate_left; (· (intro w0 hSw; obtain ⟨k1, k2, k4⟩ := hSw; have s0 := k1.cell 0; have s1 := k1.cell 1; have s2 := k2.cell 0; have s3 := k2.cell 1; clear k1 k2; go_simp); first | done | with_reducible rfl); (try simp only [Act.put, List.getElem_toArray, List.getElem_cons_succ, List.getElem_cons_zero, List.setIfInBounds_toArray, List.set_cons_zero, List.set_cons_succ])
  refine wpAnyH_take (i := 28 ) (v := ?_) rfl (by kernel_rfl) (by kernel_rfl) (by kernel_rfl) (fun _ _ _ h => h) (Or.inl ⟨by rfl, ?_⟩) (by assumption) ?_; rotate_left; (· (intro w0 hSw; obtain ⟨k1, k2, k4⟩ := hSw; have s0 := k1.cell 0; have s1 := k1.cell 1; have s2 := k2.cell 0; have s3 := k2.cell 1; clear k1 k2; go_simp); first | done | with_reducible rfl); (try simp only [Act.put, List.getElem_toArray, List.getElem_cons_succ, List.getElem_cons_zero, List.setIfInBounds_toArray, List.set_cons_zero, List.set_cons_succ])
  refine wpAnyH_take (i := 29 ) (v := ?_) rfl (by kernel_rfl) (by kernel_rfl) (by kernel_rfl) (fun _ _ _ h => h) (Or.inl ⟨by rfl, ?_⟩) (by assumption) ?_; rotate_left; (· (intro w0 hSw; obtain ⟨k1, k2, k4⟩ := hSw; have s0 := k1.cell 0; have s1 := k1.cell 1; have s2 := k2.cell 0; have s3 := k2.cell 1; clear k1 k2; go_simp); first | done | with_reducible rfl); (try simp only [Act.put, List.getElem_toArray, List.getElem_cons_succ, List.getElem_cons_zero, List.setIfInBounds_toArray, List.set_cons_zero, List.set_cons_succ])
  refine wpAnyH_take (i := 30 ) (v := ?_) rfl (by kernel_rfl) (by kernel_rfl) (by kernel_rfl) (fun _ _ _ h => h) (Or.inl ⟨by rfl, ?_⟩) (by assumption) ?_; rotate_left; (· (intro w0 hSw; obtain ⟨k1, k2, k4⟩ := hSw; have s0 := k1.cell 0; have s1 := k1.cell 1; have s2 := k2.cell 0; have s3 := k2.cell 1; clear k1 k2; go_simp); first | done | with_reducible rfl); (try simp only [Act.put, List.getElem_toArray, List.getElem_cons_succ, List.getElem_cons_zero, List.setIfInBounds_toArray, List.set_cons_zero, List.set_cons_succ])
  refine wpAnyH_take (i := 31 ) (v := ?_) rfl (by kernel_rfl) (by kernel_rfl) (by kernel_rfl) (fun _ _ _ h => h) (Or.inl ⟨by rfl, ?_⟩) (by assumption) ?_; rotate_left; (· (intro w0 hSw; obtain ⟨k1, k2, k4⟩ := hSw; have s0 := k1.cell 0; have s1 := k1.cell 1; have s2 := k2.cell 0; have s3 := k2.cell 1; clear k1 k2; go_simp); first | done | with_reducible rfl); (try simp only [Act.put, List.getElem_toArray, List.getElem_cons_succ, List.getElem_cons_zero, List.setIfInBounds_toArray, List.set_cons_zero, List.set_cons_succ])
  refine wpAnyH_take (i := 32 ) (v := ?_) rfl (by kernel_rfl) (by kernel_rfl) (by kernel_rfl) (fun _ _ _ h => h) (Or.inl ⟨by rfl, ?_⟩) (by assumption) ?_; rotate_left; (· (intro w0 hSw; obtain ⟨k1, k2, k4⟩ := hSw; have s0 := k1.cell 0; have s1 := k1.cell 1; have s2 := k2.cell 0; have s3 := k2.cell 1; clear k1 k2; go_simp); first | done | with_reducible rfl); (try simp only [Act.put, List.getElem_toArray, List.getElem_cons_succ, List.getElem_cons_zero, List.setIfInBounds_toArray, List.set_cons_zero, List.set_cons_succ])
  refine wpAnyH_take (i := 33 ) (v := ?_) rfl (by kernel_rfl) (by kernel_rfl) (by kernel_rfl) (fun _ _ _ h => h) (Or.inl ⟨by rfl, ?_⟩) (by assumption) ?_; rotate_left; (· (intro w0 hSw; obtain ⟨k1, k2, k4⟩ := hSw; have s0 := k1.cell 0; have s1 := k1.cell 1; have s2 := k2.cell 0; have s3 := k2.cell 1; clear k1 k2; go_simp); first | done | with_reducible rfl); (try simp only [Act.put, List.getElem_toArray, List.getElem_cons_succ, List.getElem_cons_zero, List.setIfInBounds_toArray, List.set_cons_zero, List.set_cons_succ])
  refine wpAnyH_done (by kernel_rfl) ?_ _
  go_wp2_with fail
  go_ret
  exact ⟨z, ret_int HP.out.symm, hb, by rw [← hV0]; exact HW.out.keep (Below.refl _ _).drew (by have := HW.out.kd.lt; omega), by rw [← hV0]; exact HK.out.trans (.of_below (Below.refl _ _).drew), by rw [← hV0]; exact HBl.out.drew⟩
/-- What the drawer makes of a slat. -/
def RetReal (gd B : Nat) (Y : Option Addr) (c : Nat) (ys : List Int) (k : Nat) (s : Slat) (w : World) (e : Ending) (w' : World) : Prop := ∃ v0 v1 v2 v3 : Int, e = .returned (.agg #[.int .i64 v0, .int .i64 v1, .int .i64 v2, .int .i64 v3]) ∧ ((s.thick.lo ≤ v0 ∧ v0 ≤ s.thick.hi) ∧ (s.depth.lo ≤ v1 ∧ v1 ≤ s.depth.hi) ∧ (s.shift.lo ≤ v2 ∧ v2 ≤ s.shift.hi) ∧ s.pitch.lo ≤ v3 ∧ v3 ≤ s.pitch.hi) ∧ DrS gd B Y c ys (k + 1 + 1 + 1 + 1) w' ∧ Keeps1 gd w w' ∧ Below gd w w'
set_option maxRecDepth 100000 in
set_option maxHeartbeats 2000000 in
theorem real5_any (gd B : Nat) (Y : Option Addr) (c : Nat) (ys : List Int) (k : Nat) (s : Slat) (w : World) (hk : k ≤ 90) (hs : SlatIn s) (hy : ys ≠ []) (hyl : ys.length ≤ 9223372036854775807) (hyb : ∀ y ∈ ys, 0 ≤ y ∧ y ≤ 65535) (hS : DrS gd B Y c ys k w) (hB : B ≤ gd) :
    Calls Try.prog 26 #[.pointer (some ⟨gd, 0, none⟩), .agg #[.int .i64 s.thick.lo, .int .i64 s.thick.hi, .int .i64 s.depth.lo, .int .i64 s.depth.hi, .int .i64 s.shift.lo, .int .i64 s.shift.hi, .int .i64 s.pitch.lo, .int .i64 s.pitch.hi]] w (RetReal gd B Y c ys k s w) := by
  have hgd := hS.kd.lt
  have HOF := Lib.hid fun (k : Nat) (lo hi : Int) (w : World) hk h0 h1 h2 hS => of5d_any gd B Y c ys k lo hi w hk h0 h1 h2 hy hyl hyb hS hB
  obtain ⟨at0, at1, at2, ad0, ad1, ad2, as0, as1, as2, ap0, ap1, ap2⟩ := hs
  have hb2 : Below w.heap.size w ((w.alloc (.cells #[.int .i64 s.thick.lo, .int .i64 s.thick.hi, .int .i64 s.depth.lo, .int .i64 s.depth.hi, .int .i64 s.shift.lo, .int .i64 s.shift.hi, .int .i64 s.pitch.lo, .int .i64 s.pitch.hi] 37)).alloc (.cells #[.int .i64 0, .int .i64 0, .int .i64 0, .int .i64 0] 55)) := by repeat (first | exact Below.refl _ _ | assumption | refine Below.drew ?_ | refine Below.alloc ?_ (by first | omega | (simp only [World.size_alloc]; omega) | simp) _ | refine Below.setCell ?_ (by first | omega | (simp only [World.size_alloc]; omega) | simp) _)
  have HD := Lib.hid (hS.keep hb2 (by omega))
  have HK : Hid (Keeps1 gd w ((w.alloc (.cells #[.int .i64 s.thick.lo, .int .i64 s.thick.hi, .int .i64 s.depth.lo, .int .i64 s.depth.hi, .int .i64 s.shift.lo, .int .i64 s.shift.hi, .int .i64 s.pitch.lo, .int .i64 s.pitch.hi] 37)).alloc (.cells #[.int .i64 0, .int .i64 0, .int .i64 0, .int .i64 0] 55))) := Lib.hid (.of_below hb2)
  have HB := Lib.hid (hb2.mono (Nat.le_of_lt hgd))
  have K3 : Hid (Blk ((w.alloc (.cells #[.int .i64 s.thick.lo, .int .i64 s.thick.hi, .int .i64 s.depth.lo, .int .i64 s.depth.hi, .int .i64 s.shift.lo, .int .i64 s.shift.hi, .int .i64 s.pitch.lo, .int .i64 s.pitch.hi] 37)).alloc (.cells #[.int .i64 0, .int .i64 0, .int .i64 0, .int .i64 0] 55)) w.heap.size 37 #[.int .i64 s.thick.lo, .int .i64 s.thick.hi, .int .i64 s.depth.lo, .int .i64 s.depth.hi, .int .i64 s.shift.lo, .int .i64 s.shift.hi, .int .i64 s.pitch.lo, .int .i64 s.pitch.hi]) := Lib.hid ((Blk.new _ _ _).alloc _)
  have K4 : Hid (Blk ((w.alloc (.cells #[.int .i64 s.thick.lo, .int .i64 s.thick.hi, .int .i64 s.depth.lo, .int .i64 s.depth.hi, .int .i64 s.shift.lo, .int .i64 s.shift.hi, .int .i64 s.pitch.lo, .int .i64 s.pitch.hi] 37)).alloc (.cells #[.int .i64 0, .int .i64 0, .int .i64 0, .int .i64 0] 55)) (w.heap.size + 1) 55 #[.int .i64 0, .int .i64 0, .int .i64 0, .int .i64 0]) := Lib.hid (blk5 _ _ (by simp) rfl)
  clear hS hb2 hy hyl hyb
  go_enter Try.func26, Try.ntmps26
  go_upto_region 1 with fail
  generalize World.alloc (World.alloc w _) _ = V at HD HK HB K3 K4 ⊢
  replace HD := Lib.hid (HD.out.keep (Below.refl _ _).drew (by have := HD.out.kd.lt; omega))
  replace HK := Lib.hid (HK.out.trans (.of_below (Below.refl _ _).drew))
  replace HB := Lib.hid HB.out.drew
  replace K3 := Lib.hid (K3.out.below (Below.refl _ _).drew K3.out.lt)
  replace K4 := Lib.hid (K4.out.below (Below.refl _ _).drew K4.out.lt)
  refine wp_region_held_drew (S := fun W9 => Blk W9 w.heap.size 37 #[.int .i64 s.thick.lo, .int .i64 s.thick.hi, .int .i64 s.depth.lo, .int .i64 s.depth.hi, .int .i64 s.shift.lo, .int .i64 s.shift.hi, .int .i64 s.pitch.lo, .int .i64 s.pitch.hi]) (by kernel_rfl) K3.out (fun hH0 => ?_)
  generalize World.drew _ = V0 at *
  simp only [List.size_toArray, List.length_cons, List.length_nil, Nat.reduceAdd, Array.replicate_succ, Array.replicate_zero, List.push_toArray, List.nil_append, List.cons_append]
  refine wpAnyH_take (i := 0 ) (v := ?_) rfl (by kernel_rfl) (by kernel_rfl) (by kernel_rfl) (fun _ _ _ h => h) (Or.inl ⟨by rfl, ?_⟩) (by assumption) ?_; rotate_left; (· (intro w0 hSw; have a0 := hSw.cell 0; have a1 := hSw.cell 1; have a2 := hSw.cell 2; have a3 := hSw.cell 3; have a4 := hSw.cell 4; have a5 := hSw.cell 5; have a6 := hSw.cell 6; have a7 := hSw.cell 7; clear hSw; go_simp); first | done | with_reducible rfl); (try simp only [Act.put, List.getElem_toArray, List.getElem_cons_zero, List.setIfInBounds_toArray, List.set_cons_zero, List.set_cons_succ])
  refine wpAnyH_take (i := 1 ) (v := ?_) rfl (by kernel_rfl) (by kernel_rfl) (by kernel_rfl) (fun _ _ _ h => h) (Or.inl ⟨by rfl, ?_⟩) (by assumption) ?_; rotate_left; (· (intro w0 hSw; have a0 := hSw.cell 0; have a1 := hSw.cell 1; have a2 := hSw.cell 2; have a3 := hSw.cell 3; have a4 := hSw.cell 4; have a5 := hSw.cell 5; have a6 := hSw.cell 6; have a7 := hSw.cell 7; clear hSw; go_simp); first | done | with_reducible rfl); (try simp only [Act.put, List.getElem_toArray, List.getElem_cons_succ, List.getElem_cons_zero, List.setIfInBounds_toArray, List.set_cons_zero, List.set_cons_succ])
  refine wpAnyH_take (i := 2 ) (v := ?_) rfl (by kernel_rfl) (by kernel_rfl) (by kernel_rfl) (fun _ _ _ h => h) (Or.inl ⟨by rfl, ?_⟩) (by assumption) ?_; rotate_left; (· (intro w0 hSw; have a0 := hSw.cell 0; have a1 := hSw.cell 1; have a2 := hSw.cell 2; have a3 := hSw.cell 3; have a4 := hSw.cell 4; have a5 := hSw.cell 5; have a6 := hSw.cell 6; have a7 := hSw.cell 7; clear hSw; go_simp); first | done | with_reducible rfl); (try simp only [Act.put, List.getElem_toArray, List.getElem_cons_succ, List.getElem_cons_zero, List.setIfInBounds_toArray, List.set_cons_zero, List.set_cons_succ])
  refine wpAnyH_take (i := 4 ) (v := ?_) rfl (by kernel_rfl) (by kernel_rfl) (by kernel_rfl) (fun _ _ _ h => h) (Or.inl ⟨by rfl, ?_⟩) (by assumption) ?_; rotate_left; (· (intro w0 hSw; have a0 := hSw.cell 0; have a1 := hSw.cell 1; have a2 := hSw.cell 2; have a3 := hSw.cell 3; have a4 := hSw.cell 4; have a5 := hSw.cell 5; have a6 := hSw.cell 6; have a7 := hSw.cell 7; clear hSw; go_simp); first | done | with_reducible rfl); (try simp only [Act.put, List.getElem_toArray, List.getElem_cons_succ, List.getElem_cons_zero, List.setIfInBounds_toArray, List.set_cons_zero, List.set_cons_succ])
  refine wpAnyH_take (i := 5 ) (v := ?_) rfl (by kernel_rfl) (by kernel_rfl) (by kernel_rfl) (fun _ _ _ h => h) (Or.inl ⟨by rfl, ?_⟩) (by assumption) ?_; rotate_left; (· (intro w0 hSw; have a0 := hSw.cell 0; have a1 := hSw.cell 1; have a2 := hSw.cell 2; have a3 := hSw.cell 3; have a4 := hSw.cell 4; have a5 := hSw.cell 5; have a6 := hSw.cell 6; have a7 := hSw.cell 7; clear hSw; go_simp); first | done | with_reducible rfl); (try simp only [Act.put, List.getElem_toArray, List.getElem_cons_succ, List.getElem_cons_zero, List.setIfInBounds_toArray, List.set_cons_zero, List.set_cons_succ])
  refine wpAnyH_take (i := 6 ) (v := ?_) rfl (by kernel_rfl) (by kernel_rfl) (by kernel_rfl) (fun _ _ _ h => h) (Or.inl ⟨by rfl, ?_⟩) (by assumption) ?_; rotate_left; (· (intro w0 hSw; have a0 := hSw.cell 0; have a1 := hSw.cell 1; have a2 := hSw.cell 2; have a3 := hSw.cell 3; have a4 := hSw.cell 4; have a5 := hSw.cell 5; have a6 := hSw.cell 6; have a7 := hSw.cell 7; clear hSw; go_simp); first | done | with_reducible rfl); (try simp only [Act.put, List.getElem_toArray, List.getElem_cons_succ, List.getElem_cons_zero, List.setIfInBounds_toArray, List.set_cons_zero, List.set_cons_succ])
  refine wpAnyH_take (i := 8 ) (v := ?_) rfl (by kernel_rfl) (by kernel_rfl) (by kernel_rfl) (fun _ _ _ h => h) (Or.inl ⟨by rfl, ?_⟩) (by assumption) ?_; rotate_left; (· (intro w0 hSw; have a0 := hSw.cell 0; have a1 := hSw.cell 1; have a2 := hSw.cell 2; have a3 := hSw.cell 3; have a4 := hSw.cell 4; have a5 := hSw.cell 5; have a6 := hSw.cell 6; have a7 := hSw.cell 7; clear hSw; go_simp); first | done | with_reducible rfl); (try simp only [Act.put, List.getElem_toArray, List.getElem_cons_succ, List.getElem_cons_zero, List.setIfInBounds_toArray, List.set_cons_zero, List.set_cons_succ])
  refine wpAnyH_take (i := 9 ) (v := ?_) rfl (by kernel_rfl) (by kernel_rfl) (by kernel_rfl) (fun _ _ _ h => h) (Or.inl ⟨by rfl, ?_⟩) (by assumption) ?_; rotate_left; (· (intro w0 hSw; have a0 := hSw.cell 0; have a1 := hSw.cell 1; have a2 := hSw.cell 2; have a3 := hSw.cell 3; have a4 := hSw.cell 4; have a5 := hSw.cell 5; have a6 := hSw.cell 6; have a7 := hSw.cell 7; clear hSw; go_simp); first | done | with_reducible rfl); (try simp only [Act.put, List.getElem_toArray, List.getElem_cons_succ, List.getElem_cons_zero, List.setIfInBounds_toArray, List.set_cons_zero, List.set_cons_succ])
  refine wpAnyH_take (i := 10 ) (v := ?_) rfl (by kernel_rfl) (by kernel_rfl) (by kernel_rfl) (fun _ _ _ h => h) (Or.inl ⟨by rfl, ?_⟩) (by assumption) ?_; rotate_left; (· (intro w0 hSw; have a0 := hSw.cell 0; have a1 := hSw.cell 1; have a2 := hSw.cell 2; have a3 := hSw.cell 3; have a4 := hSw.cell 4; have a5 := hSw.cell 5; have a6 := hSw.cell 6; have a7 := hSw.cell 7; clear hSw; go_simp); first | done | with_reducible rfl); (try simp only [Act.put, List.getElem_toArray, List.getElem_cons_succ, List.getElem_cons_zero, List.setIfInBounds_toArray, List.set_cons_zero, List.set_cons_succ])
  refine wpAnyH_take (i := 12 ) (v := ?_) rfl (by kernel_rfl) (by kernel_rfl) (by kernel_rfl) (fun _ _ _ h => h) (Or.inl ⟨by rfl, ?_⟩) (by assumption) ?_; rotate_left; (· (intro w0 hSw; have a0 := hSw.cell 0; have a1 := hSw.cell 1; have a2 := hSw.cell 2; have a3 := hSw.cell 3; have a4 := hSw.cell 4; have a5 := hSw.cell 5; have a6 := hSw.cell 6; have a7 := hSw.cell 7; clear hSw; go_simp); first | done | with_reducible rfl); (try simp only [Act.put, List.getElem_toArray, List.getElem_cons_succ, List.getElem_cons_zero, List.setIfInBounds_toArray, List.set_cons_zero, List.set_cons_succ])
  refine wpAnyH_take (i := 13 ) (v := ?_) rfl (by kernel_rfl) (by kernel_rfl) (by kernel_rfl) (fun _ _ _ h => h) (Or.inl ⟨by rfl, ?_⟩) (by assumption) ?_; rotate_left; (· (intro w0 hSw; have a0 := hSw.cell 0; have a1 := hSw.cell 1; have a2 := hSw.cell 2; have a3 := hSw.cell 3; have a4 := hSw.cell 4; have a5 := hSw.cell 5; have a6 := hSw.cell 6; have a7 := hSw.cell 7; clear hSw; go_simp); first | done | with_reducible rfl); (try simp only [Act.put, List.getElem_toArray, List.getElem_cons_succ, List.getElem_cons_zero, List.setIfInBounds_toArray, List.set_cons_zero, List.set_cons_succ])
  refine wpAnyH_take (i := 14 ) (v := ?_) rfl (by kernel_rfl) (by kernel_rfl) (by kernel_rfl) (fun _ _ _ h => h) (Or.inl ⟨by rfl, ?_⟩) (by assumption) ?_; rotate_left; (· (intro w0 hSw; have a0 := hSw.cell 0; have a1 := hSw.cell 1; have a2 := hSw.cell 2; have a3 := hSw.cell 3; have a4 := hSw.cell 4; have a5 := hSw.cell 5; have a6 := hSw.cell 6; have a7 := hSw.cell 7; clear hSw; go_simp); first | done | with_reducible rfl); (try simp only [Act.put, List.getElem_toArray, List.getElem_cons_succ, List.getElem_cons_zero, List.setIfInBounds_toArray, List.set_cons_zero, List.set_cons_succ])
  refine wpAnyH_ready (rs := [3]) (by kernel_rfl) (by simp) ?_
  refine AllReadyH.cons (by simp only [List.getElem?_toArray, List.getElem?_cons_succ, List.getElem?_cons_zero]; rfl) (fun K hK => ?_) AllReadyH.nil
  go_simp
  refine (HOF.out k s.thick.lo s.thick.hi _ (by omega) (by omega) (by omega) (by omega) HD.out).mono ?_
  rintro e X ⟨v0, rfl, hv, hD, hK, hb⟩
  have HV0 := Lib.hid hv
  replace HD := Lib.hid hD
  replace HK := Lib.hid (HK.out.trans hK)
  replace HB := Lib.hid (HB.out.trans hb)
  replace K3 := Lib.hid (K3.out.keep1 hK (by omega))
  replace K4 := Lib.hid (K4.out.keep1 hK (by omega))
  clear hv hD hK hb
  refine hK.out _ _ K3.out (fun hH1 => ?_)
  clear hK K
  try simp only [List.setIfInBounds_toArray, List.set_cons_zero, List.set_cons_succ]
  refine wpAnyH_ready (rs := [7]) (by kernel_rfl) (by simp) ?_
  refine AllReadyH.cons (by simp only [List.getElem?_toArray, List.getElem?_cons_succ, List.getElem?_cons_zero]; rfl) (fun K hK => ?_) AllReadyH.nil
  go_simp
  refine (HOF.out (k + 1) s.depth.lo s.depth.hi _ (by omega) (by omega) (by omega) (by omega) HD.out).mono ?_
  rintro e X ⟨v1, rfl, hv, hD, hK, hb⟩
  have HV1 := Lib.hid hv
  replace HD := Lib.hid hD
  replace HK := Lib.hid (HK.out.trans hK)
  replace HB := Lib.hid (HB.out.trans hb)
  replace K3 := Lib.hid (K3.out.keep1 hK (by omega))
  replace K4 := Lib.hid (K4.out.keep1 hK (by omega))
  clear hv hD hK hb
  refine hK.out _ _ K3.out (fun hH2 => ?_)
  clear hK K
  try simp only [List.setIfInBounds_toArray, List.set_cons_zero, List.set_cons_succ]
  refine wpAnyH_ready (rs := [11]) (by kernel_rfl) (by simp) ?_
  refine AllReadyH.cons (by simp only [List.getElem?_toArray, List.getElem?_cons_succ, List.getElem?_cons_zero]; rfl) (fun K hK => ?_) AllReadyH.nil
  go_simp
  refine (HOF.out (k + 1 + 1) s.shift.lo s.shift.hi _ (by omega) (by omega) (by omega) (by omega) HD.out).mono ?_
  rintro e X ⟨v2, rfl, hv, hD, hK, hb⟩
  have HV2 := Lib.hid hv
  replace HD := Lib.hid hD
  replace HK := Lib.hid (HK.out.trans hK)
  replace HB := Lib.hid (HB.out.trans hb)
  replace K3 := Lib.hid (K3.out.keep1 hK (by omega))
  replace K4 := Lib.hid (K4.out.keep1 hK (by omega))
  clear hv hD hK hb
  refine hK.out _ _ K3.out (fun hH3 => ?_)
  clear hK K
  try simp only [List.setIfInBounds_toArray, List.set_cons_zero, List.set_cons_succ]
  refine wpAnyH_ready (rs := [15]) (by kernel_rfl) (by simp) ?_
  refine AllReadyH.cons (by simp only [List.getElem?_toArray, List.getElem?_cons_succ, List.getElem?_cons_zero]; rfl) (fun K hK => ?_) AllReadyH.nil
  go_simp
  refine (HOF.out (k + 1 + 1 + 1) s.pitch.lo s.pitch.hi _ (by omega) (by omega) (by omega) (by omega) HD.out).mono ?_
  rintro e X ⟨v3, rfl, hv, hD, hK, hb⟩
  have HV3 := Lib.hid hv
  replace HD := Lib.hid hD
  replace HK := Lib.hid (HK.out.trans hK)
  replace HB := Lib.hid (HB.out.trans hb)
  replace K3 := Lib.hid (K3.out.keep1 hK (by omega))
  replace K4 := Lib.hid (K4.out.keep1 hK (by omega))
  clear hv hD hK hb
  refine hK.out _ _ K3.out (fun hH4 => ?_)
  clear hK K
  try simp only [List.setIfInBounds_toArray, List.set_cons_zero, List.set_cons_succ]
  refine wpAnyH_take (i := 16 ) (v := ?_) rfl (by kernel_rfl) (by kernel_rfl) (by kernel_rfl) (fun _ _ _ h => h) (Or.inl ⟨by rfl, ?_⟩) (by assumption) ?_; rotate_left; (· (intro w0 hSw; have a0 := hSw.cell 0; have a1 := hSw.cell 1; have a2 := hSw.cell 2; have a3 := hSw.cell 3; have a4 := hSw.cell 4; have a5 := hSw.cell 5; have a6 := hSw.cell 6; have a7 := hSw.cell 7; clear hSw; go_simp); first | done | with_reducible rfl); (try simp only [Act.put, List.getElem_toArray, List.getElem_cons_succ, List.getElem_cons_zero, List.setIfInBounds_toArray, List.set_cons_zero, List.set_cons_succ])
  refine wpAnyH_ready (rs := [17]) (by kernel_rfl) (by simp) ?_
  refine AllReadyH.cons (by simp only [List.getElem?_toArray, List.getElem?_cons_succ, List.getElem?_cons_zero]; rfl) (fun K hK => ?_) AllReadyH.nil
  rw [if_pos (by rfl)]
  refine wp_store_row 55 (.tmp 4) (.tmp 21) (by rfl) (w.heap.size + 1) #[.int .i64 v0, .int .i64 v1, .int .i64 v2, .int .i64 v3] (by rfl) (by rfl) 55 _ K4.out (by kernel_rfl) (by rfl) (by kernel_rfl) ?_
  have hb9 : Below (w.heap.size + 1) X (X.setRow (w.heap.size + 1) #[.int .i64 v0, .int .i64 v1, .int .i64 v2, .int .i64 v3]) := below_setRow (Below.refl _ _) (Nat.le_refl _) _
  replace HD := Lib.hid (HD.out.low hb9 (by omega) (by omega))
  replace HK := Lib.hid (HK.out.row (g := w.heap.size + 1) (by omega) #[.int .i64 v0, .int .i64 v1, .int .i64 v2, .int .i64 v3])
  replace HB := Lib.hid (HB.out.trans (hb9.mono (by omega)))
  replace K3 := Lib.hid (K3.out.below hb9 (by omega))
  replace K4 := Lib.hid (K4.out.row #[.int .i64 v0, .int .i64 v1, .int .i64 v2, .int .i64 v3])
  clear hb9
  refine hK.out _ _ K3.out (fun hH5 => ?_)
  clear hK K
  try simp only [List.setIfInBounds_toArray, List.set_cons_zero, List.set_cons_succ]
  refine wpAnyH_done (by kernel_rfl) ?_ _
  go_wp2_with fail
  exact bodyPost_ret (results_blk rfl _ rfl K4.out (by kernel_rfl) (by kernel_rfl)) rfl ⟨v0, v1, v2, v3, rfl, ⟨HV0.out, HV1.out, HV2.out, HV3.out⟩, HD.out, HK.out, HB.out⟩

def rlimB (l : List Int) : Bool := limsOk l && decide (0 < l.length)
set_option maxRecDepth 100000 in
set_option maxHeartbeats 16000000 in
theorem rlims5_any (w : World) (A : Option Addr) (c : Nat) (l : List Int) (hl : l.length ≤ 9223372036854775807) (hA : IntSl w w.heap.size A l) :
    Calls Try.prog 28 #[.slice A l.length c] w (Ret (.bool (rlimB l)) w) := by
  have HS := Lib.hid hA
  clear hA
  have hl' : (l.length : Int) ≤ 9223372036854775807 := by omega
  have hl0 : (0 : Int) ≤ l.length := by omega
  go_enter Try.func28, Try.ntmps28
  go_wp2_with fail
  go_loopw [3] (fun i wr => ∃ k : Nat, k ≤ l.length ∧ i = .int .i64 k ∧ Hid (∀ i, i < k → limAt l i = true) ∧ Hid (Below w.heap.size w wr)) (fun i _ => l.length - (intOf i).toNat)
  case atStart => exact ⟨0, by omega, rfl, Lib.hid (fun i h => absurd h (Nat.not_lt_zero i)), Lib.hid (Below.refl _ _)⟩
  case round =>
    obtain ⟨k, hk, rfl, HA, HB⟩ := hrel
    by_cases hlt : k < l.length
    · obtain ⟨b, off, rfl, hb, hs⟩ := HS.out (by intro e; rw [e] at hlt; simp at hlt)
      have c0 := hs k hlt
      rw [← HB.out.cell (p := ⟨b, _, none⟩) hb] at c0
      have hbz : b < wr.heap.size := by have := HB.out.size; omega
      have hsz := HB.out.size
      have HN : Hid (limAt l k = false → rlimB l = false) := Lib.hid fun h => by unfold rlimB; rw [lims_no hlt h]; rfl
      have HY : Hid (limAt l k = true → ∀ i, i < k + 1 → limAt l i = true) := Lib.hid fun h i hi => by
        rcases Nat.lt_or_ge i k with h9 | h9
        · exact HA.out i h9
        · obtain rfl : i = k := by omega
          exact h
      have hgk : l.getD k 0 = l[k] := by simp [hlt]
      have hlk : (k : Int) < l.length := by omega
      have hk0 : (0 : Int) ≤ k := by omega
      cases hz : fromB l[k] 0 1000 with
      | false =>
        have HN2 := Lib.hid (HN.out (by unfold limAt; rw [hgk, hz]; rfl))
        have HZ := Lib.hid hz
        have HC := Lib.hid c0
        clear HN HY hgk hz c0 HA
        generalize l[k] = d at *
        replace HB := Lib.hid HB.out.drew
        go_wp2_with fail
        refine wp_region_held_drew (S := fun W9 => W9.cell? ⟨b, off + k, none⟩ = some (.int .i64 d)) (by kernel_rfl) HC.out (fun hH0 => ?_)
        generalize World.drew _ = V0 at *
        simp only [List.size_toArray, List.length_cons, List.length_nil, Nat.reduceAdd, Array.replicate_succ, Array.replicate_zero, List.push_toArray, List.nil_append, List.cons_append]
        refine wpAnyH_take (i := 0 ) (v := ?_) rfl (by kernel_rfl) (by kernel_rfl) (by kernel_rfl) (fun _ _ _ h => h) (Or.inl ⟨by rfl, ?_⟩) (by assumption) ?_; rotate_left; (· (intro w0 hSw; have c0 := hSw; clear hSw; go_simp); first | done | with_reducible rfl); (try simp only [Act.put, List.getElem_toArray, List.getElem_cons_zero, List.setIfInBounds_toArray, List.set_cons_zero, List.set_cons_succ])
        refine wpAnyH_take (i := 1 ) (v := ?_) rfl (by kernel_rfl) (by kernel_rfl) (by kernel_rfl) (fun _ _ _ h => h) (Or.inl ⟨by rfl, ?_⟩) (by assumption) ?_; rotate_left; (· (intro w0 hSw; have c0 := hSw; clear hSw; go_simp); first | done | with_reducible rfl); (try simp only [Act.put, List.getElem_toArray, List.getElem_cons_succ, List.getElem_cons_zero, List.setIfInBounds_toArray, List.set_cons_zero, List.set_cons_succ])
        refine wpAnyH_take (i := 2 ) (v := ?_) rfl (by kernel_rfl) (by kernel_rfl) (by kernel_rfl) (fun _ _ _ h => h) (Or.inl ⟨by rfl, ?_⟩) (by assumption) ?_; rotate_left; (· (intro w0 hSw; have c0 := hSw; clear hSw; go_simp); first | done | with_reducible rfl); (try simp only [Act.put, List.getElem_toArray, List.getElem_cons_succ, List.getElem_cons_zero, List.setIfInBounds_toArray, List.set_cons_zero, List.set_cons_succ])
        refine wpAnyH_take (i := 3 ) (v := ?_) rfl (by kernel_rfl) (by kernel_rfl) (by kernel_rfl) (fun _ _ _ h => h) (Or.inl ⟨by rfl, ?_⟩) (by assumption) ?_; rotate_left; (· (intro w0 hSw; have c0 := hSw; clear hSw; go_simp); first | done | with_reducible rfl); (try simp only [Act.put, List.getElem_toArray, List.getElem_cons_succ, List.getElem_cons_zero, List.setIfInBounds_toArray, List.set_cons_zero, List.set_cons_succ])
        refine wpAnyH_ready (rs := [4]) (by kernel_rfl) (by simp) ?_
        refine AllReadyH.cons (by simp only [List.getElem?_toArray, List.getElem?_cons_succ, List.getElem?_cons_zero]; rfl) (fun K hK => ?_) AllReadyH.nil
        go_simp
        refine (rin5_any _ _ _ _).mono ?_
        rintro e X ⟨rfl, hX⟩
        subst hX
        rw [HZ.out]
        refine hK.out _ _ hH0 (fun hH1 => ?_)
        clear hK K
        try simp only [List.setIfInBounds_toArray, List.set_cons_zero, List.set_cons_succ]
        refine wpAnyH_take (i := 5 ) (v := ?_) rfl (by kernel_rfl) (by kernel_rfl) (by kernel_rfl) (fun _ _ _ h => h) (Or.inl ⟨by rfl, ?_⟩) (by assumption) ?_; rotate_left; (· (intro w0 hSw; have c0 := hSw; clear hSw; go_simp); first | done | with_reducible rfl); (try simp only [Act.put, List.getElem_toArray, List.getElem_cons_succ, List.getElem_cons_zero, List.setIfInBounds_toArray, List.set_cons_zero, List.set_cons_succ])
        refine wpAnyH_take (i := 6 ) (v := ?_) rfl (by kernel_rfl) (by kernel_rfl) (by kernel_rfl) (fun _ _ _ h => h) (Or.inl ⟨by rfl, ?_⟩) (by assumption) ?_; rotate_left; (· (intro w0 hSw; have c0 := hSw; clear hSw; go_simp); first | done | with_reducible rfl); (try simp only [Act.put, List.getElem_toArray, List.getElem_cons_succ, List.getElem_cons_zero, List.setIfInBounds_toArray, List.set_cons_zero, List.set_cons_succ])
        refine wpAnyH_take (i := 7) (v := undef) rfl (by kernel_rfl) (by kernel_rfl) (by kernel_rfl) (fun _ _ _ h => h) (Or.inr ⟨by rfl, rfl⟩) (by assumption) ?_; (try simp only [Act.put, List.getElem_toArray, List.getElem_cons_succ, List.getElem_cons_zero, List.setIfInBounds_toArray, List.set_cons_zero, List.set_cons_succ])
        refine wpAnyH_take (i := 8) (v := undef) rfl (by kernel_rfl) (by kernel_rfl) (by kernel_rfl) (fun _ _ _ h => h) (Or.inr ⟨by rfl, rfl⟩) (by assumption) ?_; (try simp only [Act.put, List.getElem_toArray, List.getElem_cons_succ, List.getElem_cons_zero, List.setIfInBounds_toArray, List.set_cons_zero, List.set_cons_succ])
        refine wpAnyH_take (i := 9) (v := undef) rfl (by kernel_rfl) (by kernel_rfl) (by kernel_rfl) (fun _ _ _ h => h) (Or.inr ⟨by rfl, rfl⟩) (by assumption) ?_; (try simp only [Act.put, List.getElem_toArray, List.getElem_cons_succ, List.getElem_cons_zero, List.setIfInBounds_toArray, List.set_cons_zero, List.set_cons_succ])
        refine wpAnyH_take (i := 10) (v := undef) rfl (by kernel_rfl) (by kernel_rfl) (by kernel_rfl) (fun _ _ _ h => h) (Or.inr ⟨by rfl, rfl⟩) (by assumption) ?_; (try simp only [Act.put, List.getElem_toArray, List.getElem_cons_succ, List.getElem_cons_zero, List.setIfInBounds_toArray, List.set_cons_zero, List.set_cons_succ])
        refine wpAnyH_take (i := 11) (v := undef) rfl (by kernel_rfl) (by kernel_rfl) (by kernel_rfl) (fun _ _ _ h => h) (Or.inr ⟨by rfl, rfl⟩) (by assumption) ?_; (try simp only [Act.put, List.getElem_toArray, List.getElem_cons_succ, List.getElem_cons_zero, List.setIfInBounds_toArray, List.set_cons_zero, List.set_cons_succ])
        refine wpAnyH_take (i := 12) (v := undef) rfl (by kernel_rfl) (by kernel_rfl) (by kernel_rfl) (fun _ _ _ h => h) (Or.inr ⟨by rfl, rfl⟩) (by assumption) ?_; (try simp only [Act.put, List.getElem_toArray, List.getElem_cons_succ, List.getElem_cons_zero, List.setIfInBounds_toArray, List.set_cons_zero, List.set_cons_succ])
        refine wpAnyH_take (i := 13) (v := undef) rfl (by kernel_rfl) (by kernel_rfl) (by kernel_rfl) (fun _ _ _ h => h) (Or.inr ⟨by rfl, rfl⟩) (by assumption) ?_; (try simp only [Act.put, List.getElem_toArray, List.getElem_cons_succ, List.getElem_cons_zero, List.setIfInBounds_toArray, List.set_cons_zero, List.set_cons_succ])
        refine wpAnyH_take (i := 14) (v := undef) rfl (by kernel_rfl) (by kernel_rfl) (by kernel_rfl) (fun _ _ _ h => h) (Or.inr ⟨by rfl, rfl⟩) (by assumption) ?_; (try simp only [Act.put, List.getElem_toArray, List.getElem_cons_succ, List.getElem_cons_zero, List.setIfInBounds_toArray, List.set_cons_zero, List.set_cons_succ])
        refine wpAnyH_take (i := 15) (v := undef) rfl (by kernel_rfl) (by kernel_rfl) (by kernel_rfl) (fun _ _ _ h => h) (Or.inr ⟨by rfl, rfl⟩) (by assumption) ?_; (try simp only [Act.put, List.getElem_toArray, List.getElem_cons_succ, List.getElem_cons_zero, List.setIfInBounds_toArray, List.set_cons_zero, List.set_cons_succ])
        refine wpAnyH_take (i := 16) (v := undef) rfl (by kernel_rfl) (by kernel_rfl) (by kernel_rfl) (fun _ _ _ h => h) (Or.inr ⟨by rfl, rfl⟩) (by assumption) ?_; (try simp only [Act.put, List.getElem_toArray, List.getElem_cons_succ, List.getElem_cons_zero, List.setIfInBounds_toArray, List.set_cons_zero, List.set_cons_succ])
        refine wpAnyH_take (i := 17) (v := undef) rfl (by kernel_rfl) (by kernel_rfl) (by kernel_rfl) (fun _ _ _ h => h) (Or.inr ⟨by rfl, rfl⟩) (by assumption) ?_; (try simp only [Act.put, List.getElem_toArray, List.getElem_cons_succ, List.getElem_cons_zero, List.setIfInBounds_toArray, List.set_cons_zero, List.set_cons_succ])
        refine wpAnyH_take (i := 18) (v := undef) rfl (by kernel_rfl) (by kernel_rfl) (by kernel_rfl) (fun _ _ _ h => h) (Or.inr ⟨by rfl, rfl⟩) (by assumption) ?_; (try simp only [Act.put, List.getElem_toArray, List.getElem_cons_succ, List.getElem_cons_zero, List.setIfInBounds_toArray, List.set_cons_zero, List.set_cons_succ])
        refine wpAnyH_take (i := 19) (v := undef) rfl (by kernel_rfl) (by kernel_rfl) (by kernel_rfl) (fun _ _ _ h => h) (Or.inr ⟨by rfl, rfl⟩) (by assumption) ?_; (try simp only [Act.put, List.getElem_toArray, List.getElem_cons_succ, List.getElem_cons_zero, List.setIfInBounds_toArray, List.set_cons_zero, List.set_cons_succ])
        refine wpAnyH_take (i := 20) (v := undef) rfl (by kernel_rfl) (by kernel_rfl) (by kernel_rfl) (fun _ _ _ h => h) (Or.inr ⟨by rfl, rfl⟩) (by assumption) ?_; (try simp only [Act.put, List.getElem_toArray, List.getElem_cons_succ, List.getElem_cons_zero, List.setIfInBounds_toArray, List.set_cons_zero, List.set_cons_succ])
        refine wpAnyH_take (i := 21 ) (v := ?_) rfl (by kernel_rfl) (by kernel_rfl) (by kernel_rfl) (fun _ _ _ h => h) (Or.inl ⟨by rfl, ?_⟩) (by assumption) ?_; rotate_left; (· (intro w0 hSw; have c0 := hSw; clear hSw; go_simp); first | done | with_reducible rfl); (try simp only [Act.put, List.getElem_toArray, List.getElem_cons_succ, List.getElem_cons_zero, List.setIfInBounds_toArray, List.set_cons_zero, List.set_cons_succ])
        refine wpAnyH_done (by kernel_rfl) ?_ _
        go_wp2_with fail
        go_ret
        exact ⟨ret_bool HN2.out.symm, HB.out⟩
      | true =>
        rcases Nat.eq_zero_or_pos k with h0 | h0
        · have HY2 := Lib.hid (HY.out (by unfold limAt; rw [hgk, hz, decide_eq_true h0]; rfl))
          have HZ := Lib.hid hz
          subst h0
          have HC := Lib.hid (show wr.cell? ⟨b, off, none⟩ = some (.int .i64 l[0]) by simpa using c0)
          clear HN HY hgk hz c0 HA
          generalize l[0] = d at *
          replace HB := Lib.hid HB.out.drew
          go_wp2_with fail
          refine wp_region_held_drew (S := fun W9 => W9.cell? ⟨b, off, none⟩ = some (.int .i64 d)) (by kernel_rfl) HC.out (fun hH0 => ?_)
          generalize World.drew _ = V0 at *
          simp only [List.size_toArray, List.length_cons, List.length_nil, Nat.reduceAdd, Array.replicate_succ, Array.replicate_zero, List.push_toArray, List.nil_append, List.cons_append]
          refine wpAnyH_take (i := 0 ) (v := ?_) rfl (by kernel_rfl) (by kernel_rfl) (by kernel_rfl) (fun _ _ _ h => h) (Or.inl ⟨by rfl, ?_⟩) (by assumption) ?_; rotate_left; (· (intro w0 hSw; have c0 := hSw; clear hSw; go_simp); first | done | with_reducible rfl); (try simp only [Act.put, List.getElem_toArray, List.getElem_cons_zero, List.setIfInBounds_toArray, List.set_cons_zero, List.set_cons_succ])
          refine wpAnyH_take (i := 1 ) (v := ?_) rfl (by kernel_rfl) (by kernel_rfl) (by kernel_rfl) (fun _ _ _ h => h) (Or.inl ⟨by rfl, ?_⟩) (by assumption) ?_; rotate_left; (· (intro w0 hSw; have c0 := hSw; clear hSw; go_simp); first | done | with_reducible rfl); (try simp only [Act.put, List.getElem_toArray, List.getElem_cons_succ, List.getElem_cons_zero, List.setIfInBounds_toArray, List.set_cons_zero, List.set_cons_succ])
          refine wpAnyH_take (i := 2 ) (v := ?_) rfl (by kernel_rfl) (by kernel_rfl) (by kernel_rfl) (fun _ _ _ h => h) (Or.inl ⟨by rfl, ?_⟩) (by assumption) ?_; rotate_left; (· (intro w0 hSw; have c0 := hSw; clear hSw; go_simp); first | done | with_reducible rfl); (try simp only [Act.put, List.getElem_toArray, List.getElem_cons_succ, List.getElem_cons_zero, List.setIfInBounds_toArray, List.set_cons_zero, List.set_cons_succ])
          refine wpAnyH_take (i := 3 ) (v := ?_) rfl (by kernel_rfl) (by kernel_rfl) (by kernel_rfl) (fun _ _ _ h => h) (Or.inl ⟨by rfl, ?_⟩) (by assumption) ?_; rotate_left; (· (intro w0 hSw; have c0 := hSw; clear hSw; go_simp); first | done | with_reducible rfl); (try simp only [Act.put, List.getElem_toArray, List.getElem_cons_succ, List.getElem_cons_zero, List.setIfInBounds_toArray, List.set_cons_zero, List.set_cons_succ])
          refine wpAnyH_ready (rs := [4]) (by kernel_rfl) (by simp) ?_
          refine AllReadyH.cons (by simp only [List.getElem?_toArray, List.getElem?_cons_succ, List.getElem?_cons_zero]; rfl) (fun K hK => ?_) AllReadyH.nil
          go_simp
          refine (rin5_any _ _ _ _).mono ?_
          rintro e X ⟨rfl, hX⟩
          subst hX
          rw [HZ.out]
          refine hK.out _ _ hH0 (fun hH1 => ?_)
          clear hK K
          try simp only [List.setIfInBounds_toArray, List.set_cons_zero, List.set_cons_succ]
          refine wpAnyH_take (i := 5 ) (v := ?_) rfl (by kernel_rfl) (by kernel_rfl) (by kernel_rfl) (fun _ _ _ h => h) (Or.inl ⟨by rfl, ?_⟩) (by assumption) ?_; rotate_left; (· (intro w0 hSw; have c0 := hSw; clear hSw; go_simp); first | done | with_reducible rfl); (try simp only [Act.put, List.getElem_toArray, List.getElem_cons_succ, List.getElem_cons_zero, List.setIfInBounds_toArray, List.set_cons_zero, List.set_cons_succ])
          refine wpAnyH_take (i := 6 ) (v := ?_) rfl (by kernel_rfl) (by kernel_rfl) (by kernel_rfl) (fun _ _ _ h => h) (Or.inl ⟨by rfl, ?_⟩) (by assumption) ?_; rotate_left; (· (intro w0 hSw; have c0 := hSw; clear hSw; go_simp); first | done | with_reducible rfl); (try simp only [Act.put, List.getElem_toArray, List.getElem_cons_succ, List.getElem_cons_zero, List.setIfInBounds_toArray, List.set_cons_zero, List.set_cons_succ])
          refine wpAnyH_take (i := 7 ) (v := ?_) rfl (by kernel_rfl) (by kernel_rfl) (by kernel_rfl) (fun _ _ _ h => h) (Or.inl ⟨by rfl, ?_⟩) (by assumption) ?_; rotate_left; (· (intro w0 hSw; have c0 := hSw; clear hSw; go_simp); first | done | with_reducible rfl); (try simp only [Act.put, List.getElem_toArray, List.getElem_cons_succ, List.getElem_cons_zero, List.setIfInBounds_toArray, List.set_cons_zero, List.set_cons_succ])
          refine wpAnyH_take (i := 8 ) (v := ?_) rfl (by kernel_rfl) (by kernel_rfl) (by kernel_rfl) (fun _ _ _ h => h) (Or.inl ⟨by rfl, ?_⟩) (by assumption) ?_; rotate_left; (· (intro w0 hSw; have c0 := hSw; clear hSw; go_simp); first | done | with_reducible rfl); (try simp only [Act.put, List.getElem_toArray, List.getElem_cons_succ, List.getElem_cons_zero, List.setIfInBounds_toArray, List.set_cons_zero, List.set_cons_succ])
          refine wpAnyH_take (i := 9 ) (v := ?_) rfl (by kernel_rfl) (by kernel_rfl) (by kernel_rfl) (fun _ _ _ h => h) (Or.inl ⟨by rfl, ?_⟩) (by assumption) ?_; rotate_left; (· (intro w0 hSw; have c0 := hSw; clear hSw; go_simp); first | done | with_reducible rfl); (try simp only [Act.put, List.getElem_toArray, List.getElem_cons_succ, List.getElem_cons_zero, List.setIfInBounds_toArray, List.set_cons_zero, List.set_cons_succ])
          refine wpAnyH_take (i := 10) (v := undef) rfl (by kernel_rfl) (by kernel_rfl) (by kernel_rfl) (fun _ _ _ h => h) (Or.inr ⟨by rfl, rfl⟩) (by assumption) ?_; (try simp only [Act.put, List.getElem_toArray, List.getElem_cons_succ, List.getElem_cons_zero, List.setIfInBounds_toArray, List.set_cons_zero, List.set_cons_succ])
          refine wpAnyH_take (i := 11) (v := undef) rfl (by kernel_rfl) (by kernel_rfl) (by kernel_rfl) (fun _ _ _ h => h) (Or.inr ⟨by rfl, rfl⟩) (by assumption) ?_; (try simp only [Act.put, List.getElem_toArray, List.getElem_cons_succ, List.getElem_cons_zero, List.setIfInBounds_toArray, List.set_cons_zero, List.set_cons_succ])
          refine wpAnyH_take (i := 12) (v := undef) rfl (by kernel_rfl) (by kernel_rfl) (by kernel_rfl) (fun _ _ _ h => h) (Or.inr ⟨by rfl, rfl⟩) (by assumption) ?_; (try simp only [Act.put, List.getElem_toArray, List.getElem_cons_succ, List.getElem_cons_zero, List.setIfInBounds_toArray, List.set_cons_zero, List.set_cons_succ])
          refine wpAnyH_take (i := 13) (v := undef) rfl (by kernel_rfl) (by kernel_rfl) (by kernel_rfl) (fun _ _ _ h => h) (Or.inr ⟨by rfl, rfl⟩) (by assumption) ?_; (try simp only [Act.put, List.getElem_toArray, List.getElem_cons_succ, List.getElem_cons_zero, List.setIfInBounds_toArray, List.set_cons_zero, List.set_cons_succ])
          refine wpAnyH_take (i := 14) (v := undef) rfl (by kernel_rfl) (by kernel_rfl) (by kernel_rfl) (fun _ _ _ h => h) (Or.inr ⟨by rfl, rfl⟩) (by assumption) ?_; (try simp only [Act.put, List.getElem_toArray, List.getElem_cons_succ, List.getElem_cons_zero, List.setIfInBounds_toArray, List.set_cons_zero, List.set_cons_succ])
          refine wpAnyH_take (i := 15) (v := undef) rfl (by kernel_rfl) (by kernel_rfl) (by kernel_rfl) (fun _ _ _ h => h) (Or.inr ⟨by rfl, rfl⟩) (by assumption) ?_; (try simp only [Act.put, List.getElem_toArray, List.getElem_cons_succ, List.getElem_cons_zero, List.setIfInBounds_toArray, List.set_cons_zero, List.set_cons_succ])
          refine wpAnyH_take (i := 16) (v := undef) rfl (by kernel_rfl) (by kernel_rfl) (by kernel_rfl) (fun _ _ _ h => h) (Or.inr ⟨by rfl, rfl⟩) (by assumption) ?_; (try simp only [Act.put, List.getElem_toArray, List.getElem_cons_succ, List.getElem_cons_zero, List.setIfInBounds_toArray, List.set_cons_zero, List.set_cons_succ])
          refine wpAnyH_take (i := 17) (v := undef) rfl (by kernel_rfl) (by kernel_rfl) (by kernel_rfl) (fun _ _ _ h => h) (Or.inr ⟨by rfl, rfl⟩) (by assumption) ?_; (try simp only [Act.put, List.getElem_toArray, List.getElem_cons_succ, List.getElem_cons_zero, List.setIfInBounds_toArray, List.set_cons_zero, List.set_cons_succ])
          refine wpAnyH_take (i := 18) (v := undef) rfl (by kernel_rfl) (by kernel_rfl) (by kernel_rfl) (fun _ _ _ h => h) (Or.inr ⟨by rfl, rfl⟩) (by assumption) ?_; (try simp only [Act.put, List.getElem_toArray, List.getElem_cons_succ, List.getElem_cons_zero, List.setIfInBounds_toArray, List.set_cons_zero, List.set_cons_succ])
          refine wpAnyH_take (i := 19) (v := undef) rfl (by kernel_rfl) (by kernel_rfl) (by kernel_rfl) (fun _ _ _ h => h) (Or.inr ⟨by rfl, rfl⟩) (by assumption) ?_; (try simp only [Act.put, List.getElem_toArray, List.getElem_cons_succ, List.getElem_cons_zero, List.setIfInBounds_toArray, List.set_cons_zero, List.set_cons_succ])
          refine wpAnyH_take (i := 20 ) (v := ?_) rfl (by kernel_rfl) (by kernel_rfl) (by kernel_rfl) (fun _ _ _ h => h) (Or.inl ⟨by rfl, ?_⟩) (by assumption) ?_; rotate_left; (· (intro w0 hSw; have c0 := hSw; clear hSw; go_simp); first | done | with_reducible rfl); (try simp only [Act.put, List.getElem_toArray, List.getElem_cons_succ, List.getElem_cons_zero, List.setIfInBounds_toArray, List.set_cons_zero, List.set_cons_succ])
          refine wpAnyH_take (i := 21 ) (v := ?_) rfl (by kernel_rfl) (by kernel_rfl) (by kernel_rfl) (fun _ _ _ h => h) (Or.inl ⟨by rfl, ?_⟩) (by assumption) ?_; rotate_left; (· (intro w0 hSw; have c0 := hSw; clear hSw; go_simp); first | done | with_reducible rfl); (try simp only [Act.put, List.getElem_toArray, List.getElem_cons_succ, List.getElem_cons_zero, List.setIfInBounds_toArray, List.set_cons_zero, List.set_cons_succ])
          refine wpAnyH_done (by kernel_rfl) ?_ _
          go_wp2_with fail
          go_roundw
          case rel => exact ⟨1, by omega, by go_num, HY2, HB⟩
          case measure => simp [intOf]; omega
        · obtain ⟨m, rfl⟩ : ∃ m, k = m + 1 := ⟨k - 1, by omega⟩
          have c1 := hs m (by omega)
          rw [← HB.out.cell (p := ⟨b, _, none⟩) hb] at c1
          have hgm : l.getD m 0 = l[m]'(by omega) := by rw [List.getD_eq_getElem?_getD, List.getElem?_eq_getElem (by omega)]; rfl
          obtain ⟨d, hd1⟩ : ∃ v, l[m + 1] = v := ⟨_, rfl⟩
          obtain ⟨d0, hd0⟩ : ∃ v, l[m]'(by omega) = v := ⟨_, rfl⟩
          rw [hd1] at c0 hz hgk
          rw [hd0] at c1 hgm
          have HD : Hid (limAt l (m + 1) = decide (d0 < d)) := Lib.hid (by unfold limAt; rw [hgk, hz, Nat.add_sub_cancel, hgm]; simp)
          have HZ := Lib.hid hz
          have HC := Lib.hid (And.intro c0 c1)
          clear hgk hgm hz c0 c1 HA hd1 hd0 hs
          have em : ((m : Int) + 1 - 1).toNat = m := by omega
          have w1 : IntKind.i64.wrap (m : Int) = m := IntWalk.i64_in _ ⟨by omega, by omega⟩
          have hm0 : (0 : Int) ≤ m := by omega
          have hk1 : (0 : Int) ≤ (m : Int) + 1 := by omega
          have hml : (m : Int) < l.length := by omega
          have hml1 : (m : Int) + 1 < l.length := by omega
          replace HB := Lib.hid HB.out.drew
          go_wp2_with fail
          refine wp_region_held_drew (S := fun W9 => W9.cell? ⟨b, off + (m + 1), none⟩ = some (.int .i64 d) ∧ W9.cell? ⟨b, off + m, none⟩ = some (.int .i64 d0)) (by kernel_rfl) HC.out (fun hH0 => ?_)
          generalize World.drew _ = V0 at *
          simp only [List.size_toArray, List.length_cons, List.length_nil, Nat.reduceAdd, Array.replicate_succ, Array.replicate_zero, List.push_toArray, List.nil_append, List.cons_append]
          refine wpAnyH_take (i := 0 ) (v := ?_) rfl (by kernel_rfl) (by kernel_rfl) (by kernel_rfl) (fun _ _ _ h => h) (Or.inl ⟨by rfl, ?_⟩) (by assumption) ?_; rotate_left; (· (intro w0 hSw; obtain ⟨c0, c1⟩ := hSw; go_simp); first | done | with_reducible rfl); (try simp only [Act.put, List.getElem_toArray, List.getElem_cons_zero, List.setIfInBounds_toArray, List.set_cons_zero, List.set_cons_succ])
          refine wpAnyH_take (i := 1 ) (v := ?_) rfl (by kernel_rfl) (by kernel_rfl) (by kernel_rfl) (fun _ _ _ h => h) (Or.inl ⟨by rfl, ?_⟩) (by assumption) ?_; rotate_left; (· (intro w0 hSw; obtain ⟨c0, c1⟩ := hSw; go_simp); first | done | with_reducible rfl); (try simp only [Act.put, List.getElem_toArray, List.getElem_cons_succ, List.getElem_cons_zero, List.setIfInBounds_toArray, List.set_cons_zero, List.set_cons_succ])
          refine wpAnyH_take (i := 2 ) (v := ?_) rfl (by kernel_rfl) (by kernel_rfl) (by kernel_rfl) (fun _ _ _ h => h) (Or.inl ⟨by rfl, ?_⟩) (by assumption) ?_; rotate_left; (· (intro w0 hSw; obtain ⟨c0, c1⟩ := hSw; go_simp); first | done | with_reducible rfl); (try simp only [Act.put, List.getElem_toArray, List.getElem_cons_succ, List.getElem_cons_zero, List.setIfInBounds_toArray, List.set_cons_zero, List.set_cons_succ])
          refine wpAnyH_take (i := 3 ) (v := ?_) rfl (by kernel_rfl) (by kernel_rfl) (by kernel_rfl) (fun _ _ _ h => h) (Or.inl ⟨by rfl, ?_⟩) (by assumption) ?_; rotate_left; (· (intro w0 hSw; obtain ⟨c0, c1⟩ := hSw; go_simp); first | done | with_reducible rfl); (try simp only [Act.put, List.getElem_toArray, List.getElem_cons_succ, List.getElem_cons_zero, List.setIfInBounds_toArray, List.set_cons_zero, List.set_cons_succ])
          refine wpAnyH_ready (rs := [4]) (by kernel_rfl) (by simp) ?_
          refine AllReadyH.cons (by simp only [List.getElem?_toArray, List.getElem?_cons_succ, List.getElem?_cons_zero]; rfl) (fun K hK => ?_) AllReadyH.nil
          go_simp
          refine (rin5_any _ _ _ _).mono ?_
          rintro e X ⟨rfl, hX⟩
          subst hX
          rw [HZ.out]
          refine hK.out _ _ hH0 (fun hH1 => ?_)
          clear hK K
          try simp only [List.setIfInBounds_toArray, List.set_cons_zero, List.set_cons_succ]
          refine wpAnyH_take (i := 5 ) (v := ?_) rfl (by kernel_rfl) (by kernel_rfl) (by kernel_rfl) (fun _ _ _ h => h) (Or.inl ⟨by rfl, ?_⟩) (by assumption) ?_; rotate_left; (· (intro w0 hSw; obtain ⟨c0, c1⟩ := hSw; go_simp); first | done | with_reducible rfl); (try simp only [Act.put, List.getElem_toArray, List.getElem_cons_succ, List.getElem_cons_zero, List.setIfInBounds_toArray, List.set_cons_zero, List.set_cons_succ])
          refine wpAnyH_take (i := 6 ) (v := ?_) rfl (by kernel_rfl) (by kernel_rfl) (by kernel_rfl) (fun _ _ _ h => h) (Or.inl ⟨by rfl, ?_⟩) (by assumption) ?_; rotate_left; (· (intro w0 hSw; obtain ⟨c0, c1⟩ := hSw; go_simp); first | done | with_reducible rfl); (try simp only [Act.put, List.getElem_toArray, List.getElem_cons_succ, List.getElem_cons_zero, List.setIfInBounds_toArray, List.set_cons_zero, List.set_cons_succ])
          refine wpAnyH_take (i := 7 ) (v := ?_) rfl (by kernel_rfl) (by kernel_rfl) (by kernel_rfl) (fun _ _ _ h => h) (Or.inl ⟨by rfl, ?_⟩) (by assumption) ?_; rotate_left; (· (intro w0 hSw; obtain ⟨c0, c1⟩ := hSw; go_simp); first | done | with_reducible rfl); (try simp only [Act.put, List.getElem_toArray, List.getElem_cons_succ, List.getElem_cons_zero, List.setIfInBounds_toArray, List.set_cons_zero, List.set_cons_succ])
          refine wpAnyH_take (i := 8 ) (v := ?_) rfl (by kernel_rfl) (by kernel_rfl) (by kernel_rfl) (fun _ _ _ h => h) (Or.inl ⟨by rfl, ?_⟩) (by assumption) ?_; rotate_left; (· (intro w0 hSw; obtain ⟨c0, c1⟩ := hSw; go_simp); first | done | with_reducible rfl); (try simp only [Act.put, List.getElem_toArray, List.getElem_cons_succ, List.getElem_cons_zero, List.setIfInBounds_toArray, List.set_cons_zero, List.set_cons_succ])
          refine wpAnyH_take (i := 9 ) (v := ?_) rfl (by kernel_rfl) (by kernel_rfl) (by kernel_rfl) (fun _ _ _ h => h) (Or.inl ⟨by rfl, ?_⟩) (by assumption) ?_; rotate_left; (· (intro w0 hSw; obtain ⟨c0, c1⟩ := hSw; go_simp); first | done | with_reducible rfl); (try simp only [Act.put, List.getElem_toArray, List.getElem_cons_succ, List.getElem_cons_zero, List.setIfInBounds_toArray, List.set_cons_zero, List.set_cons_succ])
          refine wpAnyH_take (i := 10 ) (v := ?_) rfl (by kernel_rfl) (by kernel_rfl) (by kernel_rfl) (fun _ _ _ h => h) (Or.inl ⟨by rfl, ?_⟩) (by assumption) ?_; rotate_left; (· (intro w0 hSw; obtain ⟨c0, c1⟩ := hSw; go_simp); first | done | with_reducible rfl); (try simp only [Act.put, List.getElem_toArray, List.getElem_cons_succ, List.getElem_cons_zero, List.setIfInBounds_toArray, List.set_cons_zero, List.set_cons_succ])
          refine wpAnyH_take (i := 11 ) (v := ?_) rfl (by kernel_rfl) (by kernel_rfl) (by kernel_rfl) (fun _ _ _ h => h) (Or.inl ⟨by rfl, ?_⟩) (by assumption) ?_; rotate_left; (· (intro w0 hSw; obtain ⟨c0, c1⟩ := hSw; go_simp); first | done | with_reducible rfl); (try simp only [Act.put, List.getElem_toArray, List.getElem_cons_succ, List.getElem_cons_zero, List.setIfInBounds_toArray, List.set_cons_zero, List.set_cons_succ])
          refine wpAnyH_take (i := 12 ) (v := ?_) rfl (by kernel_rfl) (by kernel_rfl) (by kernel_rfl) (fun _ _ _ h => h) (Or.inl ⟨by rfl, ?_⟩) (by assumption) ?_; rotate_left; (· (intro w0 hSw; obtain ⟨c0, c1⟩ := hSw; go_simp); first | done | with_reducible rfl); (try simp only [Act.put, List.getElem_toArray, List.getElem_cons_succ, List.getElem_cons_zero, List.setIfInBounds_toArray, List.set_cons_zero, List.set_cons_succ])
          refine wpAnyH_take (i := 13 ) (v := ?_) rfl (by kernel_rfl) (by kernel_rfl) (by kernel_rfl) (fun _ _ _ h => h) (Or.inl ⟨by rfl, ?_⟩) (by assumption) ?_; rotate_left; (· (intro w0 hSw; obtain ⟨c0, c1⟩ := hSw; go_simp); first | done | with_reducible rfl); (try simp only [Act.put, List.getElem_toArray, List.getElem_cons_succ, List.getElem_cons_zero, List.setIfInBounds_toArray, List.set_cons_zero, List.set_cons_succ])
          refine wpAnyH_take (i := 14 ) (v := ?_) rfl (by kernel_rfl) (by kernel_rfl) (by kernel_rfl) (fun _ _ _ h => h) (Or.inl ⟨by rfl, ?_⟩) (by assumption) ?_; rotate_left; (· (intro w0 hSw; obtain ⟨c0, c1⟩ := hSw; go_simp); first | done | with_reducible rfl); (try simp only [Act.put, List.getElem_toArray, List.getElem_cons_succ, List.getElem_cons_zero, List.setIfInBounds_toArray, List.set_cons_zero, List.set_cons_succ])
          refine wpAnyH_take (i := 15 ) (v := ?_) rfl (by kernel_rfl) (by kernel_rfl) (by kernel_rfl) (fun _ _ _ h => h) (Or.inl ⟨by rfl, ?_⟩) (by assumption) ?_; rotate_left; (· (intro w0 hSw; obtain ⟨c0, c1⟩ := hSw; go_simp); first | done | with_reducible rfl); (try simp only [Act.put, List.getElem_toArray, List.getElem_cons_succ, List.getElem_cons_zero, List.setIfInBounds_toArray, List.set_cons_zero, List.set_cons_succ])
          refine wpAnyH_take (i := 16 ) (v := ?_) rfl (by kernel_rfl) (by kernel_rfl) (by kernel_rfl) (fun _ _ _ h => h) (Or.inl ⟨by rfl, ?_⟩) (by assumption) ?_; rotate_left; (· (intro w0 hSw; obtain ⟨c0, c1⟩ := hSw; go_simp); first | done | with_reducible rfl); (try simp only [Act.put, List.getElem_toArray, List.getElem_cons_succ, List.getElem_cons_zero, List.setIfInBounds_toArray, List.set_cons_zero, List.set_cons_succ])
          refine wpAnyH_take (i := 17 ) (v := ?_) rfl (by kernel_rfl) (by kernel_rfl) (by kernel_rfl) (fun _ _ _ h => h) (Or.inl ⟨by rfl, ?_⟩) (by assumption) ?_; rotate_left; (· (intro w0 hSw; obtain ⟨c0, c1⟩ := hSw; go_simp); first | done | with_reducible rfl); (try simp only [Act.put, List.getElem_toArray, List.getElem_cons_succ, List.getElem_cons_zero, List.setIfInBounds_toArray, List.set_cons_zero, List.set_cons_succ])
          refine wpAnyH_take (i := 18 ) (v := ?_) rfl (by kernel_rfl) (by kernel_rfl) (by kernel_rfl) (fun _ _ _ h => h) (Or.inl ⟨by rfl, ?_⟩) (by assumption) ?_; rotate_left; (· (intro w0 hSw; obtain ⟨c0, c1⟩ := hSw; go_simp); first | done | with_reducible rfl); (try simp only [Act.put, List.getElem_toArray, List.getElem_cons_succ, List.getElem_cons_zero, List.setIfInBounds_toArray, List.set_cons_zero, List.set_cons_succ])
          refine wpAnyH_take (i := 19 ) (v := ?_) rfl (by kernel_rfl) (by kernel_rfl) (by kernel_rfl) (fun _ _ _ h => h) (Or.inl ⟨by rfl, ?_⟩) (by assumption) ?_; rotate_left; (· (intro w0 hSw; obtain ⟨c0, c1⟩ := hSw; go_simp); first | done | with_reducible rfl); (try simp only [Act.put, List.getElem_toArray, List.getElem_cons_succ, List.getElem_cons_zero, List.setIfInBounds_toArray, List.set_cons_zero, List.set_cons_succ])
          refine wpAnyH_take (i := 20 ) (v := ?_) rfl (by kernel_rfl) (by kernel_rfl) (by kernel_rfl) (fun _ _ _ h => h) (Or.inl ⟨by rfl, ?_⟩) (by assumption) ?_; rotate_left; (· (intro w0 hSw; obtain ⟨c0, c1⟩ := hSw; go_simp); first | done | with_reducible rfl); (try simp only [Act.put, List.getElem_toArray, List.getElem_cons_succ, List.getElem_cons_zero, List.setIfInBounds_toArray, List.set_cons_zero, List.set_cons_succ])
          refine wpAnyH_take (i := 21 ) (v := ?_) rfl (by kernel_rfl) (by kernel_rfl) (by kernel_rfl) (fun _ _ _ h => h) (Or.inl ⟨by rfl, ?_⟩) (by assumption) ?_; rotate_left; (· (intro w0 hSw; obtain ⟨c0, c1⟩ := hSw; go_simp); first | done | with_reducible rfl); (try simp only [Act.put, List.getElem_toArray, List.getElem_cons_succ, List.getElem_cons_zero, List.setIfInBounds_toArray, List.set_cons_zero, List.set_cons_succ])
          refine wpAnyH_done (by kernel_rfl) ?_ _
          by_cases hd : d0 < d
          · have HY2 := Lib.hid (HY.out (by rw [HD.out, decide_eq_true hd]))
            have hdd : ¬ d ≤ d0 := by omega
            clear HN HD HY
            go_wp2_with fail
            go_roundw
            case rel => exact ⟨m + 1 + 1, by omega, by go_num, HY2, HB⟩
            case measure => simp [intOf]; omega
          · have HN2 := Lib.hid (HN.out (by rw [HD.out, decide_eq_false hd]))
            have hdd : d ≤ d0 := by omega
            clear HN HD HY
            go_wp2_with fail
            go_ret
            exact ⟨ret_bool HN2.out.symm, HB.out⟩
    · obtain rfl : k = l.length := by omega
      have HE : Hid (rlimB l = decide (0 < l.length)) := Lib.hid (by unfold rlimB; rw [lims_yes HA.out, Bool.true_and])
      clear hlt hk HA
      go_wp2_with fail
      go_ret
      exact ⟨ret_bool HE.out.symm, HB.out⟩

/-- True numbers of a sandwich. -/
structure TrueIn (j : Jig) (a b : Slat) (xt xd xs xp yt yd ys yp gl ld sd ht : Int) : Prop where
  xt0 : a.thick.lo ≤ xt
  xt1 : xt ≤ a.thick.hi
  xd0 : a.depth.lo ≤ xd
  xd1 : xd ≤ a.depth.hi
  xs0 : a.shift.lo ≤ xs
  xs1 : xs ≤ a.shift.hi
  xp0 : a.pitch.lo ≤ xp
  xp1 : xp ≤ a.pitch.hi
  yt0 : b.thick.lo ≤ yt
  yt1 : yt ≤ b.thick.hi
  yd0 : b.depth.lo ≤ yd
  yd1 : yd ≤ b.depth.hi
  ys0 : b.shift.lo ≤ ys
  ys1 : ys ≤ b.shift.hi
  yp0 : b.pitch.lo ≤ yp
  yp1 : yp ≤ b.pitch.hi
  gl0 : j.glue.lo ≤ gl
  gl1 : gl ≤ j.glue.hi
  ld0 : j.lead.lo ≤ ld
  ld1 : ld ≤ j.lead.hi
  sd0 : j.side.lo ≤ sd
  sd1 : sd ≤ j.side.hi
  ht0 : j.height.lo ≤ ht
  ht1 : ht ≤ j.height.hi
section
variable {j : Jig} {a b : Slat} {xt xd xs xp yt yd ys yp gl ld sd ht : Int}
theorem TrueIn.u (h : TrueIn j a b xt xd xs xp yt yd ys yp gl ld sd ht) {i : Int} (hi : 0 ≤ i) :
    (sideS j a b i).lo ≤ xs + i * xp + (ys + i * yp) - 2 * sd ∧ xs + i * xp + (ys + i * yp) - 2 * sd ≤ (sideS j a b i).hi := by
  have a1 := Int.mul_le_mul_of_nonneg_left h.xp0 hi
  have a2 := Int.mul_le_mul_of_nonneg_left h.xp1 hi
  have a3 := Int.mul_le_mul_of_nonneg_left h.yp0 hi
  have a4 := Int.mul_le_mul_of_nonneg_left h.yp1 hi
  have := h.xs0; have := h.xs1; have := h.ys0; have := h.ys1; have := h.sd0; have := h.sd1
  unfold sideS placeS
  dsimp only
  omega
theorem TrueIn.v (h : TrueIn j a b xt xd xs xp yt yd ys yp gl ld sd ht) :
    (heightS j a b).lo ≤ xt - yt - gl - 2 * xd + ld - 2 * ht ∧ xt - yt - gl - 2 * xd + ld - 2 * ht ≤ (heightS j a b).hi := by
  have := h.xt0; have := h.xt1; have := h.yt0; have := h.yt1; have := h.gl0; have := h.gl1; have := h.xd0; have := h.xd1; have := h.ld0; have := h.ld1; have := h.ht0; have := h.ht1
  unfold heightS
  dsimp only
  omega
theorem grade_ge (l : Lead) (x : List Int) : -1 ≤ gradeOf l x ∧ gradeOf l x < x.length := by
  unfold gradeOf
  rcases grade_in x l 0 with h | ⟨k, hk, h, -⟩ <;> omega
/-- A lead with a grade is within its limit, truly. -/
theorem graded5 {l : Lead} {x : List Int} {u v : Int} (h : gradeOf l x ≠ -1) (h1 : l.side.lo ≤ u ∧ u ≤ l.side.hi) (h2 : l.height.lo ≤ v ∧ v ≤ l.height.hi) :
    ∃ k : Nat, ∃ hk : k < x.length, gradeOf l x = (k : Int) ∧ u * u + v * v ≤ 4 * x[k] * x[k] := by
  rcases grade_in x l 0 with hg | ⟨k, hk, hg, hin⟩
  · exact absurd hg h
  · refine ⟨k, hk, by unfold gradeOf; rw [hg]; omega, ?_⟩
    unfold leadIn at hin
    rw [decide_eq_true_eq] at hin
    have a1 := sq_le (x := u) (m := amountS l.side) (by unfold amountS; omega) (by unfold amountS; omega)
    have a2 := sq_le (x := v) (m := amountS l.height) (by unfold amountS; omega) (by unfold amountS; omega)
    omega
theorem line_le {l i s d m : Int} (h0 : 0 ≤ i) (h1 : i ≤ l) (hd : d ≤ m) (hl : d + l * s ≤ m) : d + i * s ≤ m := by
  rcases Int.le_total 0 s with h | h
  · have := Int.mul_le_mul_of_nonneg_right h1 h
    omega
  · have := Int.mul_le_mul_of_nonneg_left h h0
    omega
/-- What always closes truly does. -/
theorem TrueIn.yes (h : TrueIn j a b xt xd xs xp yt yd ys yp gl ld sd ht) (hj : JigIn j) (ha : SlatIn a) (hb : SlatIn b) (hc : closesN j a b = 2) :
    ld ≤ xd + yd + gl ∧ ∀ i : Int, 0 ≤ i → i ≤ j.grooves - 1 → xs + i * xp - (ys + i * yp) ≤ j.play ∧ ys + i * yp - (xs + i * xp) ≤ j.play := by
  have hal : alwaysB j a b = true := by
    unfold closesN at hc
    split at hc
    · rename_i h1; exact h1
    · split at hc <;> cases hc
  rw [always_iff hj ha hb rfl] at hal
  obtain ⟨⟨h1, h2⟩, h3⟩ := hal
  have hl0 : 0 ≤ j.grooves - 1 := by have := hj.n0; omega
  have := h.xd0; have := h.yd0; have := h.gl0; have := h.ld1
  refine ⟨by omega, fun i i0 i1 => ?_⟩
  have e1 : xs + i * xp - (ys + i * yp) = xs - ys + i * (xp - yp) := by rw [Int.mul_sub]; omega
  have e2 : ys + i * yp - (xs + i * xp) = ys - xs + i * (yp - xp) := by rw [Int.mul_sub]; omega
  have m1 := Int.mul_le_mul_of_nonneg_left (show xp - yp ≤ a.pitch.hi - b.pitch.lo by have := h.xp1; have := h.yp0; omega) hl0
  have m2 := Int.mul_le_mul_of_nonneg_left (show yp - xp ≤ b.pitch.hi - a.pitch.lo by have := h.yp1; have := h.xp0; omega) hl0
  have := h.xs0; have := h.xs1; have := h.ys0; have := h.ys1
  rw [e1, e2]
  exact ⟨line_le i0 i1 (by omega) (by omega), line_le i0 i1 (by omega) (by omega)⟩
/-- What truly closes can. -/
theorem TrueIn.no (h : TrueIn j a b xt xd xs xp yt yd ys yp gl ld sd ht) (hj : JigIn j) (ha : SlatIn a) (hb : SlatIn b) (hd : ld ≤ xd + yd + gl) (hi : ∀ i : Int, 0 ≤ i → i ≤ j.grooves - 1 → xs + i * xp - (ys + i * yp) ≤ j.play ∧ ys + i * yp - (xs + i * xp) ≤ j.play) : closesN j a b ≠ 0 := by
  have hl0 : 0 ≤ j.grooves - 1 := by have := hj.n0; omega
  have h0 := hi 0 (Int.le_refl _) hl0
  have h1 := hi (j.grooves - 1) hl0 (Int.le_refl _)
  rw [Int.zero_mul, Int.zero_mul] at h0
  have m1 := Int.mul_le_mul_of_nonneg_left (show a.pitch.lo - b.pitch.hi ≤ xp - yp by have := h.xp0; have := h.yp1; omega) hl0
  have m2 := Int.mul_le_mul_of_nonneg_left (show xp - yp ≤ a.pitch.hi - b.pitch.lo by have := h.xp1; have := h.yp0; omega) hl0
  rw [Int.mul_sub (j.grooves - 1) xp yp] at m1 m2
  have := h.xs0; have := h.xs1; have := h.ys0; have := h.ys1; have := h.xd1; have := h.yd1; have := h.gl1; have := h.ld0
  have hp : perhapsB j a b = true := by
    rw [perhaps_iff hj ha hb rfl rfl rfl]
    omega
  unfold closesN
  rw [hp]
  split <;> simp
end
theorem clo_range (j : Jig) (a b : Slat) : closesN j a b = 0 ∨ closesN j a b = 1 ∨ closesN j a b = 2 := by
  unfold closesN
  split
  · exact .inr (.inr rfl)
  · split
    · exact .inr (.inl rfl)
    · exact .inl rfl
theorem gra_err0 {j : Jig} {a b : Slat} {x : List Int} (hj : jigOk j = true) (ha : slatOk a = true) (hb : slatOk b = true) : graE0 j a b x = if 8 < x.length then 3 else if rlimB x = true then 0 else 2 := by
  unfold graE0 slErr rlimB
  simp only [hj, ha, hb, List.all_cons, List.all_nil, Bool.and_true, List.length_cons, List.length_nil]
  by_cases h8 : 8 < x.length
  · simp [h8]
  · cases hl : limsOk x && decide (0 < x.length) with
    | true => simp [h8]
    | false => simp [h8]
theorem gra_no {j : Jig} {a b : Slat} {x : List Int} (h : graE j a b x ≠ 0) : graL j a b x = [] := by
  unfold graL
  rw [if_neg]
  rintro ⟨h1, h2⟩
  apply h
  unfold graE
  rw [if_pos h1, if_pos h2]
theorem alw_iff {j : Jig} {a b : Slat} : alwaysB j a b = true ↔ closesN j a b = 2 := by
  unfold closesN
  constructor
  · intro h; rw [if_pos h]
  · intro h
    split at h
    · assumption
    · split at h <;> cases h
theorem gra_six {j : Jig} {a b : Slat} {x : List Int} (hj : jigOk j = true) (ha : slatOk a = true) (hb : slatOk b = true) : graE j a b x = 6 ↔ ((closesN j a b ≠ 2 ∧ x.length ≤ 8) ∧ rlimB x = true) := by
  have h0 := gra_err0 (x := x) hj ha hb
  have hw := alw_iff (j := j) (a := a) (b := b)
  unfold graE
  rw [h0]
  by_cases h8 : 8 < x.length
  · rw [if_pos h8]
    constructor
    · intro h; simp at h
    · rintro ⟨⟨-, h9⟩, -⟩; omega
  · rw [if_neg h8]
    cases hr : rlimB x with
    | true =>
      cases hal : alwaysB j a b with
      | true =>
        have := hw.1 hal
        simp [this]
      | false =>
        have : closesN j a b ≠ 2 := fun h => by rw [hw.2 h] at hal; cases hal
        simp [this]
        omega
    | false => simp
theorem gra_zero {j : Jig} {a b : Slat} {x : List Int} (h : graE j a b x = 0) : closesN j a b = 2 := by
  rw [← alw_iff]
  unfold graE at h
  split at h
  · split at h
    · assumption
    · cases h
  · rename_i h1; exact absurd h h1
/-- The numbers of a round of SlatTrue. -/
theorem true_wraps {j : Jig} {a b : Slat} {xt xd xs xp yt yd ys yp gl ld sd ht : Int} (h : TrueIn j a b xt xd xs xp yt yd ys yp gl ld sd ht) (hj : JigIn j) (ha : SlatIn a) (hb : SlatIn b) {k : Int} (k0 : 0 ≤ k) (k1 : k ≤ 9) {p q u v : Int} (hp : xs + k * xp = p) (hq : ys + k * yp = q) (hu : p + q - 2 * sd = u) (hv : xt - yt - gl - 2 * xd + ld - 2 * ht = v) :
    (IntKind.i64.wrap (k * xp) = k * xp ∧ IntKind.i64.wrap (xs + k * xp) = p ∧ IntKind.i64.wrap (k * yp) = k * yp ∧ IntKind.i64.wrap (ys + k * yp) = q) ∧ (IntKind.i64.wrap (p - q) = p - q ∧ IntKind.i64.wrap (q - p) = q - p) ∧ (IntKind.i64.wrap (p + q) = p + q ∧ IntKind.i64.wrap (2 * sd) = 2 * sd ∧ IntKind.i64.wrap (p + q - 2 * sd) = u) ∧
    (IntKind.i64.wrap (xt - yt) = xt - yt ∧ IntKind.i64.wrap (xt - yt - gl) = xt - yt - gl ∧ IntKind.i64.wrap (2 * xd) = 2 * xd ∧ IntKind.i64.wrap (xt - yt - gl - 2 * xd) = xt - yt - gl - 2 * xd ∧ IntKind.i64.wrap (xt - yt - gl - 2 * xd + ld) = xt - yt - gl - 2 * xd + ld ∧ IntKind.i64.wrap (2 * ht) = 2 * ht ∧ IntKind.i64.wrap (xt - yt - gl - 2 * xd + ld - 2 * ht) = v) ∧ (-3000 ≤ u ∧ u ≤ 3000) ∧ (-40000 ≤ v ∧ v ≤ 40000) := by
  have m1 := mul_in (i := k) (x := xp) (m := 50) k0 k1 (by have := h.xp0; have := ha.p0; omega) (by have := h.xp1; have := ha.p2; omega) (by omega)
  have m2 := mul_in (i := k) (x := yp) (m := 50) k0 k1 (by have := h.yp0; have := hb.p0; omega) (by have := h.yp1; have := hb.p2; omega) (by omega)
  obtain ⟨h1, h2, h3, h4, h5, h6, h7, h8, h9, h10, h11, h12, h13, h14, h15, h16, h17, h18, h19, h20, h21, h22, h23, h24⟩ := h
  obtain ⟨jg0, jg1, jg2, jl0, jl1, jl2, js0, js1, js2, jh0, jh1, jh2, jp0, jp1, jn0, jn1⟩ := hj
  obtain ⟨at0, at1, at2, ad0, ad1, ad2, as0, as1, as2, ap0, ap1, ap2⟩ := ha
  obtain ⟨bt0, bt1, bt2, bd0, bd1, bd2, bs0, bs1, bs2, bp0, bp1, bp2⟩ := hb
  generalize k * xp = c1 at *
  generalize k * yp = c2 at *
  refine ⟨⟨?_, ?_, ?_, ?_⟩, ⟨?_, ?_⟩, ⟨?_, ?_, ?_⟩, ⟨?_, ?_, ?_, ?_, ?_, ?_, ?_⟩, ?_, ?_⟩
  all_goals first | exact wrz (by omega) (by omega) | (rw [wrz (by omega) (by omega)]; omega) | omega
theorem sum_wraps {j : Jig} {a b : Slat} {xt xd xs xp yt yd ys yp gl ld sd ht : Int} (h : TrueIn j a b xt xd xs xp yt yd ys yp gl ld sd ht) (hj : JigIn j) (ha : SlatIn a) (hb : SlatIn b) : IntKind.i64.wrap (xd + yd) = xd + yd ∧ IntKind.i64.wrap (xd + yd + gl) = xd + yd + gl := by
  have := h.xd0; have := h.xd1; have := h.yd0; have := h.yd1; have := h.gl0; have := h.gl1
  have := hj.g0; have := hj.g2; have := ha.d0; have := ha.d2; have := ha.t1; have := ha.t2; have := hb.d0; have := hb.d2; have := hb.t1; have := hb.t2
  exact ⟨wrz (by omega) (by omega), wrz (by omega) (by omega)⟩
theorem lim_wraps {u v lim : Int} (h1 : -3000 ≤ u ∧ u ≤ 3000) (h2 : -40000 ≤ v ∧ v ≤ 40000) (hl : 0 ≤ lim ∧ lim ≤ 1000) :
    IntKind.i64.wrap (u * u) = u * u ∧ IntKind.i64.wrap (v * v) = v * v ∧ IntKind.i64.wrap (u * u + v * v) = u * u + v * v ∧ IntKind.i64.wrap (4 * lim) = 4 * lim ∧ IntKind.i64.wrap (4 * lim * lim) = 4 * lim * lim := by
  have a1 := sq_le (x := u) (m := 3000) (by omega) (by omega)
  have a2 := sq_le (x := v) (m := 40000) (by omega) (by omega)
  have a3 := sq_le (x := lim) (m := 1000) (by omega) (by omega)
  have b1 := mul_self_nn u
  have b2 := mul_self_nn v
  have b3 := mul_self_nn lim
  have e2 : 4 * lim * lim = 4 * (lim * lim) := Int.mul_assoc _ _ _
  rw [e2]
  refine ⟨?_, ?_, ?_, ?_, ?_⟩
  all_goals exact wrz (by omega) (by omega)
end Go.Proofs.Ytaafmfhpoimjhaa
