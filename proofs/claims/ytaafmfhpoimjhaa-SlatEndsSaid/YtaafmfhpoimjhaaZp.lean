/- The plain part of SlatEnds and SlatTrue. -/
import Derived.Test.YtaafmfhpoimjhaaZm
import Derived.Test.YtaafmfhpoimjhaaSm
namespace Go.Proofs.Ytaafmfhpoimjhaa
open Go.RowKit Go.Shelf

set_option maxHeartbeats 400000 in
theorem rin5_any (n a b : Int) (w : World) : Calls Try.prog 54 #[.int .i64 n, .int .i64 a, .int .i64 b] w fun e w' => e = .returned (.bool (fromB n a b)) ∧ w = w' := by
  go_enter Try.func54, Try.ntmps54
  go_wp2
  all_goals go_ret
  all_goals exact ⟨ret_bool (by rw [Bool.eq_iff_iff]; simp only [fromB, decide_eq_true_eq, Bool.false_eq_true, false_iff]; omega), rfl⟩
set_option maxHeartbeats 400000 in
theorem rspan5_any (a b c d : Int) (w : World) : Calls Try.prog 53 #[.agg #[.int .i64 a, .int .i64 b], .int .i64 c, .int .i64 d] w (Ret (.bool (withinB ⟨a, b⟩ c d)) w) := by
  go_enter Try.func53, Try.ntmps53
  go_wp2
  all_goals go_ret
  all_goals exact ⟨ret_bool (by rw [Bool.eq_iff_iff]; simp only [withinB, decide_eq_true_eq, Bool.false_eq_true, false_iff]; omega), (Below.refl _ _).alloc (Nat.le_refl _) _⟩
set_option maxRecDepth 100000 in
set_option maxHeartbeats 2000000 in
theorem rjig5_any (j : Jig) (w : World) : Calls Try.prog 24 #[.agg #[.int .i64 j.glue.lo, .int .i64 j.glue.hi, .int .i64 j.lead.lo, .int .i64 j.lead.hi, .int .i64 j.side.lo, .int .i64 j.side.hi, .int .i64 j.height.lo, .int .i64 j.height.hi, .int .i64 j.play, .int .i64 j.grooves]] w (Ret (.bool (jigOk j)) w) := by
  have HB := Lib.hid (show Below w.heap.size w (w.alloc (.cells #[.int .i64 j.glue.lo, .int .i64 j.glue.hi, .int .i64 j.lead.lo, .int .i64 j.lead.hi, .int .i64 j.side.lo, .int .i64 j.side.hi, .int .i64 j.height.lo, .int .i64 j.height.hi, .int .i64 j.play, .int .i64 j.grooves] 25)) from (Below.refl _ _).alloc (Nat.le_refl _) _)
  have HK := Lib.hid (Blk.new w 25 #[.int .i64 j.glue.lo, .int .i64 j.glue.hi, .int .i64 j.lead.lo, .int .i64 j.lead.hi, .int .i64 j.side.lo, .int .i64 j.side.hi, .int .i64 j.height.lo, .int .i64 j.height.hi, .int .i64 j.play, .int .i64 j.grooves])
  have HD : Hid (jigOk j = (withinB ⟨j.glue.lo, j.glue.hi⟩ 0 500 && withinB ⟨j.lead.lo, j.lead.hi⟩ 1 5000 && withinB ⟨j.side.lo, j.side.hi⟩ (-500) 500 && withinB ⟨j.height.lo, j.height.hi⟩ (-500) 500 && fromB j.play 0 500 && fromB j.grooves 1 10)) := Lib.hid rfl
  go_enter Try.func24, Try.ntmps24
  go_wp2_with fail
  generalize World.alloc w _ = V at HB HK ⊢
  refine (rspan5_any _ _ _ _ _).mono ?_
  rintro e W1 ⟨he, hb1⟩
  replace HK := Lib.hid (HK.out.below hb1 HK.out.lt)
  replace HB := Lib.hid (HB.out.trans (hb1.mono HB.out.size))
  clear hb1
  obtain ⟨z1, hz1⟩ : ∃ z, withinB ⟨j.glue.lo, j.glue.hi⟩ 0 500 = z := ⟨_, rfl⟩
  rw [hz1] at he
  have H0 := Lib.hid hz1
  clear hz1
  subst he
  cases z1 with
  | false =>
    go_wp2_with fail
    go_ret
    exact ⟨ret_bool (Eq.symm (by rw [HD.out, H0.out]; simp)), HB.out⟩
  | true =>
    skip
    have x2 := HK.out.cell 2
    have x3 := HK.out.cell 3
    go_wp2_with fail
    clear x2 x3
    refine (rspan5_any _ _ _ _ _).mono ?_
    rintro e W1 ⟨he, hb1⟩
    replace HK := Lib.hid (HK.out.below hb1 HK.out.lt)
    replace HB := Lib.hid (HB.out.trans (hb1.mono HB.out.size))
    clear hb1
    obtain ⟨z1, hz1⟩ : ∃ z, withinB ⟨j.lead.lo, j.lead.hi⟩ 1 5000 = z := ⟨_, rfl⟩
    rw [hz1] at he
    have H1 := Lib.hid hz1
    clear hz1
    subst he
    cases z1 with
    | false =>
      go_wp2_with fail
      go_ret
      exact ⟨ret_bool (Eq.symm (by rw [HD.out, H0.out, H1.out]; simp)), HB.out⟩
    | true =>
      skip
      have x4 := HK.out.cell 4
      have x5 := HK.out.cell 5
      go_wp2_with fail
      clear x4 x5
      refine (rspan5_any _ _ _ _ _).mono ?_
      rintro e W1 ⟨he, hb1⟩
      replace HK := Lib.hid (HK.out.below hb1 HK.out.lt)
      replace HB := Lib.hid (HB.out.trans (hb1.mono HB.out.size))
      clear hb1
      obtain ⟨z1, hz1⟩ : ∃ z, withinB ⟨j.side.lo, j.side.hi⟩ (-500) 500 = z := ⟨_, rfl⟩
      rw [hz1] at he
      have H2 := Lib.hid hz1
      clear hz1
      subst he
      cases z1 with
      | false =>
        go_wp2_with fail
        go_ret
        exact ⟨ret_bool (Eq.symm (by rw [HD.out, H0.out, H1.out, H2.out]; simp)), HB.out⟩
      | true =>
        skip
        have x6 := HK.out.cell 6
        have x7 := HK.out.cell 7
        go_wp2_with fail
        clear x6 x7
        refine (rspan5_any _ _ _ _ _).mono ?_
        rintro e W1 ⟨he, hb1⟩
        replace HK := Lib.hid (HK.out.below hb1 HK.out.lt)
        replace HB := Lib.hid (HB.out.trans (hb1.mono HB.out.size))
        clear hb1
        obtain ⟨z1, hz1⟩ : ∃ z, withinB ⟨j.height.lo, j.height.hi⟩ (-500) 500 = z := ⟨_, rfl⟩
        rw [hz1] at he
        have H3 := Lib.hid hz1
        clear hz1
        subst he
        cases z1 with
        | false =>
          go_wp2_with fail
          go_ret
          exact ⟨ret_bool (Eq.symm (by rw [HD.out, H0.out, H1.out, H2.out, H3.out]; simp)), HB.out⟩
        | true =>
          skip
          have x8 := HK.out.cell 8
          go_wp2_with fail
          clear x8
          refine (rin5_any _ _ _ _).mono ?_
          rintro e W1 ⟨he, rfl⟩
          skip
          obtain ⟨z1, hz1⟩ : ∃ z, fromB j.play 0 500 = z := ⟨_, rfl⟩
          rw [hz1] at he
          have H4 := Lib.hid hz1
          clear hz1
          subst he
          cases z1 with
          | false =>
            go_wp2_with fail
            go_ret
            exact ⟨ret_bool (Eq.symm (by rw [HD.out, H0.out, H1.out, H2.out, H3.out, H4.out]; simp)), HB.out⟩
          | true =>
            skip
            have x9 := HK.out.cell 9
            go_wp2_with fail
            clear x9
            refine (rin5_any _ _ _ _).mono ?_
            rintro e W1 ⟨rfl, rfl⟩
            go_wp2_with fail
            go_ret
            exact ⟨ret_bool (by rw [HD.out, H0.out, H1.out, H2.out, H3.out, H4.out]; simp), HB.out⟩
set_option maxRecDepth 100000 in
set_option maxHeartbeats 2000000 in
theorem rslat5_any (s : Slat) (w : World) : Calls Try.prog 25 #[.agg #[.int .i64 s.thick.lo, .int .i64 s.thick.hi, .int .i64 s.depth.lo, .int .i64 s.depth.hi, .int .i64 s.shift.lo, .int .i64 s.shift.hi, .int .i64 s.pitch.lo, .int .i64 s.pitch.hi]] w (Ret (.bool (slatOk s)) w) := by
  have HB := Lib.hid (show Below w.heap.size w (w.alloc (.cells #[.int .i64 s.thick.lo, .int .i64 s.thick.hi, .int .i64 s.depth.lo, .int .i64 s.depth.hi, .int .i64 s.shift.lo, .int .i64 s.shift.hi, .int .i64 s.pitch.lo, .int .i64 s.pitch.hi] 37)) from (Below.refl _ _).alloc (Nat.le_refl _) _)
  have HK := Lib.hid (Blk.new w 37 #[.int .i64 s.thick.lo, .int .i64 s.thick.hi, .int .i64 s.depth.lo, .int .i64 s.depth.hi, .int .i64 s.shift.lo, .int .i64 s.shift.hi, .int .i64 s.pitch.lo, .int .i64 s.pitch.hi])
  have HD : Hid (slatOk s = (withinB ⟨s.thick.lo, s.thick.hi⟩ 1 10000 && withinB ⟨s.depth.lo, s.depth.hi⟩ 0 s.thick.lo && withinB ⟨s.shift.lo, s.shift.hi⟩ (-500) 500 && withinB ⟨s.pitch.lo, s.pitch.hi⟩ (-50) 50)) := Lib.hid rfl
  go_enter Try.func25, Try.ntmps25
  go_wp2_with fail
  generalize World.alloc w _ = V at HB HK ⊢
  refine (rspan5_any _ _ _ _ _).mono ?_
  rintro e W1 ⟨he, hb1⟩
  replace HK := Lib.hid (HK.out.below hb1 HK.out.lt)
  replace HB := Lib.hid (HB.out.trans (hb1.mono HB.out.size))
  clear hb1
  obtain ⟨z1, hz1⟩ : ∃ z, withinB ⟨s.thick.lo, s.thick.hi⟩ 1 10000 = z := ⟨_, rfl⟩
  rw [hz1] at he
  have H0 := Lib.hid hz1
  clear hz1
  subst he
  cases z1 with
  | false =>
    go_wp2_with fail
    go_ret
    exact ⟨ret_bool (Eq.symm (by rw [HD.out, H0.out]; simp)), HB.out⟩
  | true =>
    skip
    have x0 := HK.out.cell 0
    have x2 := HK.out.cell 2
    have x3 := HK.out.cell 3
    go_wp2_with fail
    clear x0 x2 x3
    refine (rspan5_any _ _ _ _ _).mono ?_
    rintro e W1 ⟨he, hb1⟩
    replace HK := Lib.hid (HK.out.below hb1 HK.out.lt)
    replace HB := Lib.hid (HB.out.trans (hb1.mono HB.out.size))
    clear hb1
    obtain ⟨z1, hz1⟩ : ∃ z, withinB ⟨s.depth.lo, s.depth.hi⟩ 0 s.thick.lo = z := ⟨_, rfl⟩
    rw [hz1] at he
    have H1 := Lib.hid hz1
    clear hz1
    subst he
    cases z1 with
    | false =>
      go_wp2_with fail
      go_ret
      exact ⟨ret_bool (Eq.symm (by rw [HD.out, H0.out, H1.out]; simp)), HB.out⟩
    | true =>
      skip
      have x4 := HK.out.cell 4
      have x5 := HK.out.cell 5
      go_wp2_with fail
      clear x4 x5
      refine (rspan5_any _ _ _ _ _).mono ?_
      rintro e W1 ⟨he, hb1⟩
      replace HK := Lib.hid (HK.out.below hb1 HK.out.lt)
      replace HB := Lib.hid (HB.out.trans (hb1.mono HB.out.size))
      clear hb1
      obtain ⟨z1, hz1⟩ : ∃ z, withinB ⟨s.shift.lo, s.shift.hi⟩ (-500) 500 = z := ⟨_, rfl⟩
      rw [hz1] at he
      have H2 := Lib.hid hz1
      clear hz1
      subst he
      cases z1 with
      | false =>
        go_wp2_with fail
        go_ret
        exact ⟨ret_bool (Eq.symm (by rw [HD.out, H0.out, H1.out, H2.out]; simp)), HB.out⟩
      | true =>
        skip
        have x6 := HK.out.cell 6
        have x7 := HK.out.cell 7
        go_wp2_with fail
        clear x6 x7
        refine (rspan5_any _ _ _ _ _).mono ?_
        rintro e W1 ⟨rfl, hb1⟩
        replace HB := Lib.hid (HB.out.trans (hb1.mono HB.out.size))
        clear hb1
        go_wp2_with fail
        go_ret
        exact ⟨ret_bool (by rw [HD.out, H0.out, H1.out, H2.out]; simp), HB.out⟩

theorem sq_le {x m : Int} (h1 : -m ≤ x) (h2 : x ≤ m) : x * x ≤ m * m := by
  rcases Int.le_total 0 x with h | h
  · exact Int.mul_le_mul h2 h2 h (by omega)
  · have := Int.mul_le_mul (show -x ≤ m by omega) (show -x ≤ m by omega) (show 0 ≤ -x by omega) (by omega)
    rw [Int.neg_mul_neg] at this
    exact this
theorem mul_self_nn (x : Int) : 0 ≤ x * x := by
  rcases Int.le_total 0 x with h | h
  · exact Int.mul_nonneg h h
  · exact Int.mul_nonneg_of_nonpos_of_nonpos h h
theorem told_ok {j : Jig} {a b : Slat} (hj : jigOk j = true) (ha : slatOk a = true) (hb : slatOk b = true) (o : Bool) (ho : o = true) : slErr j [a] [b] [] o = 0 := by
  subst ho
  unfold slErr
  simp [hj, ha, hb, limsOk]
theorem gra_yes {j : Jig} {a b : Slat} {x : List Int} {N : Nat} (hN : j.grooves = N) (h : graE j a b x = 0) : graL j a b x = gradesOf j a b x ∧ (graL j a b x).length = N := by
  unfold graE at h
  have h0 : graE0 j a b x = 0 ∧ alwaysB j a b = true := by
    split at h
    · rename_i h1
      split at h
      · rename_i h2; exact ⟨h1, h2⟩
      · cases h
    · rename_i h1; exact absurd h h1
  have e : graL j a b x = gradesOf j a b x := by unfold graL; rw [if_pos h0]
  exact ⟨e, by rw [e, grades_len, leads_len, hN]; simp⟩
theorem gra_err {j : Jig} {a b : Slat} {x : List Int} (h : graE j a b x = 0) : graE0 j a b x = 0 := by
  unfold graE at h
  split at h
  · rename_i h1; exact h1
  · rename_i h1; exact absurd h h1
theorem gra_lims {j : Jig} {a b : Slat} {x : List Int} (h : graE j a b x = 0) : ∀ y ∈ x, 0 ≤ y ∧ y ≤ 1000 := (gra_ok (gra_err h)).2.2.2.2
theorem gra_at {j : Jig} {a b : Slat} {x : List Int} {k : Nat} (h : k < (gradesOf j a b x).length) : (gradesOf j a b x)[k] = gradeOf (leadOf j a b (k : Int)) x := by
  simp [gradesOf, leadsOf]
theorem le_of_own {w : World} {B : Nat} {e : TypeId} {size : Nat} {v : Value} {k : Nat} {xs : List Value} (hr : w.ownsRow B e size v k xs) : k ≤ 9223372036854775807 := by
  rcases hr.2 with ⟨rfl, h⟩ | ⟨g, cap, cur, rfl, h1, h2, h3, h4, h5⟩
  · omega
  · have : maxLen ≤ 9223372036854775807 := by unfold maxLen; omega
    omega
/-- Limits rise. -/
theorem lims_rise {x : List Int} (h : limsOk x = true) {i k : Nat} (hik : i ≤ k) (hi : i < x.length) (hk : k < x.length) : x[i] ≤ x[k] := by
  induction k with
  | zero => obtain rfl : i = 0 := by omega
            exact Int.le_refl _
  | succ k ih =>
    rcases Nat.lt_or_ge k i with h1 | h1
    · obtain rfl : i = k + 1 := by omega
      exact Int.le_refl _
    · have h2 := ih h1 (by omega)
      unfold limsOk at h
      rw [List.all_eq_true] at h
      have h3 := h (k + 1) (by simpa using hk)
      unfold limAt at h3
      simp [hk, show k < x.length by omega] at h3
      omega
theorem gra_rise {j : Jig} {a b : Slat} {x : List Int} (h : graE j a b x = 0) : limsOk x = true := by
  have h1 := gra_err h
  unfold graE0 slErr at h1
  split at h1
  · cases h1
  · split at h1
    · cases h1
    · split at h1
      · cases h1
      · rename_i h2
        cases hl : limsOk x with
        | true => rfl
        | false => rw [hl] at h2; simp at h2
theorem grade_first : ∀ (x : List Int) (l : Lead) (i : Int) (q : Nat) (hq : q < x.length), leadIn l x[q] = true → gradeFrom l x i ≠ -1 ∨ i < 0 := by
  intro x
  induction x with
  | nil => intro l i q hq; simp at hq
  | cons y ys ih =>
    intro l i q hq h
    unfold gradeFrom
    by_cases hy : leadIn l y = true
    · rw [if_pos hy]; omega
    · rw [if_neg hy]
      cases q with
      | zero => exact absurd h hy
      | succ q =>
        have := ih l (i + 1) q (by simpa using hq) (by simpa using h)
        omega
theorem grade_least : ∀ (x : List Int) (l : Lead) (i : Int) (q : Nat) (hq : q < x.length), 0 ≤ i → leadIn l x[q] = true → i ≤ gradeFrom l x i ∧ gradeFrom l x i ≤ i + q := by
  intro x
  induction x with
  | nil => intro l i q hq; simp at hq
  | cons y ys ih =>
    intro l i q hq h0 h
    unfold gradeFrom
    by_cases hy : leadIn l y = true
    · rw [if_pos hy]; omega
    · rw [if_neg hy]
      cases q with
      | zero => exact absurd h hy
      | succ q =>
        have := ih l (i + 1) q (by simpa using hq) (by omega) (by simpa using h)
        omega
theorem grade_in : ∀ (x : List Int) (l : Lead) (i : Int), gradeFrom l x i = -1 ∨ ∃ k : Nat, ∃ h : k < x.length, gradeFrom l x i = i + k ∧ leadIn l x[k] = true
  | [], _, _ => .inl rfl
  | y :: x, l, i => by
    unfold gradeFrom
    by_cases h : leadIn l y = true
    · rw [if_pos h]
      exact .inr ⟨0, by simp, by simp, h⟩
    · rw [if_neg h]
      rcases grade_in x l (i + 1) with h1 | ⟨k, hk, h1, h2⟩
      · exact .inl h1
      · exact .inr ⟨k + 1, by simpa using hk, by rw [h1]; simp; omega, h2⟩
/-- A lead has a grade up to q just if it is within the q-th limit. -/
theorem grade_iff {x : List Int} (hr : limsOk x = true) (h0 : ∀ y ∈ x, 0 ≤ y ∧ y ≤ 1000) (l : Lead) {q : Nat} (hq : q < x.length) :
    amountS l.side * amountS l.side + amountS l.height * amountS l.height ≤ 4 * x[q] * x[q] ↔ (gradeOf l x ≠ -1 ∧ gradeOf l x ≤ (q : Int)) := by
  constructor
  · intro h
    have hin : leadIn l x[q] = true := by unfold leadIn; rw [decide_eq_true_eq]; exact h
    have := grade_least x l 0 q hq (Int.le_refl _) hin
    unfold gradeOf
    omega
  · rintro ⟨h1, h2⟩
    rcases grade_in x l 0 with hg | ⟨k, hk, hg, hin⟩
    · exact absurd hg h1
    · unfold gradeOf at h2
      have hkq : k ≤ q := by omega
      have hle := lims_rise hr hkq hk hq
      unfold leadIn at hin
      rw [decide_eq_true_eq] at hin
      have hk0 := (h0 x[k] (List.getElem_mem hk)).1
      have := Int.mul_le_mul hle hle hk0 (by omega)
      have e1 : 4 * x[k] * x[k] = 4 * (x[k] * x[k]) := Int.mul_assoc _ _ _
      have e2 : 4 * x[q] * x[q] = 4 * (x[q] * x[q]) := Int.mul_assoc _ _ _
      rw [e1] at hin
      rw [e2]
      omega
theorem wrz {x : Int} (h : -9000000000000000000 ≤ x) (h' : x ≤ 9000000000000000000) : IntKind.i64.wrap x = x := IntWalk.i64_in x ⟨by omega, by omega⟩
/-- The numbers of the two rows ahead of the loop. -/
theorem low_wraps {j : Jig} {a b : Slat} (hj : JigIn j) (ha : SlatIn a) (hb : SlatIn b) {g0 g1 : Int} (h0 : (heightS j a b).lo = g0) (h1 : (heightS j a b).hi = g1) :
    (IntKind.i64.wrap (a.thick.lo - b.thick.hi) = a.thick.lo - b.thick.hi ∧ IntKind.i64.wrap (a.thick.lo - b.thick.hi - j.glue.hi) = a.thick.lo - b.thick.hi - j.glue.hi ∧ IntKind.i64.wrap (2 * a.depth.hi) = 2 * a.depth.hi ∧ IntKind.i64.wrap (a.thick.lo - b.thick.hi - j.glue.hi - 2 * a.depth.hi) = a.thick.lo - b.thick.hi - j.glue.hi - 2 * a.depth.hi ∧ IntKind.i64.wrap (a.thick.lo - b.thick.hi - j.glue.hi - 2 * a.depth.hi + j.lead.lo) = a.thick.lo - b.thick.hi - j.glue.hi - 2 * a.depth.hi + j.lead.lo ∧ IntKind.i64.wrap (2 * j.height.hi) = 2 * j.height.hi ∧ IntKind.i64.wrap (a.thick.lo - b.thick.hi - j.glue.hi - 2 * a.depth.hi + j.lead.lo - 2 * j.height.hi) = g0) ∧
    IntKind.i64.wrap (a.thick.hi - b.thick.lo) = a.thick.hi - b.thick.lo ∧ IntKind.i64.wrap (a.thick.hi - b.thick.lo - j.glue.lo) = a.thick.hi - b.thick.lo - j.glue.lo ∧ IntKind.i64.wrap (2 * a.depth.lo) = 2 * a.depth.lo ∧ IntKind.i64.wrap (a.thick.hi - b.thick.lo - j.glue.lo - 2 * a.depth.lo) = a.thick.hi - b.thick.lo - j.glue.lo - 2 * a.depth.lo ∧ IntKind.i64.wrap (a.thick.hi - b.thick.lo - j.glue.lo - 2 * a.depth.lo + j.lead.hi) = a.thick.hi - b.thick.lo - j.glue.lo - 2 * a.depth.lo + j.lead.hi ∧ IntKind.i64.wrap (2 * j.height.lo) = 2 * j.height.lo ∧ IntKind.i64.wrap (a.thick.hi - b.thick.lo - j.glue.lo - 2 * a.depth.lo + j.lead.hi - 2 * j.height.lo) = g1 := by
  subst h0 h1
  obtain ⟨jg0, jg1, jg2, jl0, jl1, jl2, js0, js1, js2, jh0, jh1, jh2, jp0, jp1, jn0, jn1⟩ := hj
  obtain ⟨at0, at1, at2, ad0, ad1, ad2, as0, as1, as2, ap0, ap1, ap2⟩ := ha
  obtain ⟨bt0, bt1, bt2, bd0, bd1, bd2, bs0, bs1, bs2, bp0, bp1, bp2⟩ := hb
  unfold heightS
  dsimp only
  refine ⟨⟨?_, ?_, ?_, ?_, ?_, ?_, ?_⟩, ?_, ?_, ?_, ?_, ?_, ?_, ?_⟩
  all_goals exact wrz (by omega) (by omega)
/-- The numbers of a round's two rows. -/
theorem side_wraps {j : Jig} {a b : Slat} (hj : JigIn j) (ha : SlatIn a) (hb : SlatIn b) {k : Int} (k0 : 0 ≤ k) (k1 : k ≤ 9) {s0 s1 : Int} (h0 : (sideS j a b k).lo = s0) (h1 : (sideS j a b k).hi = s1) :
    (IntKind.i64.wrap (k * a.pitch.lo) = k * a.pitch.lo ∧ IntKind.i64.wrap (a.shift.lo + k * a.pitch.lo) = a.shift.lo + k * a.pitch.lo ∧ IntKind.i64.wrap (a.shift.lo + k * a.pitch.lo + b.shift.lo) = a.shift.lo + k * a.pitch.lo + b.shift.lo ∧ IntKind.i64.wrap (k * b.pitch.lo) = k * b.pitch.lo ∧ IntKind.i64.wrap (a.shift.lo + k * a.pitch.lo + b.shift.lo + k * b.pitch.lo) = a.shift.lo + k * a.pitch.lo + b.shift.lo + k * b.pitch.lo ∧ IntKind.i64.wrap (2 * j.side.hi) = 2 * j.side.hi ∧ IntKind.i64.wrap (a.shift.lo + k * a.pitch.lo + b.shift.lo + k * b.pitch.lo - 2 * j.side.hi) = s0) ∧
    (IntKind.i64.wrap (k * a.pitch.hi) = k * a.pitch.hi ∧ IntKind.i64.wrap (a.shift.hi + k * a.pitch.hi) = a.shift.hi + k * a.pitch.hi ∧ IntKind.i64.wrap (a.shift.hi + k * a.pitch.hi + b.shift.hi) = a.shift.hi + k * a.pitch.hi + b.shift.hi ∧ IntKind.i64.wrap (k * b.pitch.hi) = k * b.pitch.hi ∧ IntKind.i64.wrap (a.shift.hi + k * a.pitch.hi + b.shift.hi + k * b.pitch.hi) = a.shift.hi + k * a.pitch.hi + b.shift.hi + k * b.pitch.hi ∧ IntKind.i64.wrap (2 * j.side.lo) = 2 * j.side.lo ∧ IntKind.i64.wrap (a.shift.hi + k * a.pitch.hi + b.shift.hi + k * b.pitch.hi - 2 * j.side.lo) = s1) ∧
    ((-3000 ≤ s0 ∧ s0 ≤ 3000) ∧ -3000 ≤ s1 ∧ s1 ≤ 3000) := by
  have hs := side_bd hj ha hb k0 k1
  have m1 := mul_in (i := k) (x := a.pitch.lo) (m := 50) k0 k1 ha.p0 (by have := ha.p1; have := ha.p2; omega) (by omega)
  have m2 := mul_in (i := k) (x := a.pitch.hi) (m := 50) k0 k1 (by have := ha.p0; have := ha.p1; omega) ha.p2 (by omega)
  have m3 := mul_in (i := k) (x := b.pitch.lo) (m := 50) k0 k1 hb.p0 (by have := hb.p1; have := hb.p2; omega) (by omega)
  have m4 := mul_in (i := k) (x := b.pitch.hi) (m := 50) k0 k1 (by have := hb.p0; have := hb.p1; omega) hb.p2 (by omega)
  unfold SpanBd at hs
  rw [h0, h1] at hs
  obtain ⟨jg0, jg1, jg2, jl0, jl1, jl2, js0, js1, js2, jh0, jh1, jh2, jp0, jp1, jn0, jn1⟩ := hj
  obtain ⟨at0, at1, at2, ad0, ad1, ad2, as0, as1, as2, ap0, ap1, ap2⟩ := ha
  obtain ⟨bt0, bt1, bt2, bd0, bd1, bd2, bs0, bs1, bs2, bp0, bp1, bp2⟩ := hb
  unfold sideS placeS at h0 h1
  dsimp only at h0 h1
  generalize k * a.pitch.lo = p1 at *
  generalize k * a.pitch.hi = p2 at *
  generalize k * b.pitch.lo = p3 at *
  generalize k * b.pitch.hi = p4 at *
  refine ⟨⟨?_, ?_, ?_, ?_, ?_, ?_, ?_⟩, ⟨?_, ?_, ?_, ?_, ?_, ?_, ?_⟩, ?_⟩
  all_goals first | exact wrz (by omega) (by omega) | (rw [wrz (by omega) (by omega)]; omega) | omega
/-- The numbers of the inner loop: u and v, and their squares. -/
theorem sq_wraps {s0 s1 g0 g1 u v lim : Int} (h1 : (-3000 ≤ s0 ∧ s0 ≤ 3000) ∧ -3000 ≤ s1 ∧ s1 ≤ 3000) (h2 : (-40000 ≤ g0 ∧ g0 ≤ 40000) ∧ -40000 ≤ g1 ∧ g1 ≤ 40000) (hu : max s1 (-s0) = u) (hv : max g1 (-g0) = v) (hl : 0 ≤ lim ∧ lim ≤ 1000) :
    IntKind.i64.wrap (u * u) = u * u ∧ IntKind.i64.wrap (v * v) = v * v ∧ IntKind.i64.wrap (u * u + v * v) = u * u + v * v ∧ IntKind.i64.wrap (4 * lim) = 4 * lim ∧ IntKind.i64.wrap (4 * lim * lim) = 4 * lim * lim := by
  have a1 := sq_le (x := u) (m := 3000) (by omega) (by omega)
  have a2 := sq_le (x := v) (m := 40000) (by omega) (by omega)
  have a3 := sq_le (x := lim) (m := 1000) (by omega) (by omega)
  have b1 := mul_self_nn u
  have b2 := mul_self_nn v
  have b3 := mul_self_nn lim
  have e2 : 4 * lim * lim = 4 * (lim * lim) := Int.mul_assoc _ _ _
  rw [e2]
  clear hu hv
  refine ⟨?_, ?_, ?_, ?_, ?_⟩
  all_goals exact wrz (by omega) (by omega)
/-- The numbers of the last rows. -/
theorem end_wraps {j : Jig} {a b : Slat} (hj : JigIn j) (ha : SlatIn a) (hb : SlatIn b) {l : Int} (hl : j.grooves - 1 = l) :
    IntKind.i64.wrap (j.grooves - 1) = l ∧
    (IntKind.i64.wrap (a.shift.hi - b.shift.lo) = a.shift.hi - b.shift.lo ∧ IntKind.i64.wrap (b.shift.hi - a.shift.lo) = b.shift.hi - a.shift.lo ∧ IntKind.i64.wrap (a.pitch.hi - b.pitch.lo) = a.pitch.hi - b.pitch.lo ∧ IntKind.i64.wrap (b.pitch.hi - a.pitch.lo) = b.pitch.hi - a.pitch.lo ∧ IntKind.i64.wrap (l * (a.pitch.hi - b.pitch.lo)) = l * (a.pitch.hi - b.pitch.lo) ∧ IntKind.i64.wrap (l * (b.pitch.hi - a.pitch.lo)) = l * (b.pitch.hi - a.pitch.lo) ∧ IntKind.i64.wrap (a.shift.hi - b.shift.lo + l * (a.pitch.hi - b.pitch.lo)) = a.shift.hi - b.shift.lo + l * (a.pitch.hi - b.pitch.lo) ∧ IntKind.i64.wrap (b.shift.hi - a.shift.lo + l * (b.pitch.hi - a.pitch.lo)) = b.shift.hi - a.shift.lo + l * (b.pitch.hi - a.pitch.lo) ∧
    IntKind.i64.wrap (a.depth.lo + b.depth.lo) = a.depth.lo + b.depth.lo ∧ IntKind.i64.wrap (a.depth.lo + b.depth.lo + j.glue.lo) = a.depth.lo + b.depth.lo + j.glue.lo ∧ IntKind.i64.wrap (a.depth.hi + b.depth.hi) = a.depth.hi + b.depth.hi ∧ IntKind.i64.wrap (a.depth.hi + b.depth.hi + j.glue.hi) = a.depth.hi + b.depth.hi + j.glue.hi) ∧
    (IntKind.i64.wrap (-j.play) = -j.play ∧ IntKind.i64.wrap (a.shift.lo - b.shift.hi) = a.shift.lo - b.shift.hi ∧ IntKind.i64.wrap (a.pitch.lo - b.pitch.hi) = a.pitch.lo - b.pitch.hi ∧ IntKind.i64.wrap (l * (a.pitch.lo - b.pitch.hi)) = l * (a.pitch.lo - b.pitch.hi) ∧ ∀ left right : Int, left = max (-j.play) (a.shift.lo - b.shift.hi) → right = min j.play (a.shift.hi - b.shift.lo) → IntKind.i64.wrap (left + l * (a.pitch.lo - b.pitch.hi)) = left + l * (a.pitch.lo - b.pitch.hi) ∧ IntKind.i64.wrap (right + l * (a.pitch.hi - b.pitch.lo)) = right + l * (a.pitch.hi - b.pitch.lo)) := by
  obtain ⟨jg0, jg1, jg2, jl0, jl1, jl2, js0, js1, js2, jh0, jh1, jh2, jp0, jp1, jn0, jn1⟩ := hj
  obtain ⟨at0, at1, at2, ad0, ad1, ad2, as0, as1, as2, ap0, ap1, ap2⟩ := ha
  obtain ⟨bt0, bt1, bt2, bd0, bd1, bd2, bs0, bs1, bs2, bp0, bp1, bp2⟩ := hb
  have m1 := mul_in (i := l) (x := a.pitch.hi - b.pitch.lo) (m := 100) (by omega) (by omega) (by omega) (by omega) (by omega)
  have m2 := mul_in (i := l) (x := b.pitch.hi - a.pitch.lo) (m := 100) (by omega) (by omega) (by omega) (by omega) (by omega)
  have m3 := mul_in (i := l) (x := a.pitch.lo - b.pitch.hi) (m := 100) (by omega) (by omega) (by omega) (by omega) (by omega)
  generalize l * (a.pitch.hi - b.pitch.lo) = q1 at *
  generalize l * (b.pitch.hi - a.pitch.lo) = q2 at *
  generalize l * (a.pitch.lo - b.pitch.hi) = q3 at *
  refine ⟨?_, ⟨?_, ?_, ?_, ?_, ?_, ?_, ?_, ?_, ?_, ?_, ?_, ?_⟩, ?_, ?_, ?_, ?_, ?_⟩
  · rw [wrz (by omega) (by omega)]; exact hl
  all_goals first | exact wrz (by omega) (by omega) | (rintro left right h1 h2; exact ⟨wrz (by omega) (by omega), wrz (by omega) (by omega)⟩)
theorem mul_turn (l x y : Int) : l * (y - x) = -(l * (x - y)) := by rw [← Int.mul_neg]; congr 1; omega
theorem always_iff {j : Jig} {a b : Slat} (hj : JigIn j) (ha : SlatIn a) (hb : SlatIn b) {l : Int} (hl : j.grooves - 1 = l) :
    alwaysB j a b = true ↔ (max (a.shift.hi - b.shift.lo) (b.shift.hi - a.shift.lo) ≤ j.play ∧ max (a.shift.hi - b.shift.lo + l * (a.pitch.hi - b.pitch.lo)) (b.shift.hi - a.shift.lo + l * (b.pitch.hi - a.pitch.lo)) ≤ j.play) ∧ j.lead.hi ≤ a.depth.lo + b.depth.lo + j.glue.lo := by
  obtain ⟨jg0, jg1, jg2, jl0, jl1, jl2, js0, js1, js2, jh0, jh1, jh2, jp0, jp1, jn0, jn1⟩ := hj
  obtain ⟨at0, at1, at2, ad0, ad1, ad2, as0, as1, as2, ap0, ap1, ap2⟩ := ha
  obtain ⟨bt0, bt1, bt2, bd0, bd1, bd2, bs0, bs1, bs2, bp0, bp1, bp2⟩ := hb
  rw [mul_turn l a.pitch.lo b.pitch.hi]
  unfold alwaysB insideB roomS roomB firstS playS lastS cutS stepS playS firstS
  simp only [Bool.and_eq_true, decide_eq_true_eq]
  rw [hl]
  generalize l * (a.pitch.hi - b.pitch.lo) = q1
  generalize l * (a.pitch.lo - b.pitch.hi) = q3
  omega
theorem perhaps_iff {j : Jig} {a b : Slat} (hj : JigIn j) (ha : SlatIn a) (hb : SlatIn b) {l left right : Int} (hl : j.grooves - 1 = l) (h1 : left = max (-j.play) (a.shift.lo - b.shift.hi)) (h2 : right = min j.play (a.shift.hi - b.shift.lo)) :
    perhapsB j a b = true ↔ ((left ≤ right ∧ left + l * (a.pitch.lo - b.pitch.hi) ≤ j.play) ∧ -j.play ≤ right + l * (a.pitch.hi - b.pitch.lo)) ∧ j.lead.lo ≤ a.depth.hi + b.depth.hi + j.glue.hi := by
  obtain ⟨jg0, jg1, jg2, jl0, jl1, jl2, js0, js1, js2, jh0, jh1, jh2, jp0, jp1, jn0, jn1⟩ := hj
  obtain ⟨at0, at1, at2, ad0, ad1, ad2, as0, as1, as2, ap0, ap1, ap2⟩ := ha
  obtain ⟨bt0, bt1, bt2, bd0, bd1, bd2, bs0, bs1, bs2, bp0, bp1, bp2⟩ := hb
  have m := Int.mul_le_mul_of_nonneg_left (show a.pitch.lo - b.pitch.hi ≤ a.pitch.hi - b.pitch.lo by omega) (show 0 ≤ l by omega)
  subst h1 h2
  unfold perhapsB meetsB roomS roomB lastS cutS stepS playS firstS
  simp only [Bool.and_eq_true, decide_eq_true_eq]
  rw [hl]
  generalize l * (a.pitch.hi - b.pitch.lo) = q1 at *
  generalize l * (a.pitch.lo - b.pitch.hi) = q3 at *
  omega
theorem gra_q {j : Jig} {a b : Slat} {x : List Int} {N : Nat} (hN : j.grooves = N) (h : graE j a b x = 0) (k : Nat) (hk : k < N) {s0 s1 g0 g1 : Int} (e0 : (sideS j a b k).lo = s0) (e1 : (sideS j a b k).hi = s1) (e2 : (heightS j a b).lo = g0) (e3 : (heightS j a b).hi = g1) :
    ∃ g : Int, (graL j a b x)[k]? = some g ∧ ∀ (u v : Int), max s1 (-s0) = u → max g1 (-g0) = v → ∀ (q : Nat) (hq : q < x.length), (u * u + v * v ≤ 4 * x[q] * x[q] ↔ (g ≠ -1 ∧ g ≤ (q : Int))) ∧ (0 ≤ x[q] ∧ x[q] ≤ 1000) := by
  obtain ⟨h1, h2⟩ := gra_yes hN h
  have hl : k < (gradesOf j a b x).length := by rw [← h1, h2]; exact hk
  refine ⟨gradeOf (leadOf j a b (k : Int)) x, ?_, ?_⟩
  · rw [h1, List.getElem?_eq_getElem hl, gra_at hl]
  · rintro u v rfl rfl q hq
    refine ⟨?_, gra_lims h _ (List.getElem_mem hq)⟩
    have := grade_iff (gra_rise h) (gra_lims h) (leadOf j a b (k : Int)) hq
    rw [show amountS (leadOf j a b (k : Int)).side = max s1 (-s0) by unfold amountS leadOf; dsimp only; rw [e0, e1, Int.max_comm], show amountS (leadOf j a b (k : Int)).height = max g1 (-g0) by unfold amountS leadOf; dsimp only; rw [e2, e3, Int.max_comm]] at this
    exact this
theorem always_perhaps {j : Jig} {a b : Slat} (hj : JigIn j) (ha : SlatIn a) (hb : SlatIn b) (h : alwaysB j a b = true) : perhapsB j a b = true := by
  rw [perhaps_iff hj ha hb rfl rfl rfl]
  rw [always_iff hj ha hb rfl, mul_turn (j.grooves - 1) a.pitch.lo b.pitch.hi] at h
  have hl0 : 0 ≤ j.grooves - 1 := by have := hj.n0; omega
  have m1 := Int.mul_le_mul_of_nonneg_left ha.p1 hl0
  have m2 := Int.mul_le_mul_of_nonneg_left hb.p1 hl0
  have e1 := Int.mul_sub (j.grooves - 1) a.pitch.lo b.pitch.hi
  have e2 := Int.mul_sub (j.grooves - 1) a.pitch.hi b.pitch.lo
  obtain ⟨jg0, jg1, jg2, jl0, jl1, jl2, js0, js1, js2, jh0, jh1, jh2, jp0, jp1, jn0, jn1⟩ := hj
  obtain ⟨at0, at1, at2, ad0, ad1, ad2, as0, as1, as2, ap0, ap1, ap2⟩ := ha
  obtain ⟨bt0, bt1, bt2, bd0, bd1, bd2, bs0, bs1, bs2, bp0, bp1, bp2⟩ := hb
  rw [e1, e2] at h ⊢
  clear e1 e2
  generalize (j.grooves - 1) * a.pitch.lo = x1 at *
  generalize (j.grooves - 1) * a.pitch.hi = x2 at *
  generalize (j.grooves - 1) * b.pitch.lo = x3 at *
  generalize (j.grooves - 1) * b.pitch.hi = x4 at *
  omega
theorem side_bds {j : Jig} {a b : Slat} (hj : JigIn j) (ha : SlatIn a) (hb : SlatIn b) {g0 g1 : Int} (e2 : (heightS j a b).lo = g0) (e3 : (heightS j a b).hi = g1) : (-40000 ≤ g0 ∧ g0 ≤ 40000) ∧ -40000 ≤ g1 ∧ g1 ≤ 40000 := by
  have h := height_bd hj ha hb
  unfold SpanBd at h
  rw [e2, e3] at h
  omega
end Go.Proofs.Ytaafmfhpoimjhaa
