/- The document's own checks of jigs and slats. -/
import Derived.Test.YtbfamblbnfkpgaaSm
import Derived.Test.YtbfamblbnfkpgaaYm
namespace Go.Proofs.Ytbfamblbnfkpgaa
open Go.RowKit Go.Shelf

set_option maxHeartbeats 400000 in
theorem rin5_any (n a b : Int) (w : World) : Calls Try.prog 54 #[.int .i64 n, .int .i64 a, .int .i64 b] w fun e w' => e = .returned (.bool (fromB n a b)) ∧ w = w' := by
  go_enter Try.func54, Try.ntmps54
  go_wp2
  all_goals go_ret
  all_goals exact ⟨ret_bool (by rw [Bool.eq_iff_iff]; simp only [fromB, decide_eq_true_eq, Bool.false_eq_true, false_iff]; omega), rfl⟩
set_option maxHeartbeats 400000 in
theorem rspan5_any (a b c d : Int) (w : World) : Calls Try.prog 53 #[.agg #[.int .i64 a, .int .i64 b], .int .i64 c, .int .i64 d] w (Ret (.bool (withinB ⟨a, b⟩ c d)) w) := by
  go_enter Try.func53, Try.ntmps53
  go_wp2
  all_goals go_ret
  all_goals exact ⟨ret_bool (by rw [Bool.eq_iff_iff]; simp only [withinB, decide_eq_true_eq, Bool.false_eq_true, false_iff]; omega), (Below.refl _ _).alloc (Nat.le_refl _) _⟩
set_option maxRecDepth 100000 in
set_option maxHeartbeats 2000000 in
theorem rjig5_any (j : Jig) (w : World) : Calls Try.prog 24 #[.agg #[.int .i64 j.glue.lo, .int .i64 j.glue.hi, .int .i64 j.lead.lo, .int .i64 j.lead.hi, .int .i64 j.side.lo, .int .i64 j.side.hi, .int .i64 j.height.lo, .int .i64 j.height.hi, .int .i64 j.play, .int .i64 j.grooves]] w (Ret (.bool (jigOk j)) w) := by
  have HB := Lib.hid (show Below w.heap.size w (w.alloc (.cells #[.int .i64 j.glue.lo, .int .i64 j.glue.hi, .int .i64 j.lead.lo, .int .i64 j.lead.hi, .int .i64 j.side.lo, .int .i64 j.side.hi, .int .i64 j.height.lo, .int .i64 j.height.hi, .int .i64 j.play, .int .i64 j.grooves] 25)) from (Below.refl _ _).alloc (Nat.le_refl _) _)
  have HK := Lib.hid (Blk.new w 25 #[.int .i64 j.glue.lo, .int .i64 j.glue.hi, .int .i64 j.lead.lo, .int .i64 j.lead.hi, .int .i64 j.side.lo, .int .i64 j.side.hi, .int .i64 j.height.lo, .int .i64 j.height.hi, .int .i64 j.play, .int .i64 j.grooves])
  have HD : Hid (jigOk j = (withinB ⟨j.glue.lo, j.glue.hi⟩ 0 500 && withinB ⟨j.lead.lo, j.lead.hi⟩ 1 5000 && withinB ⟨j.side.lo, j.side.hi⟩ (-500) 500 && withinB ⟨j.height.lo, j.height.hi⟩ (-500) 500 && fromB j.play 0 500 && fromB j.grooves 1 10)) := Lib.hid rfl
  go_enter Try.func24, Try.ntmps24
  go_wp2_with fail
  generalize World.alloc w _ = V at HB HK ⊢
  refine (rspan5_any _ _ _ _ _).mono ?_
  rintro e W1 ⟨he, hb1⟩
  replace HK := Lib.hid (HK.out.below hb1 HK.out.lt)
  replace HB := Lib.hid (HB.out.trans (hb1.mono HB.out.size))
  clear hb1
  obtain ⟨z1, hz1⟩ : ∃ z, withinB ⟨j.glue.lo, j.glue.hi⟩ 0 500 = z := ⟨_, rfl⟩
  rw [hz1] at he
  have H0 := Lib.hid hz1
  clear hz1
  subst he
  cases z1 with
  | false =>
    go_wp2_with fail
    go_ret
    exact ⟨ret_bool (Eq.symm (by rw [HD.out, H0.out]; simp)), HB.out⟩
  | true =>
    skip
    have x2 := HK.out.cell 2
    have x3 := HK.out.cell 3
    go_wp2_with fail
    clear x2 x3
    refine (rspan5_any _ _ _ _ _).mono ?_
    rintro e W1 ⟨he, hb1⟩
    replace HK := Lib.hid (HK.out.below hb1 HK.out.lt)
    replace HB := Lib.hid (HB.out.trans (hb1.mono HB.out.size))
    clear hb1
    obtain ⟨z1, hz1⟩ : ∃ z, withinB ⟨j.lead.lo, j.lead.hi⟩ 1 5000 = z := ⟨_, rfl⟩
    rw [hz1] at he
    have H1 := Lib.hid hz1
    clear hz1
    subst he
    cases z1 with
    | false =>
      go_wp2_with fail
      go_ret
      exact ⟨ret_bool (Eq.symm (by rw [HD.out, H0.out, H1.out]; simp)), HB.out⟩
    | true =>
      skip
      have x4 := HK.out.cell 4
      have x5 := HK.out.cell 5
      go_wp2_with fail
      clear x4 x5
      refine (rspan5_any _ _ _ _ _).mono ?_
      rintro e W1 ⟨he, hb1⟩
      replace HK := Lib.hid (HK.out.below hb1 HK.out.lt)
      replace HB := Lib.hid (HB.out.trans (hb1.mono HB.out.size))
      clear hb1
      obtain ⟨z1, hz1⟩ : ∃ z, withinB ⟨j.side.lo, j.side.hi⟩ (-500) 500 = z := ⟨_, rfl⟩
      rw [hz1] at he
      have H2 := Lib.hid hz1
      clear hz1
      subst he
      cases z1 with
      | false =>
        go_wp2_with fail
        go_ret
        exact ⟨ret_bool (Eq.symm (by rw [HD.out, H0.out, H1.out, H2.out]; simp)), HB.out⟩
      | true =>
        skip
        have x6 := HK.out.cell 6
        have x7 := HK.out.cell 7
        go_wp2_with fail
        clear x6 x7
        refine (rspan5_any _ _ _ _ _).mono ?_
        rintro e W1 ⟨he, hb1⟩
        replace HK := Lib.hid (HK.out.below hb1 HK.out.lt)
        replace HB := Lib.hid (HB.out.trans (hb1.mono HB.out.size))
        clear hb1
        obtain ⟨z1, hz1⟩ : ∃ z, withinB ⟨j.height.lo, j.height.hi⟩ (-500) 500 = z := ⟨_, rfl⟩
        rw [hz1] at he
        have H3 := Lib.hid hz1
        clear hz1
        subst he
        cases z1 with
        | false =>
          go_wp2_with fail
          go_ret
          exact ⟨ret_bool (Eq.symm (by rw [HD.out, H0.out, H1.out, H2.out, H3.out]; simp)), HB.out⟩
        | true =>
          skip
          have x8 := HK.out.cell 8
          go_wp2_with fail
          clear x8
          refine (rin5_any _ _ _ _).mono ?_
          rintro e W1 ⟨he, rfl⟩
          skip
          obtain ⟨z1, hz1⟩ : ∃ z, fromB j.play 0 500 = z := ⟨_, rfl⟩
          rw [hz1] at he
          have H4 := Lib.hid hz1
          clear hz1
          subst he
          cases z1 with
          | false =>
            go_wp2_with fail
            go_ret
            exact ⟨ret_bool (Eq.symm (by rw [HD.out, H0.out, H1.out, H2.out, H3.out, H4.out]; simp)), HB.out⟩
          | true =>
            skip
            have x9 := HK.out.cell 9
            go_wp2_with fail
            clear x9
            refine (rin5_any _ _ _ _).mono ?_
            rintro e W1 ⟨rfl, rfl⟩
            go_wp2_with fail
            go_ret
            exact ⟨ret_bool (by rw [HD.out, H0.out, H1.out, H2.out, H3.out, H4.out]; simp), HB.out⟩
set_option maxRecDepth 100000 in
set_option maxHeartbeats 2000000 in
theorem rslat5_any (s : Slat) (w : World) : Calls Try.prog 25 #[.agg #[.int .i64 s.thick.lo, .int .i64 s.thick.hi, .int .i64 s.depth.lo, .int .i64 s.depth.hi, .int .i64 s.shift.lo, .int .i64 s.shift.hi, .int .i64 s.pitch.lo, .int .i64 s.pitch.hi]] w (Ret (.bool (slatOk s)) w) := by
  have HB := Lib.hid (show Below w.heap.size w (w.alloc (.cells #[.int .i64 s.thick.lo, .int .i64 s.thick.hi, .int .i64 s.depth.lo, .int .i64 s.depth.hi, .int .i64 s.shift.lo, .int .i64 s.shift.hi, .int .i64 s.pitch.lo, .int .i64 s.pitch.hi] 37)) from (Below.refl _ _).alloc (Nat.le_refl _) _)
  have HK := Lib.hid (Blk.new w 37 #[.int .i64 s.thick.lo, .int .i64 s.thick.hi, .int .i64 s.depth.lo, .int .i64 s.depth.hi, .int .i64 s.shift.lo, .int .i64 s.shift.hi, .int .i64 s.pitch.lo, .int .i64 s.pitch.hi])
  have HD : Hid (slatOk s = (withinB ⟨s.thick.lo, s.thick.hi⟩ 1 10000 && withinB ⟨s.depth.lo, s.depth.hi⟩ 0 s.thick.lo && withinB ⟨s.shift.lo, s.shift.hi⟩ (-500) 500 && withinB ⟨s.pitch.lo, s.pitch.hi⟩ (-50) 50)) := Lib.hid rfl
  go_enter Try.func25, Try.ntmps25
  go_wp2_with fail
  generalize World.alloc w _ = V at HB HK ⊢
  refine (rspan5_any _ _ _ _ _).mono ?_
  rintro e W1 ⟨he, hb1⟩
  replace HK := Lib.hid (HK.out.below hb1 HK.out.lt)
  replace HB := Lib.hid (HB.out.trans (hb1.mono HB.out.size))
  clear hb1
  obtain ⟨z1, hz1⟩ : ∃ z, withinB ⟨s.thick.lo, s.thick.hi⟩ 1 10000 = z := ⟨_, rfl⟩
  rw [hz1] at he
  have H0 := Lib.hid hz1
  clear hz1
  subst he
  cases z1 with
  | false =>
    go_wp2_with fail
    go_ret
    exact ⟨ret_bool (Eq.symm (by rw [HD.out, H0.out]; simp)), HB.out⟩
  | true =>
    skip
    have x0 := HK.out.cell 0
    have x2 := HK.out.cell 2
    have x3 := HK.out.cell 3
    go_wp2_with fail
    clear x0 x2 x3
    refine (rspan5_any _ _ _ _ _).mono ?_
    rintro e W1 ⟨he, hb1⟩
    replace HK := Lib.hid (HK.out.below hb1 HK.out.lt)
    replace HB := Lib.hid (HB.out.trans (hb1.mono HB.out.size))
    clear hb1
    obtain ⟨z1, hz1⟩ : ∃ z, withinB ⟨s.depth.lo, s.depth.hi⟩ 0 s.thick.lo = z := ⟨_, rfl⟩
    rw [hz1] at he
    have H1 := Lib.hid hz1
    clear hz1
    subst he
    cases z1 with
    | false =>
      go_wp2_with fail
      go_ret
      exact ⟨ret_bool (Eq.symm (by rw [HD.out, H0.out, H1.out]; simp)), HB.out⟩
    | true =>
      skip
      have x4 := HK.out.cell 4
      have x5 := HK.out.cell 5
      go_wp2_with fail
      clear x4 x5
      refine (rspan5_any _ _ _ _ _).mono ?_
      rintro e W1 ⟨he, hb1⟩
      replace HK := Lib.hid (HK.out.below hb1 HK.out.lt)
      replace HB := Lib.hid (HB.out.trans (hb1.mono HB.out.size))
      clear hb1
      obtain ⟨z1, hz1⟩ : ∃ z, withinB ⟨s.shift.lo, s.shift.hi⟩ (-500) 500 = z := ⟨_, rfl⟩
      rw [hz1] at he
      have H2 := Lib.hid hz1
      clear hz1
      subst he
      cases z1 with
      | false =>
        go_wp2_with fail
        go_ret
        exact ⟨ret_bool (Eq.symm (by rw [HD.out, H0.out, H1.out, H2.out]; simp)), HB.out⟩
      | true =>
        skip
        have x6 := HK.out.cell 6
        have x7 := HK.out.cell 7
        go_wp2_with fail
        clear x6 x7
        refine (rspan5_any _ _ _ _ _).mono ?_
        rintro e W1 ⟨rfl, hb1⟩
        replace HB := Lib.hid (HB.out.trans (hb1.mono HB.out.size))
        clear hb1
        go_wp2_with fail
        go_ret
        exact ⟨ret_bool (by rw [HD.out, H0.out, H1.out, H2.out]; simp), HB.out⟩
end Go.Proofs.Ytbfamblbnfkpgaa
namespace Go.Proofs.Ytbfamblbnfkpgaa

def ltS (s t : Setg) : Prop := amtS s < amtS t ∨ (amtS s = amtS t ∧ (s.side < t.side ∨ (s.side = t.side ∧ s.height < t.height)))
theorem cmpJ_lt {a b : Int} (h : a < b) : cmpJ a b = -1 := if_pos h
theorem cmpJ_gt {a b : Int} (h : b < a) : cmpJ a b = 1 := by unfold cmpJ; rw [if_neg (by omega), if_pos h]
theorem cmpJ_eq {a b : Int} (h : a = b) : cmpJ a b = 0 := by unfold cmpJ; rw [if_neg (by omega), if_neg (by omega)]
theorem befS_iff (s t : Setg) : befB s t = true ↔ ltS s t := by
  unfold befB ltS
  rw [decide_eq_true_eq]
  rcases Int.lt_trichotomy (amtS s) (amtS t) with h | h | h
  · rw [cmpJ_lt h]
    exact ⟨fun _ => .inl h, fun _ => by show (-1 : Int) < 0; omega⟩
  · rw [cmpJ_eq h]
    show orL [cmpJ s.side t.side, cmpJ s.height t.height] < 0 ↔ _
    rcases Int.lt_trichotomy s.side t.side with h2 | h2 | h2
    · rw [cmpJ_lt h2]
      exact ⟨fun _ => .inr ⟨h, .inl h2⟩, fun _ => by show (-1 : Int) < 0; omega⟩
    · rw [cmpJ_eq h2]
      show orL [cmpJ s.height t.height] < 0 ↔ _
      rcases Int.lt_trichotomy s.height t.height with h3 | h3 | h3
      · rw [cmpJ_lt h3]
        exact ⟨fun _ => .inr ⟨h, .inr ⟨h2, h3⟩⟩, fun _ => by show (-1 : Int) < 0; omega⟩
      · rw [cmpJ_eq h3]
        exact ⟨fun h9 => by have h8 : (0 : Int) < 0 := h9; omega, fun h9 => by omega⟩
      · rw [cmpJ_gt h3]
        exact ⟨fun h9 => by have h8 : (1 : Int) < 0 := h9; omega, fun h9 => by omega⟩
    · rw [cmpJ_gt h2]
      exact ⟨fun h9 => by have h8 : (1 : Int) < 0 := h9; omega, fun h9 => by omega⟩
  · rw [cmpJ_gt h]
    exact ⟨fun h9 => by have h8 : (1 : Int) < 0 := h9; omega, fun h9 => by omega⟩
theorem ltS_irr (a : Setg) : ¬ ltS a a := by unfold ltS; omega
theorem leS_tr {a b c : Setg} (h1 : ¬ ltS b a) (h2 : ¬ ltS c b) : ¬ ltS c a := by unfold ltS at *; omega
theorem ltS_le {a b : Setg} (h : ltS a b) : ¬ ltS b a := by unfold ltS at *; omega
abbrev at_ (l : List Setg) (k : Nat) : Setg := l.getD k zS
theorem swap_at {l : List Setg} {a b k : Nat} (ha : a < l.length) (hb : b < l.length) : at_ (swapS l a b) k = if k = b then at_ l a else if k = a then at_ l b else at_ l k := by
  unfold at_ swapS
  by_cases h1 : k = b
  · subst h1
    rw [if_pos rfl, getD_set_eq (by simpa using hb)]
  · rw [if_neg h1, getD_set_ne (by omega)]
    by_cases h2 : k = a
    · subst h2
      rw [if_pos rfl, getD_set_eq ha]
    · rw [if_neg h2, getD_set_ne (by omega)]
theorem mem_at {l : List Setg} {x : Setg} : x ∈ l ↔ ∃ k, k < l.length ∧ at_ l k = x := by
  rw [List.mem_iff_getElem]
  constructor
  · rintro ⟨k, hk, rfl⟩
    exact ⟨k, hk, by simp [at_, List.getD_eq_getElem?_getD, hk]⟩
  · rintro ⟨k, hk, rfl⟩
    exact ⟨k, hk, by simp [at_, List.getD_eq_getElem?_getD, hk]⟩
theorem swap_mem {l : List Setg} {a b : Nat} (ha : a < l.length) (hb : b < l.length) (x : Setg) : x ∈ swapS l a b ↔ x ∈ l := by
  rw [mem_at, mem_at]
  constructor
  · rintro ⟨k, hk, rfl⟩
    rw [swapS_len] at hk
    rw [swap_at ha hb]
    by_cases h1 : k = b
    · exact ⟨a, ha, by rw [if_pos h1]⟩
    · by_cases h2 : k = a
      · exact ⟨b, hb, by rw [if_neg h1, if_pos h2]⟩
      · exact ⟨k, hk, by rw [if_neg h1, if_neg h2]⟩
  · rintro ⟨k, hk, rfl⟩
    by_cases h1 : k = a
    · exact ⟨b, by rw [swapS_len]; exact hb, by rw [swap_at ha hb, if_pos rfl, h1]⟩
    · by_cases h2 : k = b
      · subst h2
        by_cases h3 : a = k
        · subst h3; exact absurd rfl h1
        · exact ⟨a, by rw [swapS_len]; exact ha, by rw [swap_at ha hb, if_neg h3, if_pos rfl]⟩
      · exact ⟨k, by rw [swapS_len]; exact hk, by rw [swap_at ha hb, if_neg h2, if_neg h1]⟩
/-- No setting is before the one above it. -/
def HpO (l : List Setg) : Prop := ∀ k, 0 < k → k < l.length → ¬ ltS (at_ l k) (at_ l ((k - 1) / 2))
theorem hp_min {l : List Setg} (h : HpO l) : ∀ k, k < l.length → ¬ ltS (at_ l k) (at_ l 0) := by
  intro k
  induction k using Nat.strongRecOn with
  | _ k ih =>
    intro hk
    by_cases h0 : k = 0
    · subst h0; exact ltS_irr _
    · exact leS_tr (ih ((k - 1) / 2) (by omega) (by omega)) (h k (by omega) hk)
theorem up_hp : ∀ (f : Nat) (l : List Setg) (i : Nat), i < l.length → i ≤ f → (∀ k, k ≠ i → 0 < k → k < l.length → ¬ ltS (at_ l k) (at_ l ((k - 1) / 2))) → (∀ k, (k - 1) / 2 = i → 0 < k → 0 < i → k < l.length → ¬ ltS (at_ l k) (at_ l ((i - 1) / 2))) → HpO (upH f l i)
  | 0, l, i, hi, hf, h1, _ => by
    obtain rfl : i = 0 := by omega
    intro k hk hkl
    exact h1 k (by omega) hk hkl
  | f + 1, l, i, hi, hf, h1, h2 => by
    unfold upH
    by_cases h0 : i = 0
    · rw [if_pos h0]
      subst h0
      intro k hk hkl
      exact h1 k (by omega) hk hkl
    · rw [if_neg h0]
      have hp : (i - 1) / 2 < l.length := by omega
      by_cases hb : befB (l.getD i zS) (l.getD ((i - 1) / 2) zS) = true
      · rw [if_pos hb]
        have hlt : ltS (at_ l i) (at_ l ((i - 1) / 2)) := (befS_iff _ _).1 hb
        refine up_hp f _ _ (by rw [swapS_len]; exact hp) (by omega) (fun k hk hk0 hkl => ?_) (fun k hk hk0 hi0 hkl => ?_)
        · rw [swapS_len] at hkl
          rw [swap_at hp hi, swap_at hp hi]
          by_cases e1 : k = i
          · subst e1
            rw [if_pos rfl, if_neg (by omega), if_pos rfl]
            exact ltS_le hlt
          · rw [if_neg e1, if_neg hk]
            by_cases e2 : (k - 1) / 2 = i
            · rw [if_pos e2]
              exact h2 k e2 hk0 (by omega) hkl
            · rw [if_neg e2]
              by_cases e3 : (k - 1) / 2 = (i - 1) / 2
              · rw [if_pos e3]
                have := h1 k e1 hk0 hkl
                rw [e3] at this
                exact leS_tr (ltS_le hlt) this
              · rw [if_neg e3]
                exact h1 k e1 hk0 hkl
        · rw [swapS_len] at hkl
          rw [swap_at hp hi, swap_at hp hi, if_neg (by omega : ¬ ((i - 1) / 2 - 1) / 2 = i), if_neg (by omega : ¬ ((i - 1) / 2 - 1) / 2 = (i - 1) / 2)]
          have hg := h1 ((i - 1) / 2) (by omega) hi0 hp
          by_cases e1 : k = i
          · rw [if_pos e1]; exact hg
          · rw [if_neg e1, if_neg (by omega)]
            have := h1 k e1 hk0 hkl
            rw [hk] at this
            exact leS_tr hg this
      · rw [if_neg hb]
        intro k hk hkl
        by_cases e : k = i
        · subst e
          exact fun h => hb ((befS_iff _ _).2 h)
        · exact h1 k e hk hkl
theorem at_app {l : List Setg} {x : Setg} {k : Nat} : at_ (l ++ [x]) k = if k < l.length then at_ l k else if k = l.length then x else zS := by
  unfold at_
  simp only [List.getD_eq_getElem?_getD]
  by_cases h : k < l.length
  · rw [if_pos h, List.getElem?_append_left h]
  · rw [if_neg h, List.getElem?_append_right (by omega)]
    by_cases e : k = l.length
    · rw [if_pos e]; subst e; simp
    · rw [if_neg e]
      have : k - l.length ≠ 0 := by omega
      obtain ⟨m, hm⟩ := Nat.exists_eq_succ_of_ne_zero this
      rw [hm]; simp
theorem put_hp {l : List Setg} {x : Setg} (h : HpO l) : HpO (putH l x) := by
  unfold putH
  refine up_hp _ _ _ (by simp) (Nat.le_refl _) (fun k hk hk0 hkl => ?_) (fun k hk hk0 hi0 hkl => ?_)
  · rw [List.length_append, List.length_singleton] at hkl
    rw [at_app, at_app, if_pos (by omega), if_pos (by omega)]
    exact h k hk0 (by omega)
  · rw [List.length_append, List.length_singleton] at hkl
    omega
theorem up_mem : ∀ (f : Nat) (l : List Setg) (i : Nat), i < l.length → ∀ x, x ∈ upH f l i ↔ x ∈ l
  | 0, _, _, _, _ => Iff.rfl
  | f + 1, l, i, hi, x => by
    unfold upH
    split
    · exact Iff.rfl
    · split
      · rw [up_mem f _ _ (by rw [swapS_len]; omega) x, swap_mem (by omega) hi]
      · exact Iff.rfl
theorem put_mem {l : List Setg} {x y : Setg} : y ∈ putH l x ↔ y ∈ l ∨ y = x := by
  unfold putH
  rw [up_mem _ _ _ (by simp)]
  simp
theorem putAll_hp : ∀ (l h : List Setg), HpO h → HpO (putAll h l)
  | [], _, hh => hh
  | x :: l, h, hh => putAll_hp l (putH h x) (put_hp hh)
theorem putAll_mem : ∀ (l h : List Setg) (y : Setg), y ∈ putAll h l ↔ y ∈ h ∨ y ∈ l
  | [], h, y => by simp [putAll]
  | x :: l, h, y => by
    show y ∈ putAll (putH h x) l ↔ _
    rw [putAll_mem l, put_mem, List.mem_cons]
    constructor
    · rintro ((h | h) | h)
      · exact .inl h
      · exact .inr (.inl h)
      · exact .inr (.inr h)
    · rintro (h | h | h)
      · exact .inl (.inl h)
      · exact .inl (.inr h)
      · exact .inr h
theorem next_min {l : List Setg} {i : Nat} (_h : 2 * i + 1 < l.length) : ∀ k, (k - 1) / 2 = i → 0 < k → k < l.length → ¬ ltS (at_ l k) (at_ l (nextH l i)) := by
  intro k hk hk0 hkl
  have hx : k = 2 * i + 1 ∨ k = 2 * i + 2 := by omega
  unfold nextH
  by_cases hc : 2 * i + 2 < l.length ∧ befB (l.getD (2 * i + 2) zS) (l.getD (2 * i + 1) zS) = true
  · rw [if_pos hc]
    rcases hx with rfl | rfl
    · exact ltS_le ((befS_iff _ _).1 hc.2)
    · exact ltS_irr _
  · rw [if_neg hc]
    rcases hx with rfl | rfl
    · exact ltS_irr _
    · exact fun h9 => hc ⟨hkl, (befS_iff _ _).2 h9⟩
theorem next_of {l : List Setg} {i : Nat} (_h : 2 * i + 1 < l.length) : (nextH l i - 1) / 2 = i := by
  unfold nextH
  split <;> omega
theorem sink_hp : ∀ (f : Nat) (l : List Setg) (i : Nat), l.length ≤ i + f → (∀ k, (k - 1) / 2 ≠ i → 0 < k → k < l.length → ¬ ltS (at_ l k) (at_ l ((k - 1) / 2))) → (∀ k, (k - 1) / 2 = i → 0 < k → 0 < i → k < l.length → ¬ ltS (at_ l k) (at_ l ((i - 1) / 2))) → HpO (sinkH f l i)
  | 0, l, i, hf, h1, _ => by
    intro k hk hkl
    have hkl' : k < l.length := hkl
    exact h1 k (by omega) hk hkl
  | f + 1, l, i, hf, h1, h2 => by
    unfold sinkH
    by_cases hc : 2 * i + 1 < l.length
    · rw [if_pos hc]
      have hn := next_le hc
      have hno := next_of hc
      have hi : i < l.length := by omega
      by_cases hb : befB (l.getD (nextH l i) zS) (l.getD i zS) = true
      · rw [if_pos hb]
        have hlt : ltS (at_ l (nextH l i)) (at_ l i) := (befS_iff _ _).1 hb
        have hmin := next_min hc
        generalize nextH l i = n at *
        refine sink_hp f _ _ (by rw [swapS_len]; omega) (fun k hk hk0 hkl => ?_) (fun k hk hk0 hn0 hkl => ?_)
        · rw [swapS_len] at hkl
          rw [swap_at hi hn.2, swap_at hi hn.2, if_neg hk]
          by_cases e1 : k = n
          · subst e1
            rw [if_pos rfl, hno, if_pos rfl]
            exact ltS_le hlt
          · rw [if_neg e1]
            by_cases e2 : (k - 1) / 2 = i
            · rw [if_pos e2, if_neg (by omega)]
              exact hmin k e2 hk0 hkl
            · rw [if_neg e2]
              by_cases e3 : k = i
              · subst e3
                rw [if_pos rfl]
                exact h2 n hno (by omega) hk0 hn.2
              · rw [if_neg e3]
                exact h1 k e2 hk0 hkl
        · rw [swapS_len] at hkl
          rw [swap_at hi hn.2, swap_at hi hn.2, hno, if_neg (by omega), if_neg (by omega), if_neg (by omega), if_pos rfl]
          have := h1 k (by omega) hk0 hkl
          rw [hk] at this
          exact this
      · rw [if_neg hb]
        intro k hk hkl
        by_cases e : (k - 1) / 2 = i
        · rw [e]
          exact leS_tr (fun h => hb ((befS_iff _ _).2 h)) (next_min hc k e hk hkl)
        · exact h1 k e hk hkl
    · rw [if_neg hc]
      intro k hk hkl
      exact h1 k (by omega) hk hkl
theorem sink_mem : ∀ (f : Nat) (l : List Setg) (i : Nat), ∀ x, x ∈ sinkH f l i ↔ x ∈ l
  | 0, _, _, _ => Iff.rfl
  | f + 1, l, i, x => by
    unfold sinkH
    split
    · rename_i h
      split
      · rw [sink_mem f _ _ x, swap_mem (by omega) (next_le h).2]
      · exact Iff.rfl
    · exact Iff.rfl
theorem at_cut {l : List Setg} {x : Setg} {k : Nat} (hk : k < l.length - 1) : at_ ((l.set 0 x).take (l.length - 1)) k = if k = 0 then x else at_ l k := by
  unfold at_
  simp only [List.getD_eq_getElem?_getD]
  rw [List.getElem?_take_of_lt hk]
  by_cases e : k = 0
  · subst e
    rw [if_pos rfl, List.getElem?_set_self (by omega)]; rfl
  · rw [if_neg e, List.getElem?_set_ne (by omega)]
theorem left_hp {l : List Setg} (h : HpO l) : HpO (leftH l) := by
  unfold leftH
  have hl : ((l.set 0 (l.getD (l.length - 1) zS)).take (l.length - 1)).length = l.length - 1 := by simp
  refine sink_hp _ _ _ (by omega) (fun k hk hk0 hkl => ?_) (fun k hk hk0 hi0 hkl => absurd hi0 (Nat.lt_irrefl 0))
  rw [hl] at hkl
  rw [at_cut hkl, at_cut (by omega), if_neg (by omega), if_neg hk]
  exact h k hk0 (by omega)
theorem left_mem {l : List Setg} (hne : l ≠ []) (x : Setg) : (x ∈ leftH l → x ∈ l) ∧ (x ∈ l → x = at_ l 0 ∨ x ∈ leftH l) := by
  have hp := List.length_pos_iff.2 hne
  have hl : ((l.set 0 (l.getD (l.length - 1) zS)).take (l.length - 1)).length = l.length - 1 := by simp
  unfold leftH
  rw [sink_mem, mem_at, mem_at, hl]
  constructor
  · rintro ⟨k, hk, rfl⟩
    rw [at_cut hk]
    split
    · exact ⟨l.length - 1, by omega, rfl⟩
    · exact ⟨k, by omega, rfl⟩
  · rintro ⟨k, hk, rfl⟩
    by_cases e : k = 0
    · subst e; exact .inl rfl
    · by_cases e2 : k = l.length - 1
      · subst e2
        exact .inr ⟨0, by omega, by rw [at_cut (by omega), if_pos rfl]⟩
      · exact .inr ⟨k, by omega, by rw [at_cut (by omega), if_neg e]⟩
theorem first_min {l : List Setg} (h : HpO l) (hne : l ≠ []) : (∀ x ∈ leftH l, ¬ ltS x (at_ l 0)) ∧ at_ l 0 ∈ l := by
  have hp := List.length_pos_iff.2 hne
  refine ⟨fun x hx => ?_, mem_at.2 ⟨0, hp, rfl⟩⟩
  obtain ⟨k, hk, rfl⟩ := mem_at.1 ((left_mem hne x).1 hx)
  exact hp_min h k hk
/-! ### From which setting another one comes -/
def btw (a n : Int) : Prop := (0 ≤ a ∧ a ≤ n) ∨ (n ≤ a ∧ a ≤ 0)
def Anc (a x : Setg) : Prop := (a.height = 0 ∧ btw a.side x.side) ∨ (a.side = x.side ∧ btw a.height x.height)
theorem anc_zero (x : Setg) : Anc zS x := .inl ⟨rfl, by unfold btw zS; dsimp only; omega⟩
theorem amt_cases (s : Setg) : (amtS s = (if 0 ≤ s.side then s.side else -s.side) + (if 0 ≤ s.height then s.height else -s.height)) := by
  unfold amtS
  simp only [Int.max_def]
  split <;> split <;> split <;> split <;> omega
theorem anc_le {a x : Setg} (h : Anc a x) : ¬ ltS x a := by
  obtain ⟨a1, a2⟩ := a
  obtain ⟨x1, x2⟩ := x
  unfold Anc btw at h
  unfold ltS
  rw [amt_cases, amt_cases]
  dsimp only at *
  split <;> split <;> split <;> split <;> omega
theorem mem_out {n x : Int} : x ∈ outL n ↔ (-40 < n ∧ n ≤ 0 ∧ x = n - 1) ∨ (0 ≤ n ∧ n < 40 ∧ x = n + 1) := by
  unfold outL
  rw [List.mem_append]
  by_cases h1 : -40 < n ∧ n ≤ 0
  · by_cases h2 : 0 ≤ n ∧ n < 40
    · rw [if_pos h1, if_pos h2]; simp; omega
    · rw [if_pos h1, if_neg h2]; simp; omega
  · by_cases h2 : 0 ≤ n ∧ n < 40
    · rw [if_neg h1, if_pos h2]; simp; omega
    · rw [if_neg h1, if_neg h2]; simp; omega
theorem mem_fur {s c : Setg} : c ∈ furL s ↔ (s.height = 0 ∧ c.side ∈ outL s.side ∧ c.height = 0) ∨ (c.side = s.side ∧ c.height ∈ outL s.height) := by
  unfold furL
  rw [List.mem_append]
  by_cases h : s.height = 0
  · rw [if_pos h]
    simp only [List.mem_map]
    constructor
    · rintro (⟨y, hy, rfl⟩ | ⟨y, hy, rfl⟩)
      · exact .inl ⟨h, hy, rfl⟩
      · exact .inr ⟨rfl, hy⟩
    · rintro (⟨-, h2, h3⟩ | ⟨h2, h3⟩)
      · exact .inl ⟨c.side, h2, by cases c; simp_all⟩
      · exact .inr ⟨c.height, h3, by cases c; simp_all⟩
  · rw [if_neg h]
    simp only [List.mem_map, List.not_mem_nil, false_or]
    constructor
    · rintro ⟨y, hy, rfl⟩
      exact .inr ⟨rfl, hy⟩
    · rintro (⟨h2, -⟩ | ⟨h2, h3⟩)
      · exact absurd h2 h
      · exact ⟨c.height, h3, by cases c; simp_all⟩
theorem fur_le {s c : Setg} (h : c ∈ furL s) : ¬ ltS c s := by
  rw [mem_fur, mem_out, mem_out] at h
  obtain ⟨a1, a2⟩ := s
  obtain ⟨x1, x2⟩ := c
  unfold ltS
  rw [amt_cases, amt_cases]
  dsimp only at *
  split <;> split <;> split <;> split <;> omega
theorem anc_step {a x : Setg} (h : Anc a x) (hx : InSet x) : a = x ∨ ∃ c ∈ furL a, Anc c x := by
  obtain ⟨a1, a2⟩ := a
  obtain ⟨x1, x2⟩ := x
  obtain ⟨⟨i1, i2⟩, i3, i4⟩ := hx
  unfold Anc btw at h
  dsimp only at h i1 i2 i3 i4
  by_cases h0 : a1 = x1
  · subst h0
    by_cases h1 : a2 = x2
    · exact .inl (by rw [h1])
    · refine .inr ?_
      by_cases h2 : a2 < x2
      · by_cases h3 : 0 ≤ a2
        · exact ⟨⟨a1, a2 + 1⟩, mem_fur.2 (.inr ⟨rfl, mem_out.2 (by dsimp only; omega)⟩), .inr ⟨rfl, by unfold btw; dsimp only; omega⟩⟩
        · exfalso; omega
      · by_cases h3 : a2 ≤ 0
        · exact ⟨⟨a1, a2 - 1⟩, mem_fur.2 (.inr ⟨rfl, mem_out.2 (by dsimp only; omega)⟩), .inr ⟨rfl, by unfold btw; dsimp only; omega⟩⟩
        · exfalso; omega
  · have ha : a2 = 0 ∧ ((0 ≤ a1 ∧ a1 ≤ x1) ∨ (x1 ≤ a1 ∧ a1 ≤ 0)) := by omega
    obtain ⟨rfl, hb⟩ := ha
    refine .inr ?_
    by_cases h2 : a1 < x1
    · exact ⟨⟨a1 + 1, 0⟩, mem_fur.2 (.inl ⟨rfl, mem_out.2 (by dsimp only; omega), rfl⟩), .inl ⟨rfl, by unfold btw; dsimp only; omega⟩⟩
    · exact ⟨⟨a1 - 1, 0⟩, mem_fur.2 (.inl ⟨rfl, mem_out.2 (by dsimp only; omega), rfl⟩), .inl ⟨rfl, by unfold btw; dsimp only; omega⟩⟩
/-! ### The search -/
theorem cnt_le (leads : List Lead) (lim : Int) (s : Setg) : (cntL leads lim s : Int) ≤ leads.length := by
  have := List.length_filter_le (fun l => leadIn (aftL l s) lim) leads
  unfold cntL
  omega
/-- What is known between two rounds: P have been looked at. -/
structure Srch (leads : List Lead) (lim : Int) (P : Setg → Prop) (s : Setg) (h : List Setg) (b : Setg) (m : Int) : Prop where
  hp : HpO h
  mn : ∀ x ∈ h, ¬ ltS x s
  hin : ∀ x ∈ h, InSet x
  sin : InSet s
  bin : InSet b
  cov : ∀ x, InSet x → P x ∨ ∃ a, (a = s ∨ a ∈ h) ∧ Anc a x
  best : ∀ x, P x → (cntL leads lim x : Int) ≤ m ∧ ((cntL leads lim x : Int) = m → ¬ ltS x b)
  val : m = -1 ∨ m = cntL leads lim b
  low : ¬ ltS s b
  m0 : -1 ≤ m
/-- What comes of it. -/
structure Best5 (leads : List Lead) (lim : Int) (r : Setg × Int) : Prop where
  bin : InSet r.1
  val : r.2 = cntL leads lim r.1
  best : ∀ x, InSet x → (cntL leads lim x : Int) ≤ r.2 ∧ ((cntL leads lim x : Int) = r.2 → ¬ ltS x r.1)
theorem search_best (leads : List Lead) (lim : Int) : ∀ (f : Nat) (P : Setg → Prop) (s : Setg) (h : List Setg) (b : Setg) (m : Int), wtS s + sumW h ≤ f → Srch leads lim P s h b m → Best5 leads lim (bestT leads lim f (some s) h b m)
  | f, P, s, h, b, m, hf, I => by
    by_cases hm : m < leads.length
    · obtain ⟨f', rfl, hf', e⟩ := bestT_step (lim := lim) (b := b) hm I.sin hf
      rw [e]
      have hmem := putAll_mem (furL s) h
      have hhp := putAll_hp (furL s) h I.hp
      have hcl := cnt_le leads lim s
      -- the best one behind this round
      obtain ⟨b', hb'⟩ : ∃ b', (if m < (cntL leads lim s : Int) then s else b) = b' := ⟨_, rfl⟩
      obtain ⟨m', hm'⟩ : ∃ m', max m (cntL leads lim s : Int) = m' := ⟨_, rfl⟩
      rw [hb', hm']
      have hbin : InSet b' := by rw [← hb']; split; exact I.sin; exact I.bin
      have hval : m' = cntL leads lim b' := by
        rw [← hb', ← hm']
        by_cases hc : m < (cntL leads lim s : Int)
        · rw [if_pos hc]; omega
        · rw [if_neg hc]
          rcases I.val with h9 | h9
          · have := I.m0; omega
          · omega
      have hlow : ¬ ltS s b' := by rw [← hb']; split; exact ltS_irr _; exact I.low
      have hbest : ∀ x, P x ∨ x = s → (cntL leads lim x : Int) ≤ m' ∧ ((cntL leads lim x : Int) = m' → ¬ ltS x b') := by
        intro x hx
        rw [← hb', ← hm']
        rcases hx with hx | rfl
        · obtain ⟨h1, h2⟩ := I.best x hx
          by_cases hc : m < (cntL leads lim s : Int)
          · exact ⟨by omega, fun h => by omega⟩
          · rw [if_neg hc]
            exact ⟨by omega, fun h => h2 (by omega)⟩
        · by_cases hc : m < (cntL leads lim x : Int)
          · rw [if_pos hc]; exact ⟨by omega, fun _ => ltS_irr _⟩
          · rw [if_neg hc]; exact ⟨by omega, fun _ => I.low⟩
      have hcov : ∀ x, InSet x → (P x ∨ x = s) ∨ ∃ a ∈ putAll h (furL s), Anc a x := by
        intro x hx
        rcases I.cov x hx with h1 | ⟨a, rfl | h2, h3⟩
        · exact .inl (.inl h1)
        · rcases anc_step h3 hx with rfl | ⟨c, hc, hc2⟩
          · exact .inl (.inr rfl)
          · exact .inr ⟨c, (hmem c).2 (.inr hc), hc2⟩
        · exact .inr ⟨a, (hmem a).2 (.inl h2), h3⟩
      by_cases hn : putAll h (furL s) = []
      · rw [if_pos hn, bestT_none]
        refine ⟨hbin, hval, fun x hx => ?_⟩
        rcases hcov x hx with h1 | ⟨a, ha, -⟩
        · exact hbest x h1
        · rw [hn] at ha; simp at ha
      · rw [if_neg hn]
        obtain ⟨hmn, hat⟩ := first_min hhp hn
        have hpin : ∀ x ∈ putAll h (furL s), InSet x := putAll_in _ _ I.hin (furL_in I.sin)
        have hge : ∀ x ∈ putAll h (furL s), ¬ ltS x s := fun x hx => by
          rcases (hmem x).1 hx with h1 | h1
          · exact I.mn x h1
          · exact fur_le h1
        refine search_best leads lim f' (fun x => P x ∨ x = s) _ _ _ _ ?_ ⟨left_hp hhp, hmn, fun x hx => hpin x ((left_mem hn x).1 hx), hpin _ hat, hbin, fun x hx => ?_, hbest, .inr hval, leS_tr hlow (hge _ hat), by omega⟩
        · have h9 := leftH_sum hn
          omega
        · rcases hcov x hx with h1 | ⟨a, ha, h3⟩
          · exact .inl h1
          · rcases (left_mem hn a).2 ha with h4 | h4
            · exact .inr ⟨a, .inl h4, h3⟩
            · exact .inr ⟨a, .inr h4, h3⟩
    · rw [bestT_end leads lim f s h b hm]
      have hval : m = cntL leads lim b := by
        rcases I.val with h1 | h1
        · omega
        · exact h1
      refine ⟨I.bin, hval, fun x hx => ⟨by have := cnt_le leads lim x; omega, fun h9 => ?_⟩⟩
      rcases I.cov x hx with h1 | ⟨a, ha, h3⟩
      · exact (I.best x h1).2 h9
      · have h4 : ¬ ltS a s := by
          rcases ha with rfl | ha
          · exact ltS_irr _
          · exact I.mn a ha
        exact leS_tr I.low (leS_tr h4 (anc_le h3))
  termination_by f => f
theorem tune_best (leads : List Lead) (lim : Int) : Best5 leads lim (tuneS leads lim) := by
  refine search_best leads lim 7000 (fun _ => False) zS [] zS (-1) (by decide) ⟨fun k _ hk => by simp at hk, fun x hx => by simp at hx, fun x hx => by simp at hx, zS_in, zS_in, fun x _ => .inr ⟨zS, .inl rfl, anc_zero x⟩, fun x hx => hx.elim, .inl rfl, ltS_irr _, by omega⟩
end Go.Proofs.Ytbfamblbnfkpgaa
namespace Go.Proofs.Ytbfamblbnfkpgaa
open Go.RowKit Go.Shelf

theorem grade_oneT (l : Lead) (x : Int) : gradeOf l [x] = if leadIn l x = true then 0 else -1 := by
  unfold gradeOf gradeFrom gradeFrom; rfl
theorem grade_countT (j : Jig) (a b : Slat) (lim : Int) : (gradesOf j a b [lim]).countP (· == 0) = (leadsOf j a b).countP (leadIn · lim) := by
  unfold gradesOf
  rw [List.countP_map]
  congr 1
  funext l
  simp only [Function.comp_apply, grade_oneT]
  cases leadIn l lim <;> simp
/-- A jig whose shaper is set off. -/
def Jig.off (j : Jig) (s h : Int) : Jig := { j with side := ⟨j.side.lo + s, j.side.hi + s⟩, height := ⟨j.height.lo + h, j.height.hi + h⟩ }
theorem lead_off (j : Jig) (a b : Slat) (i s h : Int) : leadOf (j.off s h) a b i = aftL (leadOf j a b i) ⟨s, h⟩ := by
  unfold leadOf aftL sideS heightS addS Jig.off
  simp only [Lead.mk.injEq, Span.mk.injEq]
  omega
theorem leads_off (j : Jig) (a b : Slat) (s h : Int) : leadsOf (j.off s h) a b = (leadsOf j a b).map (aftL · ⟨s, h⟩) := by
  unfold leadsOf
  rw [List.map_map]
  apply List.map_congr_left
  intro i _
  exact lead_off j a b i s h
theorem always_off (j : Jig) (a b : Slat) (s h : Int) : alwaysB (j.off s h) a b = alwaysB j a b := rfl
/-- How many leads of some sandwiches are surely within a limit. -/
def cntZ (j : Jig) (lim : Int) (p : List (Slat × Slat)) : Nat := (p.flatMap fun q => leadsOf j q.1 q.2).countP (leadIn · lim)
theorem cntZ_take (j : Jig) (lim : Int) (p : List (Slat × Slat)) {k : Nat} (hk : k < p.length) : cntZ j lim (p.take (k + 1)) = cntZ j lim (p.take k) + (leadsOf j p[k].1 p[k].2).countP (leadIn · lim) := by
  unfold cntZ
  rw [allL_take j p hk, List.countP_append]
theorem cntZ_off (j : Jig) (l u : List Slat) (lim s h : Int) : cntZ (j.off s h) lim (l.zip u) = cntL (allL j l u) lim ⟨s, h⟩ := by
  unfold cntZ cntL allL
  rw [← List.countP_eq_length_filter]
  have e : ((l.zip u).flatMap fun q => leadsOf (j.off s h) q.1 q.2) = ((l.zip u).flatMap fun q => leadsOf j q.1 q.2).map (aftL · ⟨s, h⟩) := by
    rw [List.map_flatMap]
    congr 1
    funext q
    exact leads_off j q.1 q.2 s h
  rw [e, List.countP_map]
  rfl
theorem cntZ_le (j : Jig) (lim : Int) (p : List (Slat × Slat)) {N : Nat} (hN : j.grooves.toNat = N) : cntZ j lim p ≤ p.length * N := by
  rw [← flat_len j N hN p]
  exact List.countP_le_length
theorem gra_pair {j j' : Jig} {l u : List Slat} {lim : Int} (hE : tuneE j l u lim = 0) (hal : allB j l u = true) (hsame : ∀ a b, alwaysB j' a b = alwaysB j a b) {k : Nat} (hk : k < l.length) (hu : k < u.length) :
    (jigOk j' = false → graE j' l[k] u[k] [lim] = 1) ∧ (jigOk j' = true → graE j' l[k] u[k] [lim] = 0 ∧ (graL j' l[k] u[k] [lim]).countP (· == 0) = (leadsOf j' l[k] u[k]).countP (leadIn · lim) ∧ (graL j' l[k] u[k] [lim]).length ≤ 10) := by
  obtain ⟨h1, ⟨h2, h3⟩, -, h5, -⟩ := slErr_0 hE
  have ha := List.all_eq_true.1 h2 _ (List.getElem_mem hk)
  have hb := List.all_eq_true.1 h3 _ (List.getElem_mem hu)
  have haw : alwaysB j' l[k] u[k] = true := by
    rw [hsame]
    have hz : (l[k], u[k]) ∈ l.zip u := by
      have hzl : k < (l.zip u).length := by rw [List.length_zip]; omega
      have := List.getElem_mem hzl
      rwa [List.getElem_zip] at this
    have h9 := List.all_eq_true.1 (show ((l.zip u).all fun p => alwaysB j p.1 p.2) = true from hal) _ hz
    exact h9
  constructor
  · intro hj
    have h0 : graE0 j' l[k] u[k] [lim] = 1 := by
      unfold graE0 slErr
      rw [if_pos (by simp [hj])]
    unfold graE
    rw [if_neg (by rw [h0]; omega), h0]
  · intro hj
    have h0 : graE0 j' l[k] u[k] [lim] = 0 := by
      unfold graE0 slErr
      simp [hj, ha, hb, h5]
    have eL : graL j' l[k] u[k] [lim] = gradesOf j' l[k] u[k] [lim] := by unfold graL; rw [if_pos ⟨h0, haw⟩]
    refine ⟨by unfold graE; rw [if_pos h0, haw]; rfl, by rw [eL, grade_countT], ?_⟩
    rw [eL, grades_len, leads_len]
    have := (jigIn_of hj).n1
    omega
/-- The document's Set. -/
structure StS (w : World) (j : Jig) (W : World) : Prop where
  hb : Below w.heap.size w W
  kj : Blk W w.heap.size 25 #[.int .i64 j.glue.lo, .int .i64 j.glue.hi, .int .i64 j.lead.lo, .int .i64 j.lead.hi, .int .i64 j.side.lo, .int .i64 j.side.hi, .int .i64 j.height.lo, .int .i64 j.height.hi, .int .i64 j.play, .int .i64 j.grooves]
  kr : Blk W (w.heap.size + 1) 25 #[.int .i64 0, .int .i64 0, .int .i64 0, .int .i64 0, .int .i64 0, .int .i64 0, .int .i64 0, .int .i64 0, .int .i64 0, .int .i64 0]
theorem StS.side {w : World} {j : Jig} {W : World} (h : StS w j W) (x : Span) : StS w { j with side := x } ((W.setCell ⟨w.heap.size, 4, none⟩ (.int .i64 x.lo)).setCell ⟨w.heap.size, 5, none⟩ (.int .i64 x.hi)) :=
  ⟨(h.hb.setCell (by simp only []; omega) _).setCell (by simp only []; omega) _, (h.kj.set_ 4 _).set_ 5 _, (h.kr.far (by simp only []; omega) _).far (by simp only []; omega) _⟩
theorem StS.high {w : World} {j : Jig} {W : World} (h : StS w j W) (x : Span) : StS w { j with height := x } ((W.setCell ⟨w.heap.size, 6, none⟩ (.int .i64 x.lo)).setCell ⟨w.heap.size, 7, none⟩ (.int .i64 x.hi)) :=
  ⟨(h.hb.setCell (by simp only []; omega) _).setCell (by simp only []; omega) _, (h.kj.set_ 6 _).set_ 7 _, (h.kr.far (by simp only []; omega) _).far (by simp only []; omega) _⟩
theorem StS.start (w : World) (j : Jig) : StS w j ((w.alloc (.cells #[.int .i64 j.glue.lo, .int .i64 j.glue.hi, .int .i64 j.lead.lo, .int .i64 j.lead.hi, .int .i64 j.side.lo, .int .i64 j.side.hi, .int .i64 j.height.lo, .int .i64 j.height.hi, .int .i64 j.play, .int .i64 j.grooves] 25)).alloc (.cells #[.int .i64 0, .int .i64 0, .int .i64 0, .int .i64 0, .int .i64 0, .int .i64 0, .int .i64 0, .int .i64 0, .int .i64 0, .int .i64 0] 25)) := ⟨by repeat (first | exact Below.refl _ _ | assumption | refine Below.drew ?_ | refine Below.alloc ?_ (by first | omega | (simp only [World.size_alloc]; omega) | simp) _ | refine Below.setCell ?_ (by first | omega | (simp only [World.size_alloc]; omega) | simp) _), (Blk.new _ _ _).alloc _, blk5 _ _ (by simp) rfl⟩
set_option maxRecDepth 100000 in
set_option maxHeartbeats 4000000 in
theorem set5_any (w : World) (j : Jig) (s h : Int) (hs : (-40 ≤ s ∧ s ≤ 40) ∧ -40 ≤ h ∧ h ≤ 40) (hj : (-1000000 ≤ j.side.lo ∧ j.side.lo ≤ 1000000) ∧ (-1000000 ≤ j.side.hi ∧ j.side.hi ≤ 1000000) ∧ (-1000000 ≤ j.height.lo ∧ j.height.lo ≤ 1000000) ∧ -1000000 ≤ j.height.hi ∧ j.height.hi ≤ 1000000) :
    Calls Try.prog 31 #[.agg #[.int .i64 j.glue.lo, .int .i64 j.glue.hi, .int .i64 j.lead.lo, .int .i64 j.lead.hi, .int .i64 j.side.lo, .int .i64 j.side.hi, .int .i64 j.height.lo, .int .i64 j.height.hi, .int .i64 j.play, .int .i64 j.grooves], .int .i64 s, .int .i64 h] w (Ret (.agg #[.int .i64 j.glue.lo, .int .i64 j.glue.hi, .int .i64 j.lead.lo, .int .i64 j.lead.hi, .int .i64 (j.side.lo + s), .int .i64 (j.side.hi + s), .int .i64 (j.height.lo + h), .int .i64 (j.height.hi + h), .int .i64 j.play, .int .i64 j.grooves]) w) := by
  obtain ⟨⟨s0, s1⟩, h0, h1⟩ := hs
  obtain ⟨⟨a0, a1⟩, ⟨b0, b1⟩, ⟨c0, c1⟩, d0, d1⟩ := hj
  have w1 : IntKind.i64.wrap (j.side.lo + s) = j.side.lo + s := IntWalk.i64_in _ ⟨by omega, by omega⟩
  have w2 : IntKind.i64.wrap (j.side.hi + s) = j.side.hi + s := IntWalk.i64_in _ ⟨by omega, by omega⟩
  have w3 : IntKind.i64.wrap (j.height.lo + h) = j.height.lo + h := IntWalk.i64_in _ ⟨by omega, by omega⟩
  have w4 : IntKind.i64.wrap (j.height.hi + h) = j.height.hi + h := IntWalk.i64_in _ ⟨by omega, by omega⟩
  clear s0 s1 h0 h1 a0 a1 b0 b1 c0 c1 d0 d1
  have HS := Lib.hid (StS.start w j)
  go_enter Try.func31, Try.ntmps31
  go_upto_region 1 with fail
  generalize World.alloc (World.alloc w _) _ = V at HS ⊢
  have y4 := HS.out.kj.cell 4
  have y5 := HS.out.kj.cell 5
  have f4 := HS.out.kj.frozen 4
  have f5 := HS.out.kj.frozen 5
  have hz := HS.out.kj.lt
  replace HS := Lib.hid (HS.out.side ⟨j.side.lo + s, j.side.hi + s⟩)
  go_upto_region 2 with fail
  clear y4 y5 f4 f5 hz
  dsimp only at HS
  generalize World.setCell (World.setCell V _ _) _ _ = V1 at HS ⊢
  have y6 := HS.out.kj.cell 6
  have y7 := HS.out.kj.cell 7
  have f6 := HS.out.kj.frozen 6
  have f7 := HS.out.kj.frozen 7
  have hz := HS.out.kj.lt
  dsimp only at y6 y7
  replace HS := Lib.hid (HS.out.high ⟨j.height.lo + h, j.height.hi + h⟩)
  go_upto_region 3 with fail
  clear y6 y7 f6 f7 hz
  dsimp only at HS
  generalize World.setCell (World.setCell V1 _ _) _ _ = V2 at HS ⊢
  obtain ⟨j2, hj2⟩ : ∃ j2 : Jig, (⟨j.glue, j.lead, ⟨j.side.lo + s, j.side.hi + s⟩, ⟨j.height.lo + h, j.height.hi + h⟩, j.play, j.grooves⟩ : Jig) = j2 := ⟨_, rfl⟩
  have e : (Value.agg #[.int .i64 j.glue.lo, .int .i64 j.glue.hi, .int .i64 j.lead.lo, .int .i64 j.lead.hi, .int .i64 (j.side.lo + s), .int .i64 (j.side.hi + s), .int .i64 (j.height.lo + h), .int .i64 (j.height.hi + h), .int .i64 j.play, .int .i64 j.grooves]) = (Value.agg #[.int .i64 j2.glue.lo, .int .i64 j2.glue.hi, .int .i64 j2.lead.lo, .int .i64 j2.lead.hi, .int .i64 j2.side.lo, .int .i64 j2.side.hi, .int .i64 j2.height.lo, .int .i64 j2.height.hi, .int .i64 j2.play, .int .i64 j2.grooves]) := by rw [← hj2]
  have HE := Lib.hid e
  have HS2 : Hid (StS w j2 V2) := Lib.hid (by rw [← hj2]; exact HS.out)
  clear e hj2 HS w1 w2 w3 w4
  have HS := HS2
  clear HS2
  have KJ : Hid (Blk V2 w.heap.size 25 #[.int .i64 j2.glue.lo, .int .i64 j2.glue.hi, .int .i64 j2.lead.lo, .int .i64 j2.lead.hi, .int .i64 j2.side.lo, .int .i64 j2.side.hi, .int .i64 j2.height.lo, .int .i64 j2.height.hi, .int .i64 j2.play, .int .i64 j2.grooves]) := Lib.hid HS.out.kj
  have HKR := Lib.hid HS.out.kr
  have HR := Lib.hid (HS.out.kr.row #[.int .i64 j2.glue.lo, .int .i64 j2.glue.hi, .int .i64 j2.lead.lo, .int .i64 j2.lead.hi, .int .i64 j2.side.lo, .int .i64 j2.side.hi, .int .i64 j2.height.lo, .int .i64 j2.height.hi, .int .i64 j2.play, .int .i64 j2.grooves])
  have HB := Lib.hid (below_setRow HS.out.hb (show w.heap.size ≤ w.heap.size + 1 by omega) #[.int .i64 j2.glue.lo, .int .i64 j2.glue.hi, .int .i64 j2.lead.lo, .int .i64 j2.lead.hi, .int .i64 j2.side.lo, .int .i64 j2.side.hi, .int .i64 j2.height.lo, .int .i64 j2.height.hi, .int .i64 j2.play, .int .i64 j2.grooves])
  go_wp2_with (first | (with_reducible refine wpList_load_mid (by with_unfolding_all rfl) 25 _ (by with_unfolding_all rfl) _ _ (by with_unfolding_all rfl) [.int .i64 j2.glue.lo, .int .i64 j2.glue.hi, .int .i64 j2.lead.lo, .int .i64 j2.lead.hi, .int .i64 j2.side.lo, .int .i64 j2.side.hi, .int .i64 j2.height.lo, .int .i64 j2.height.hi, .int .i64 j2.play, .int .i64 j2.grooves] _ KJ.out.range (by with_unfolding_all rfl) (by with_unfolding_all rfl) (by kernel_rfl) ?_) | (refine wpList_store_row (by rfl) 25 (.tmp 6) (.tmp 31) (by rfl) (w.heap.size + 1) #[.int .i64 j2.glue.lo, .int .i64 j2.glue.hi, .int .i64 j2.lead.lo, .int .i64 j2.lead.hi, .int .i64 j2.side.lo, .int .i64 j2.side.hi, .int .i64 j2.height.lo, .int .i64 j2.height.hi, .int .i64 j2.play, .int .i64 j2.grooves] (by rfl) (by rfl) 25 _ HKR.out (by kernel_rfl) (by rfl) (by kernel_rfl) ?_))
  exact bodyPost_ret (results_blk rfl _ rfl HR.out (by kernel_rfl) (by kernel_rfl)) rfl ⟨by rw [HE.out], HB.out⟩
/-- What the closure has captured, and its jig. -/
structure CuS (ql qu qm : Nat) (A B : Option Addr) (n ca m cb : Nat) (lim : Int) (w W : World) : Prop where
  hb : Below w.heap.size w W
  kl : Blk W ql 26 #[.slice A n ca]
  ku : Blk W qu 26 #[.slice B m cb]
  km : Blk W qm 3 #[.int .i64 lim]
theorem CuS.call {ql qu qm : Nat} {A B : Option Addr} {n ca m cb : Nat} {lim : Int} {w W W' : World} (h : CuS ql qu qm A B n ca m cb lim w W) (hb : Below W.heap.size W W') : CuS ql qu qm A B n ca m cb lim w W' :=
  ⟨h.hb.trans (hb.mono h.hb.size), h.kl.below hb h.kl.lt, h.ku.below hb h.ku.lt, h.km.below hb h.km.lt⟩
def resT (j : Jig) (lim : Int) (l u : List Slat) : Int × Bool := if jigOk j = false ∧ l ≠ [] then (0, false) else ((cntZ j lim (l.zip u) : Int), true)
set_option maxRecDepth 100000 in
set_option maxHeartbeats 8000000 in
theorem count6_any (w : World) (ql qu qm : Nat) (A B : Option Addr) (ca cb : Nat) (j0 j : Jig) (l u : List Slat) (lim : Int) (hE : tuneE j0 l u lim = 0) (hal : allB j0 l u = true) (hsame : ∀ a b, alwaysB j a b = alwaysB j0 a b) (hg : j.grooves = j0.grooves) (hA : SlatSl w w.heap.size A l) (hB : SlatSl w w.heap.size B u) (hS : CuS ql qu qm A B l.length ca u.length cb lim w w) :
    Calls Try.prog 30 #[.agg #[.int .i64 j.glue.lo, .int .i64 j.glue.hi, .int .i64 j.lead.lo, .int .i64 j.lead.hi, .int .i64 j.side.lo, .int .i64 j.side.hi, .int .i64 j.height.lo, .int .i64 j.height.hi, .int .i64 j.play, .int .i64 j.grooves], .pointer (some ⟨ql, 0, none⟩), .pointer (some ⟨qu, 0, none⟩), .pointer (some ⟨qm, 0, none⟩)] w (Ret (.tuple #[.int .i64 (resT j lim l u).1, .bool (resT j lim l u).2]) w) := by
  have HPG := Lib.hid fun (k : Nat) (hk : k < l.length) (hu : k < u.length) => gra_pair hE hal hsame hk hu
  obtain ⟨h1, -, ⟨hl7, -, -⟩, hlim, hlu⟩ := slErr_0 hE
  replace hlu : l.length = u.length := of_decide_eq_true hlu
  have hjin := jigIn_of h1
  have HLE : Hid (∀ k, k ≤ l.length → cntZ j lim ((l.zip u).take k) ≤ 70) := Lib.hid fun k hk => by
    have h9 := cntZ_le j lim ((l.zip u).take k) rfl
    have h8 : j.grooves.toNat ≤ 10 := by rw [hg]; have := hjin.n1; omega
    have h7 : ((l.zip u).take k).length ≤ 7 := by rw [List.length_take, List.length_zip]; omega
    have := Nat.mul_le_mul h7 h8
    omega
  have HTK : Hid (∀ (k : Nat) (hk : k < l.length) (hu : k < u.length), cntZ j lim ((l.zip u).take (k + 1)) = cntZ j lim ((l.zip u).take k) + (leadsOf j l[k] u[k]).countP (leadIn · lim)) := Lib.hid fun k hk hu => by
    have hz : k < (l.zip u).length := by rw [List.length_zip]; omega
    rw [cntZ_take j lim _ hz, List.getElem_zip]
  have HAL : Hid (cntZ j lim ((l.zip u).take l.length) = cntZ j lim (l.zip u)) := Lib.hid (by rw [List.take_of_length_le (by rw [List.length_zip]; omega)])
  have HR : Hid ((jigOk j = false → ∀ k, k < l.length → resT j lim l u = (0, false)) ∧ (jigOk j = true ∨ l.length = 0 → resT j lim l u = ((cntZ j lim (l.zip u) : Int), true))) := Lib.hid ⟨fun h k hk => if_pos ⟨h, fun e => by rw [e] at hk; simp at hk⟩, fun h => if_neg fun ⟨h2, h3⟩ => by
    rcases h with h | h
    · rw [h] at h2; cases h2
    · exact h3 (List.eq_nil_of_length_eq_zero h)⟩
  have HS := Lib.hid hS
  have HAA := Lib.hid hA
  have HBB := Lib.hid hB
  have HLU := Lib.hid hlu
  have hl0 : (0 : Int) ≤ l.length := by omega
  have hl7' : (l.length : Int) ≤ 7 := by omega
  have hb0 : Below w.heap.size w (w.alloc (.cells #[.int .i64 j.glue.lo, .int .i64 j.glue.hi, .int .i64 j.lead.lo, .int .i64 j.lead.hi, .int .i64 j.side.lo, .int .i64 j.side.hi, .int .i64 j.height.lo, .int .i64 j.height.hi, .int .i64 j.play, .int .i64 j.grooves] 25)) := (Below.refl _ _).alloc (Nat.le_refl _) _
  have KJ0 := Lib.hid (Blk.new w 25 #[.int .i64 j.glue.lo, .int .i64 j.glue.hi, .int .i64 j.lead.lo, .int .i64 j.lead.hi, .int .i64 j.side.lo, .int .i64 j.side.hi, .int .i64 j.height.lo, .int .i64 j.height.hi, .int .i64 j.play, .int .i64 j.grooves])
  replace HS := Lib.hid (HS.out.call hb0)
  generalize cntZ j lim (l.zip u) = tot at *
  generalize resT j lim l u = res at *
  clear hE hal hsame hg hA hB hS hlim hl7 hlu h1 hjin hb0
  go_enter Try.func30, Try.ntmps30
  go_upto_region 1 with fail
  generalize World.alloc w _ = V at HS KJ0 ⊢
  generalize w.heap.size = qj at KJ0 ⊢
  have x1 := HS.out.kl.cell 0
  go_wp2_with fail
  clear x1
  go_loopw [7, 15] (fun n i wr => ∃ k : Nat, k ≤ l.length ∧ n = .int .i64 (cntZ j lim ((l.zip u).take k) : Nat) ∧ i = .int .i64 k ∧ Hid (k = 0 ∨ jigOk j = true) ∧ Hid (CuS ql qu qm A B l.length ca u.length cb lim w wr) ∧ Hid (Blk wr qj 25 #[.int .i64 j.glue.lo, .int .i64 j.glue.hi, .int .i64 j.lead.lo, .int .i64 j.lead.hi, .int .i64 j.side.lo, .int .i64 j.side.hi, .int .i64 j.height.lo, .int .i64 j.height.hi, .int .i64 j.play, .int .i64 j.grooves])) (fun _ i _ => l.length - (intOf i).toNat)
  case atStart => exact ⟨0, Nat.zero_le _, by simp [cntZ], rfl, Lib.hid (.inl rfl), HS, KJ0⟩
  case round =>
    clear HS KJ0
    obtain ⟨k, hk, rfl, rfl, HJ, HS, KJ⟩ := hrel
    by_cases hlt : k < l.length
    · have hku : k < u.length := by have := HLU.out; omega
      have hk0 : (0 : Int) ≤ k := by omega
      have hkl : (k : Int) < l.length := by omega
      have hkl2 : (k : Int) < u.length := by omega
      have HPK := Lib.hid (HPG.out k hlt hku)
      have HTN := Lib.hid (HTK.out k hlt hku)
      have HL1 := Lib.hid (HLE.out k hk)
      have HL2 := Lib.hid (HLE.out (k + 1) hlt)
      obtain ⟨bA, oA, rfl, hbA, hsA⟩ := HAA.out (by intro e; rw [e] at hlt; simp at hlt)
      obtain ⟨bB, oB, rfl, hbB, hsB⟩ := HBB.out (by intro e; rw [e] at hku; simp at hku)
      have HRA := Lib.hid fun V (hV : Below w.heap.size w V) => range_low (slats_range hsA hlt rfl) hV hbA
      have HRB := Lib.hid fun V (hV : Below w.heap.size w V) => range_low (slats_range hsB hku rfl) hV hbB
      generalize l[k] = a at *
      generalize u[k] = b at *
      generalize cntZ j lim ((l.zip u).take k) = m at *
      clear hsA hsB hbA hbB
      go_upto_region 5 with fail
      replace HS := Lib.hid (HS.out.call (Below.refl _ _).drew)
      replace KJ := Lib.hid (KJ.out.below (Below.refl _ _).drew KJ.out.lt)
      refine wp_region_held_drew (S := fun W9 => (Blk W9 qj 25 #[.int .i64 j.glue.lo, .int .i64 j.glue.hi, .int .i64 j.lead.lo, .int .i64 j.lead.hi, .int .i64 j.side.lo, .int .i64 j.side.hi, .int .i64 j.height.lo, .int .i64 j.height.hi, .int .i64 j.play, .int .i64 j.grooves] ∧ Blk W9 ql 26 #[.slice (some ⟨bA, oA, none⟩) l.length ca] ∧ Blk W9 qu 26 #[.slice (some ⟨bB, oB, none⟩) u.length cb] ∧ Blk W9 qm 3 #[.int .i64 lim]) ∧ W9.rangeAt bA (oA + k * 8) [.int .i64 a.thick.lo, .int .i64 a.thick.hi, .int .i64 a.depth.lo, .int .i64 a.depth.hi, .int .i64 a.shift.lo, .int .i64 a.shift.hi, .int .i64 a.pitch.lo, .int .i64 a.pitch.hi] ∧ W9.rangeAt bB (oB + k * 8) [.int .i64 b.thick.lo, .int .i64 b.thick.hi, .int .i64 b.depth.lo, .int .i64 b.depth.hi, .int .i64 b.shift.lo, .int .i64 b.shift.hi, .int .i64 b.pitch.lo, .int .i64 b.pitch.hi]) (by kernel_rfl) ⟨⟨KJ.out, HS.out.kl, HS.out.ku, HS.out.km⟩, HRA.out _ HS.out.hb, HRB.out _ HS.out.hb⟩ (fun hH0 => ?_)
      generalize World.drew _ = V0 at *
      simp only [List.size_toArray, List.length_cons, List.length_nil, Nat.reduceAdd, Array.replicate_succ, Array.replicate_zero, List.push_toArray, List.nil_append, List.cons_append]
      refine wpAnyH_take (i := 0) (v := _) rfl (by kernel_rfl) (by kernel_rfl) (by kernel_rfl) (fun _ _ _ h => h) (yieldsIf_load_mid (by rfl) _ _ rfl _ _ rfl [.int .i64 j.glue.lo, .int .i64 j.glue.hi, .int .i64 j.lead.lo, .int .i64 j.lead.hi, .int .i64 j.side.lo, .int .i64 j.side.hi, .int .i64 j.height.lo, .int .i64 j.height.hi, .int .i64 j.play, .int .i64 j.grooves] _ (fun w0 h0 => h0.1.1.range) (by rfl) (by rfl) (by kernel_rfl)) (by assumption) ?_
      (try simp only [Act.put, List.getElem_toArray, List.getElem_cons_zero, List.setIfInBounds_toArray, List.set_cons_zero, List.set_cons_succ])
      refine wpAnyH_take (i := 1 ) (v := ?_) rfl (by kernel_rfl) (by kernel_rfl) (by kernel_rfl) (fun _ _ _ h => h) (Or.inl ⟨by rfl, ?_⟩) (by assumption) ?_; rotate_left; (· (intro w0 hSw; have a0 := hSw.1.2.1.cell 0; have a1 := hSw.1.2.2.1.cell 0; have a2 := hSw.1.2.2.2.cell 0; clear hSw; go_simp); first | done | with_reducible rfl); (try simp only [Act.put, List.getElem_toArray, List.getElem_cons_succ, List.getElem_cons_zero, List.setIfInBounds_toArray, List.set_cons_zero, List.set_cons_succ])
      refine wpAnyH_take (i := 2 ) (v := ?_) rfl (by kernel_rfl) (by kernel_rfl) (by kernel_rfl) (fun _ _ _ h => h) (Or.inl ⟨by rfl, ?_⟩) (by assumption) ?_; rotate_left; (· (intro w0 hSw; have a0 := hSw.1.2.1.cell 0; have a1 := hSw.1.2.2.1.cell 0; have a2 := hSw.1.2.2.2.cell 0; clear hSw; go_simp); first | done | with_reducible rfl); (try simp only [Act.put, List.getElem_toArray, List.getElem_cons_succ, List.getElem_cons_zero, List.setIfInBounds_toArray, List.set_cons_zero, List.set_cons_succ])
      refine wpAnyH_take (i := 3 ) (v := ?_) rfl (by kernel_rfl) (by kernel_rfl) (by kernel_rfl) (fun _ _ _ h => h) (Or.inl ⟨by rfl, ?_⟩) (by assumption) ?_; rotate_left; (· (intro w0 hSw; have a0 := hSw.1.2.1.cell 0; have a1 := hSw.1.2.2.1.cell 0; have a2 := hSw.1.2.2.2.cell 0; clear hSw; go_simp); first | done | with_reducible rfl); (try simp only [Act.put, List.getElem_toArray, List.getElem_cons_succ, List.getElem_cons_zero, List.setIfInBounds_toArray, List.set_cons_zero, List.set_cons_succ])
      refine wpAnyH_take (i := 4) (v := _) rfl (by kernel_rfl) (by kernel_rfl) (by kernel_rfl) (fun _ _ _ h => h) (yieldsIf_load_mid (by rfl) _ _ rfl _ _ rfl [.int .i64 a.thick.lo, .int .i64 a.thick.hi, .int .i64 a.depth.lo, .int .i64 a.depth.hi, .int .i64 a.shift.lo, .int .i64 a.shift.hi, .int .i64 a.pitch.lo, .int .i64 a.pitch.hi] _ (fun w0 h0 => h0.2.1) (by rfl) (by rfl) (by kernel_rfl)) (by assumption) ?_
      (try simp only [Act.put, List.getElem_toArray, List.getElem_cons_succ, List.getElem_cons_zero, List.setIfInBounds_toArray, List.set_cons_zero, List.set_cons_succ])
      refine wpAnyH_take (i := 5 ) (v := ?_) rfl (by kernel_rfl) (by kernel_rfl) (by kernel_rfl) (fun _ _ _ h => h) (Or.inl ⟨by rfl, ?_⟩) (by assumption) ?_; rotate_left; (· (intro w0 hSw; have a0 := hSw.1.2.1.cell 0; have a1 := hSw.1.2.2.1.cell 0; have a2 := hSw.1.2.2.2.cell 0; clear hSw; go_simp); first | done | with_reducible rfl); (try simp only [Act.put, List.getElem_toArray, List.getElem_cons_succ, List.getElem_cons_zero, List.setIfInBounds_toArray, List.set_cons_zero, List.set_cons_succ])
      refine wpAnyH_take (i := 6 ) (v := ?_) rfl (by kernel_rfl) (by kernel_rfl) (by kernel_rfl) (fun _ _ _ h => h) (Or.inl ⟨by rfl, ?_⟩) (by assumption) ?_; rotate_left; (· (intro w0 hSw; have a0 := hSw.1.2.1.cell 0; have a1 := hSw.1.2.2.1.cell 0; have a2 := hSw.1.2.2.2.cell 0; clear hSw; go_simp); first | done | with_reducible rfl); (try simp only [Act.put, List.getElem_toArray, List.getElem_cons_succ, List.getElem_cons_zero, List.setIfInBounds_toArray, List.set_cons_zero, List.set_cons_succ])
      refine wpAnyH_take (i := 7 ) (v := ?_) rfl (by kernel_rfl) (by kernel_rfl) (by kernel_rfl) (fun _ _ _ h => h) (Or.inl ⟨by rfl, ?_⟩) (by assumption) ?_; rotate_left; (· (intro w0 hSw; have a0 := hSw.1.2.1.cell 0; have a1 := hSw.1.2.2.1.cell 0; have a2 := hSw.1.2.2.2.cell 0; clear hSw; go_simp); first | done | with_reducible rfl); (try simp only [Act.put, List.getElem_toArray, List.getElem_cons_succ, List.getElem_cons_zero, List.setIfInBounds_toArray, List.set_cons_zero, List.set_cons_succ])
      refine wpAnyH_take (i := 8) (v := _) rfl (by kernel_rfl) (by kernel_rfl) (by kernel_rfl) (fun _ _ _ h => h) (yieldsIf_load_mid (by rfl) _ _ rfl _ _ rfl [.int .i64 b.thick.lo, .int .i64 b.thick.hi, .int .i64 b.depth.lo, .int .i64 b.depth.hi, .int .i64 b.shift.lo, .int .i64 b.shift.hi, .int .i64 b.pitch.lo, .int .i64 b.pitch.hi] _ (fun w0 h0 => h0.2.2) (by rfl) (by rfl) (by kernel_rfl)) (by assumption) ?_
      (try simp only [Act.put, List.getElem_toArray, List.getElem_cons_succ, List.getElem_cons_zero, List.setIfInBounds_toArray, List.set_cons_zero, List.set_cons_succ])
      refine wpAnyH_take (i := 9 ) (v := ?_) rfl (by kernel_rfl) (by kernel_rfl) (by kernel_rfl) (fun _ _ _ h => h) (Or.inl ⟨by rfl, ?_⟩) (by assumption) ?_; rotate_left; (· (intro w0 hSw; have a0 := hSw.1.2.1.cell 0; have a1 := hSw.1.2.2.1.cell 0; have a2 := hSw.1.2.2.2.cell 0; clear hSw; go_simp); first | done | with_reducible rfl); (try simp only [Act.put, List.getElem_toArray, List.getElem_cons_succ, List.getElem_cons_zero, List.setIfInBounds_toArray, List.set_cons_zero, List.set_cons_succ])
      refine wpAnyH_ready (rs := [10]) (by kernel_rfl) (by simp) ?_
      refine AllReadyH.cons (by simp only [List.getElem?_toArray, List.getElem?_cons_succ, List.getElem?_cons_zero]; rfl) (fun K hK => ?_) AllReadyH.nil
      go_simp
      have hb : Below V0.heap.size V0 (V0.alloc (.cells #[.int .i64 lim] 3)) := (Below.refl _ _).alloc (Nat.le_refl _) _
      have H9 := Lib.hid (Blk.new V0 3 #[.int .i64 lim])
      replace HS := Lib.hid (HS.out.call hb)
      replace KJ := Lib.hid (KJ.out.below hb KJ.out.lt)
      clear hb
      generalize V0.heap.size = g9 at *
      generalize World.alloc V0 _ = X9 at *
      refine hK.out _ _ ⟨⟨KJ.out, HS.out.kl, HS.out.ku, HS.out.km⟩, HRA.out _ HS.out.hb, HRB.out _ HS.out.hb⟩ (fun hH1 => ?_)
      clear hK K
      try simp only [List.setIfInBounds_toArray, List.set_cons_zero, List.set_cons_succ]
      refine wpAnyH_ready (rs := [11]) (by kernel_rfl) (by simp) ?_
      refine AllReadyH.cons (by simp only [List.getElem?_toArray, List.getElem?_cons_succ, List.getElem?_cons_zero]; rfl) (fun K hK => ?_) AllReadyH.nil
      go_simp
      refine (grades5_any j a b (some ⟨g9, 0, none⟩) 1 [lim] _ (by simp) (one_lim H9.out)).mono ?_
      rintro e X ⟨A9, c9, rfl, hown, hb⟩
      replace HS := Lib.hid (HS.out.call hb)
      replace KJ := Lib.hid (KJ.out.below hb KJ.out.lt)
      have HOW := Lib.hid (show PlanAt X (.slice A9 (graL j a b [lim]).length c9) (graL j a b [lim]) from own_low hown (Nat.zero_le _))
      clear hb hown H9
      refine hK.out _ _ ⟨⟨KJ.out, HS.out.kl, HS.out.ku, HS.out.km⟩, HRA.out _ HS.out.hb, HRB.out _ HS.out.hb⟩ (fun hH2 => ?_)
      clear hK K
      try simp only [List.setIfInBounds_toArray, List.set_cons_zero, List.set_cons_succ]
      refine wpAnyH_take (i := 12 ) (v := ?_) rfl (by kernel_rfl) (by kernel_rfl) (by kernel_rfl) (fun _ _ _ h => h) (Or.inl ⟨by rfl, ?_⟩) (by assumption) ?_; rotate_left; (· (intro w0 hSw; have a0 := hSw.1.2.1.cell 0; have a1 := hSw.1.2.2.1.cell 0; have a2 := hSw.1.2.2.2.cell 0; clear hSw; go_simp); first | done | with_reducible rfl); (try simp only [Act.put, List.getElem_toArray, List.getElem_cons_succ, List.getElem_cons_zero, List.setIfInBounds_toArray, List.set_cons_zero, List.set_cons_succ])
      refine wpAnyH_take (i := 13 ) (v := ?_) rfl (by kernel_rfl) (by kernel_rfl) (by kernel_rfl) (fun _ _ _ h => h) (Or.inl ⟨by rfl, ?_⟩) (by assumption) ?_; rotate_left; (· (intro w0 hSw; have a0 := hSw.1.2.1.cell 0; have a1 := hSw.1.2.2.1.cell 0; have a2 := hSw.1.2.2.2.cell 0; clear hSw; go_simp); first | done | with_reducible rfl); (try simp only [Act.put, List.getElem_toArray, List.getElem_cons_succ, List.getElem_cons_zero, List.setIfInBounds_toArray, List.set_cons_zero, List.set_cons_succ])
      refine wpAnyH_take (i := 14 ) (v := ?_) rfl (by kernel_rfl) (by kernel_rfl) (by kernel_rfl) (fun _ _ _ h => h) (Or.inl ⟨by rfl, ?_⟩) (by assumption) ?_; rotate_left; (· (intro w0 hSw; have a0 := hSw.1.2.1.cell 0; have a1 := hSw.1.2.2.1.cell 0; have a2 := hSw.1.2.2.2.cell 0; clear hSw; go_simp); first | done | with_reducible rfl); (try simp only [Act.put, List.getElem_toArray, List.getElem_cons_succ, List.getElem_cons_zero, List.setIfInBounds_toArray, List.set_cons_zero, List.set_cons_succ])
      refine wpAnyH_take (i := 15 ) (v := ?_) rfl (by kernel_rfl) (by kernel_rfl) (by kernel_rfl) (fun _ _ _ h => h) (Or.inl ⟨by rfl, ?_⟩) (by assumption) ?_; rotate_left; (· (intro w0 hSw; have a0 := hSw.1.2.1.cell 0; have a1 := hSw.1.2.2.1.cell 0; have a2 := hSw.1.2.2.2.cell 0; clear hSw; go_simp); first | done | with_reducible rfl); (try simp only [Act.put, List.getElem_toArray, List.getElem_cons_succ, List.getElem_cons_zero, List.setIfInBounds_toArray, List.set_cons_zero, List.set_cons_succ])
      refine wpAnyH_take (i := 16 ) (v := ?_) rfl (by kernel_rfl) (by kernel_rfl) (by kernel_rfl) (fun _ _ _ h => h) (Or.inl ⟨by rfl, ?_⟩) (by assumption) ?_; rotate_left; (· (intro w0 hSw; have a0 := hSw.1.2.1.cell 0; have a1 := hSw.1.2.2.1.cell 0; have a2 := hSw.1.2.2.2.cell 0; clear hSw; go_simp); first | done | with_reducible rfl); (try simp only [Act.put, List.getElem_toArray, List.getElem_cons_succ, List.getElem_cons_zero, List.setIfInBounds_toArray, List.set_cons_zero, List.set_cons_succ])
      refine wpAnyH_done (by kernel_rfl) ?_ _
      clear HRA HRB
      cases hjo : jigOk j with
      | false =>
        have hg2 := HPK.out.1 hjo
        have HN := Lib.hid (HR.out.1 hjo k hlt)
        rw [hg2]
        clear hg2 HPK HTN hjo
        go_wp2_with fail
        exact bodyPost_ret (v := .tuple #[.int .i64 0, .bool false]) (by simp [results, Try.results30, go_sem]) rfl ⟨by rw [HN.out], HS.out.hb⟩
      | true =>
        obtain ⟨hg2, hg3, hg4⟩ := HPK.out.2 hjo
        have HJ2 := Lib.hid hjo
        have HZ := Lib.hid hg3
        rw [hg2]
        clear hg2 hg3 HPK hjo HJ
        generalize graL j a b [lim] = gl at *
        have HGS := Lib.hid (plan_sl5 HOW.out)
        have hgl0 : (0 : Int) ≤ gl.length := by omega
        have hgl1 : (gl.length : Int) ≤ 10 := by omega
        have HX := Lib.hid (Below.refl X.heap.size X)
        go_wp2_with fail
        go_loopw [7, 37] (fun n i wr => ∃ (p y : Nat), p ≤ gl.length ∧ n = .int .i64 ((m + y : Nat) : Int) ∧ i = .int .i64 p ∧ Hid (y = (gl.take p).countP (· == 0)) ∧ Hid (CuS ql qu qm (some ⟨bA, oA, none⟩) (some ⟨bB, oB, none⟩) l.length ca u.length cb lim w wr) ∧ Hid (Blk wr qj 25 #[.int .i64 j.glue.lo, .int .i64 j.glue.hi, .int .i64 j.lead.lo, .int .i64 j.lead.hi, .int .i64 j.side.lo, .int .i64 j.side.hi, .int .i64 j.height.lo, .int .i64 j.height.hi, .int .i64 j.play, .int .i64 j.grooves]) ∧ Hid (Below X.heap.size X wr)) (fun _ i _ => gl.length - (intOf i).toNat)
        case atStart => exact ⟨0, 0, Nat.zero_le _, by simp, rfl, Lib.hid (by simp), HS, KJ, HX⟩
        case round =>
          clear HS HX KJ
          obtain ⟨p, y, hp, rfl, rfl, HY, HS, KJ, HX⟩ := hrel
          by_cases hpl : p < gl.length
          · obtain ⟨bG, oG, rfl, hbG, hcG⟩ := HGS.out (by intro e; rw [e] at hpl; simp at hpl)
            have g0 := hcG p hpl
            rw [← HX.out.cell (p := ⟨bG, _, none⟩) hbG] at g0
            have HCN : Hid ((gl.take (p + 1)).countP (· == 0) = (gl.take p).countP (· == 0) + if (gl[p] == 0) = true then 1 else 0) := Lib.hid (by rw [List.take_succ_eq_append_getElem hpl, List.countP_append]; simp [List.countP_cons])
            have hy10 : y ≤ 10 := by
              have h1 := HY.out
              have h2 := List.countP_le_length (p := fun x : Int => x == 0) (l := gl.take p)
              rw [List.length_take] at h2
              omega
            have hm70 := HL1.out
            have wm : IntKind.i64.wrap (((m + y : Nat) : Int) + 1) = ((m + y : Nat) : Int) + 1 := IntWalk.i64_in _ ⟨by omega, by omega⟩
            have wm2 : IntKind.i64.wrap ((m : Int) + (y : Int) + 1) = (m : Int) + (y : Int) + 1 := IntWalk.i64_in _ ⟨by omega, by omega⟩
            have hp0 : (0 : Int) ≤ p := by omega
            have hp1 : (p : Int) < gl.length := by omega
            generalize gl[p] = gv at *
            clear hcG hm70
            cases hw : gv == 0 with
            | true =>
              rw [hw] at HCN
              have HY2 : Hid (y + 1 = (gl.take (p + 1)).countP (· == 0)) := Lib.hid (by rw [HCN.out, ← HY.out]; rfl)
              clear HCN HY
              go_wp2_with fail
              go_roundw
              case rel => exact ⟨p + 1, y + 1, by omega, by first | rfl | (congr 1; omega) | go_num, by go_num, HY2, HS, KJ, HX⟩
              case measure => simp [intOf]; omega
            | false =>
              rw [hw] at HCN
              have HY2 : Hid (y = (gl.take (p + 1)).countP (· == 0)) := Lib.hid (by rw [HCN.out, ← HY.out]; rfl)
              clear HCN HY
              go_wp2_with fail
              go_roundw
              case rel => exact ⟨p + 1, y, by omega, rfl, by go_num, HY2, HS, KJ, HX⟩
              case measure => simp [intOf]; omega
          · obtain rfl : gl.length = p := by omega
            have hpl' : ¬ (gl.length : Int) < gl.length := by omega
            have HYE : Hid (m + y = cntZ j lim ((l.zip u).take (k + 1))) := Lib.hid (by rw [HTN.out, HY.out, List.take_length, HZ.out])
            clear HY HZ HTN
            go_wp2_with fail
            go_roundw
            case rel => exact ⟨k + 1, by omega, by rw [← HYE.out], by go_num, Lib.hid (.inr HJ2.out), HS, KJ⟩
            case measure => simp [intOf]; omega
    · obtain rfl : l.length = k := by omega
      have hlt' : ¬ (l.length : Int) < l.length := by omega
      have HN : Hid (res = ((tot : Int), true)) := Lib.hid (HR.out.2 (by rcases HJ.out with h | h; exact .inr h; exact .inl h))
      rw [HAL.out]
      go_wp2_with fail
      exact bodyPost_ret (v := .tuple #[.int .i64 (tot : Int), .bool true]) (by simp [results, Try.results30, go_sem]) rfl ⟨by rw [HN.out], HS.out.hb⟩
end Go.Proofs.Ytbfamblbnfkpgaa
