/- The document's own checks of jigs and slats. -/
import Derived.Test.YtfpfafijockfnaaSm
namespace Go.Proofs.Ytfpfafijockfnaa
open Go.RowKit Go.Shelf

set_option maxHeartbeats 400000 in
theorem rin5_any (n a b : Int) (w : World) : Calls Try.prog 54 #[.int .i64 n, .int .i64 a, .int .i64 b] w fun e w' => e = .returned (.bool (fromB n a b)) ∧ w = w' := by
  go_enter Try.func54, Try.ntmps54
  go_wp2
  all_goals go_ret
  all_goals exact ⟨ret_bool (by rw [Bool.eq_iff_iff]; simp only [fromB, decide_eq_true_eq, Bool.false_eq_true, false_iff]; omega), rfl⟩
set_option maxHeartbeats 400000 in
theorem rspan5_any (a b c d : Int) (w : World) : Calls Try.prog 53 #[.agg #[.int .i64 a, .int .i64 b], .int .i64 c, .int .i64 d] w (Ret (.bool (withinB ⟨a, b⟩ c d)) w) := by
  go_enter Try.func53, Try.ntmps53
  go_wp2
  all_goals go_ret
  all_goals exact ⟨ret_bool (by rw [Bool.eq_iff_iff]; simp only [withinB, decide_eq_true_eq, Bool.false_eq_true, false_iff]; omega), (Below.refl _ _).alloc (Nat.le_refl _) _⟩
set_option maxRecDepth 100000 in
set_option maxHeartbeats 2000000 in
theorem rjig5_any (j : Jig) (w : World) : Calls Try.prog 24 #[.agg #[.int .i64 j.glue.lo, .int .i64 j.glue.hi, .int .i64 j.lead.lo, .int .i64 j.lead.hi, .int .i64 j.side.lo, .int .i64 j.side.hi, .int .i64 j.height.lo, .int .i64 j.height.hi, .int .i64 j.play, .int .i64 j.grooves]] w (Ret (.bool (jigOk j)) w) := by
  have HB := Lib.hid (show Below w.heap.size w (w.alloc (.cells #[.int .i64 j.glue.lo, .int .i64 j.glue.hi, .int .i64 j.lead.lo, .int .i64 j.lead.hi, .int .i64 j.side.lo, .int .i64 j.side.hi, .int .i64 j.height.lo, .int .i64 j.height.hi, .int .i64 j.play, .int .i64 j.grooves] 25)) from (Below.refl _ _).alloc (Nat.le_refl _) _)
  have HK := Lib.hid (Blk.new w 25 #[.int .i64 j.glue.lo, .int .i64 j.glue.hi, .int .i64 j.lead.lo, .int .i64 j.lead.hi, .int .i64 j.side.lo, .int .i64 j.side.hi, .int .i64 j.height.lo, .int .i64 j.height.hi, .int .i64 j.play, .int .i64 j.grooves])
  have HD : Hid (jigOk j = (withinB ⟨j.glue.lo, j.glue.hi⟩ 0 500 && withinB ⟨j.lead.lo, j.lead.hi⟩ 1 5000 && withinB ⟨j.side.lo, j.side.hi⟩ (-500) 500 && withinB ⟨j.height.lo, j.height.hi⟩ (-500) 500 && fromB j.play 0 500 && fromB j.grooves 1 10)) := Lib.hid rfl
  go_enter Try.func24, Try.ntmps24
  go_wp2_with fail
  generalize World.alloc w _ = V at HB HK ⊢
  refine (rspan5_any _ _ _ _ _).mono ?_
  rintro e W1 ⟨he, hb1⟩
  replace HK := Lib.hid (HK.out.below hb1 HK.out.lt)
  replace HB := Lib.hid (HB.out.trans (hb1.mono HB.out.size))
  clear hb1
  obtain ⟨z1, hz1⟩ : ∃ z, withinB ⟨j.glue.lo, j.glue.hi⟩ 0 500 = z := ⟨_, rfl⟩
  rw [hz1] at he
  have H0 := Lib.hid hz1
  clear hz1
  subst he
  cases z1 with
  | false =>
    go_wp2_with fail
    go_ret
    exact ⟨ret_bool (Eq.symm (by rw [HD.out, H0.out]; simp)), HB.out⟩
  | true =>
    skip
    have x2 := HK.out.cell 2
    have x3 := HK.out.cell 3
    go_wp2_with fail
    clear x2 x3
    refine (rspan5_any _ _ _ _ _).mono ?_
    rintro e W1 ⟨he, hb1⟩
    replace HK := Lib.hid (HK.out.below hb1 HK.out.lt)
    replace HB := Lib.hid (HB.out.trans (hb1.mono HB.out.size))
    clear hb1
    obtain ⟨z1, hz1⟩ : ∃ z, withinB ⟨j.lead.lo, j.lead.hi⟩ 1 5000 = z := ⟨_, rfl⟩
    rw [hz1] at he
    have H1 := Lib.hid hz1
    clear hz1
    subst he
    cases z1 with
    | false =>
      go_wp2_with fail
      go_ret
      exact ⟨ret_bool (Eq.symm (by rw [HD.out, H0.out, H1.out]; simp)), HB.out⟩
    | true =>
      skip
      have x4 := HK.out.cell 4
      have x5 := HK.out.cell 5
      go_wp2_with fail
      clear x4 x5
      refine (rspan5_any _ _ _ _ _).mono ?_
      rintro e W1 ⟨he, hb1⟩
      replace HK := Lib.hid (HK.out.below hb1 HK.out.lt)
      replace HB := Lib.hid (HB.out.trans (hb1.mono HB.out.size))
      clear hb1
      obtain ⟨z1, hz1⟩ : ∃ z, withinB ⟨j.side.lo, j.side.hi⟩ (-500) 500 = z := ⟨_, rfl⟩
      rw [hz1] at he
      have H2 := Lib.hid hz1
      clear hz1
      subst he
      cases z1 with
      | false =>
        go_wp2_with fail
        go_ret
        exact ⟨ret_bool (Eq.symm (by rw [HD.out, H0.out, H1.out, H2.out]; simp)), HB.out⟩
      | true =>
        skip
        have x6 := HK.out.cell 6
        have x7 := HK.out.cell 7
        go_wp2_with fail
        clear x6 x7
        refine (rspan5_any _ _ _ _ _).mono ?_
        rintro e W1 ⟨he, hb1⟩
        replace HK := Lib.hid (HK.out.below hb1 HK.out.lt)
        replace HB := Lib.hid (HB.out.trans (hb1.mono HB.out.size))
        clear hb1
        obtain ⟨z1, hz1⟩ : ∃ z, withinB ⟨j.height.lo, j.height.hi⟩ (-500) 500 = z := ⟨_, rfl⟩
        rw [hz1] at he
        have H3 := Lib.hid hz1
        clear hz1
        subst he
        cases z1 with
        | false =>
          go_wp2_with fail
          go_ret
          exact ⟨ret_bool (Eq.symm (by rw [HD.out, H0.out, H1.out, H2.out, H3.out]; simp)), HB.out⟩
        | true =>
          skip
          have x8 := HK.out.cell 8
          go_wp2_with fail
          clear x8
          refine (rin5_any _ _ _ _).mono ?_
          rintro e W1 ⟨he, rfl⟩
          skip
          obtain ⟨z1, hz1⟩ : ∃ z, fromB j.play 0 500 = z := ⟨_, rfl⟩
          rw [hz1] at he
          have H4 := Lib.hid hz1
          clear hz1
          subst he
          cases z1 with
          | false =>
            go_wp2_with fail
            go_ret
            exact ⟨ret_bool (Eq.symm (by rw [HD.out, H0.out, H1.out, H2.out, H3.out, H4.out]; simp)), HB.out⟩
          | true =>
            skip
            have x9 := HK.out.cell 9
            go_wp2_with fail
            clear x9
            refine (rin5_any _ _ _ _).mono ?_
            rintro e W1 ⟨rfl, rfl⟩
            go_wp2_with fail
            go_ret
            exact ⟨ret_bool (by rw [HD.out, H0.out, H1.out, H2.out, H3.out, H4.out]; simp), HB.out⟩
set_option maxRecDepth 100000 in
set_option maxHeartbeats 2000000 in
theorem rslat5_any (s : Slat) (w : World) : Calls Try.prog 25 #[.agg #[.int .i64 s.thick.lo, .int .i64 s.thick.hi, .int .i64 s.depth.lo, .int .i64 s.depth.hi, .int .i64 s.shift.lo, .int .i64 s.shift.hi, .int .i64 s.pitch.lo, .int .i64 s.pitch.hi]] w (Ret (.bool (slatOk s)) w) := by
  have HB := Lib.hid (show Below w.heap.size w (w.alloc (.cells #[.int .i64 s.thick.lo, .int .i64 s.thick.hi, .int .i64 s.depth.lo, .int .i64 s.depth.hi, .int .i64 s.shift.lo, .int .i64 s.shift.hi, .int .i64 s.pitch.lo, .int .i64 s.pitch.hi] 37)) from (Below.refl _ _).alloc (Nat.le_refl _) _)
  have HK := Lib.hid (Blk.new w 37 #[.int .i64 s.thick.lo, .int .i64 s.thick.hi, .int .i64 s.depth.lo, .int .i64 s.depth.hi, .int .i64 s.shift.lo, .int .i64 s.shift.hi, .int .i64 s.pitch.lo, .int .i64 s.pitch.hi])
  have HD : Hid (slatOk s = (withinB ⟨s.thick.lo, s.thick.hi⟩ 1 10000 && withinB ⟨s.depth.lo, s.depth.hi⟩ 0 s.thick.lo && withinB ⟨s.shift.lo, s.shift.hi⟩ (-500) 500 && withinB ⟨s.pitch.lo, s.pitch.hi⟩ (-50) 50)) := Lib.hid rfl
  go_enter Try.func25, Try.ntmps25
  go_wp2_with fail
  generalize World.alloc w _ = V at HB HK ⊢
  refine (rspan5_any _ _ _ _ _).mono ?_
  rintro e W1 ⟨he, hb1⟩
  replace HK := Lib.hid (HK.out.below hb1 HK.out.lt)
  replace HB := Lib.hid (HB.out.trans (hb1.mono HB.out.size))
  clear hb1
  obtain ⟨z1, hz1⟩ : ∃ z, withinB ⟨s.thick.lo, s.thick.hi⟩ 1 10000 = z := ⟨_, rfl⟩
  rw [hz1] at he
  have H0 := Lib.hid hz1
  clear hz1
  subst he
  cases z1 with
  | false =>
    go_wp2_with fail
    go_ret
    exact ⟨ret_bool (Eq.symm (by rw [HD.out, H0.out]; simp)), HB.out⟩
  | true =>
    skip
    have x0 := HK.out.cell 0
    have x2 := HK.out.cell 2
    have x3 := HK.out.cell 3
    go_wp2_with fail
    clear x0 x2 x3
    refine (rspan5_any _ _ _ _ _).mono ?_
    rintro e W1 ⟨he, hb1⟩
    replace HK := Lib.hid (HK.out.below hb1 HK.out.lt)
    replace HB := Lib.hid (HB.out.trans (hb1.mono HB.out.size))
    clear hb1
    obtain ⟨z1, hz1⟩ : ∃ z, withinB ⟨s.depth.lo, s.depth.hi⟩ 0 s.thick.lo = z := ⟨_, rfl⟩
    rw [hz1] at he
    have H1 := Lib.hid hz1
    clear hz1
    subst he
    cases z1 with
    | false =>
      go_wp2_with fail
      go_ret
      exact ⟨ret_bool (Eq.symm (by rw [HD.out, H0.out, H1.out]; simp)), HB.out⟩
    | true =>
      skip
      have x4 := HK.out.cell 4
      have x5 := HK.out.cell 5
      go_wp2_with fail
      clear x4 x5
      refine (rspan5_any _ _ _ _ _).mono ?_
      rintro e W1 ⟨he, hb1⟩
      replace HK := Lib.hid (HK.out.below hb1 HK.out.lt)
      replace HB := Lib.hid (HB.out.trans (hb1.mono HB.out.size))
      clear hb1
      obtain ⟨z1, hz1⟩ : ∃ z, withinB ⟨s.shift.lo, s.shift.hi⟩ (-500) 500 = z := ⟨_, rfl⟩
      rw [hz1] at he
      have H2 := Lib.hid hz1
      clear hz1
      subst he
      cases z1 with
      | false =>
        go_wp2_with fail
        go_ret
        exact ⟨ret_bool (Eq.symm (by rw [HD.out, H0.out, H1.out, H2.out]; simp)), HB.out⟩
      | true =>
        skip
        have x6 := HK.out.cell 6
        have x7 := HK.out.cell 7
        go_wp2_with fail
        clear x6 x7
        refine (rspan5_any _ _ _ _ _).mono ?_
        rintro e W1 ⟨rfl, hb1⟩
        replace HB := Lib.hid (HB.out.trans (hb1.mono HB.out.size))
        clear hb1
        go_wp2_with fail
        go_ret
        exact ⟨ret_bool (by rw [HD.out, H0.out, H1.out, H2.out]; simp), HB.out⟩
end Go.Proofs.Ytfpfafijockfnaa
