/- The law SlatEnds: the walk. -/
import Derived.Test.YtaafmfhpoimjhaaZp
import Derived.Test.YtaafmfhpoimjhaaYn
namespace Go.Proofs.Ytaafmfhpoimjhaa
open Go.RowKit Go.Shelf

theorem meas_lt {N k : Nat} (h : k < N) : N - (intOf (.int .i64 ((k : Int) + 1))).toNat < N - (intOf (.int .i64 (k : Int))).toNat := by
  simp [intOf]; omega
/-- What lies in the boxes of the law. -/
structure EnB (w : World) (j : Jig) (a b : Slat) (W : World) : Prop where
  hb : Below w.heap.size w W
  k4 : Blk W w.heap.size 25 #[.int .i64 j.glue.lo, .int .i64 j.glue.hi, .int .i64 j.lead.lo, .int .i64 j.lead.hi, .int .i64 j.side.lo, .int .i64 j.side.hi, .int .i64 j.height.lo, .int .i64 j.height.hi, .int .i64 j.play, .int .i64 j.grooves]
  k5 : Blk W (w.heap.size + 1) 37 #[.int .i64 a.thick.lo, .int .i64 a.thick.hi, .int .i64 a.depth.lo, .int .i64 a.depth.hi, .int .i64 a.shift.lo, .int .i64 a.shift.hi, .int .i64 a.pitch.lo, .int .i64 a.pitch.hi]
  k6 : Blk W (w.heap.size + 1 + 1) 37 #[.int .i64 b.thick.lo, .int .i64 b.thick.hi, .int .i64 b.depth.lo, .int .i64 b.depth.hi, .int .i64 b.shift.lo, .int .i64 b.shift.hi, .int .i64 b.pitch.lo, .int .i64 b.pitch.hi]
section
variable {w : World} {j : Jig} {a b : Slat} {W W' : World}
theorem EnB.low (h : EnB w j a b W) {B : Nat} (hb : Below B W W') (hB : w.heap.size + 1 + 1 < B) : EnB w j a b W' := ⟨h.hb.trans (hb.mono (by omega)), h.k4.below hb (by omega), h.k5.below hb (by omega), h.k6.below hb (by omega)⟩
theorem EnB.call (h : EnB w j a b W) (hb : Below W.heap.size W W') : EnB w j a b W' := h.low hb h.k6.lt
theorem EnB.start (w : World) (j : Jig) (a b : Slat) : EnB w j a b (((w.alloc (.cells #[.int .i64 j.glue.lo, .int .i64 j.glue.hi, .int .i64 j.lead.lo, .int .i64 j.lead.hi, .int .i64 j.side.lo, .int .i64 j.side.hi, .int .i64 j.height.lo, .int .i64 j.height.hi, .int .i64 j.play, .int .i64 j.grooves] 25)).alloc (.cells #[.int .i64 a.thick.lo, .int .i64 a.thick.hi, .int .i64 a.depth.lo, .int .i64 a.depth.hi, .int .i64 a.shift.lo, .int .i64 a.shift.hi, .int .i64 a.pitch.lo, .int .i64 a.pitch.hi] 37)).alloc (.cells #[.int .i64 b.thick.lo, .int .i64 b.thick.hi, .int .i64 b.depth.lo, .int .i64 b.depth.hi, .int .i64 b.shift.lo, .int .i64 b.shift.hi, .int .i64 b.pitch.lo, .int .i64 b.pitch.hi] 37)) := ⟨by repeat (first | exact Below.refl _ _ | assumption | refine Below.drew ?_ | refine Below.alloc ?_ (by first | omega | (simp only [World.size_alloc]; omega) | simp) _ | refine Below.setCell ?_ (by first | omega | (simp only [World.size_alloc]; omega) | simp) _), ((Blk.new _ _ _).alloc _).alloc _, (blk5 _ _ (by simp) rfl).alloc _, blk5 _ _ (by simp) rfl⟩
end
set_option maxRecDepth 100000 in
set_option maxHeartbeats 16000000 in
theorem ends05_any (w : World) (C : Option Addr) (cx : Nat) (j : Jig) (a b : Slat) (x : List Int) (hx : x.length ≤ 9223372036854775807) (hC : IntSl w w.heap.size C x) :
    Calls Try.prog 6 #[.agg #[.int .i64 j.glue.lo, .int .i64 j.glue.hi, .int .i64 j.lead.lo, .int .i64 j.lead.hi, .int .i64 j.side.lo, .int .i64 j.side.hi, .int .i64 j.height.lo, .int .i64 j.height.hi, .int .i64 j.play, .int .i64 j.grooves], .agg #[.int .i64 a.thick.lo, .int .i64 a.thick.hi, .int .i64 a.depth.lo, .int .i64 a.depth.hi, .int .i64 a.shift.lo, .int .i64 a.shift.hi, .int .i64 a.pitch.lo, .int .i64 a.pitch.hi], .agg #[.int .i64 b.thick.lo, .int .i64 b.thick.hi, .int .i64 b.depth.lo, .int .i64 b.depth.hi, .int .i64 b.shift.lo, .int .i64 b.shift.hi, .int .i64 b.pitch.lo, .int .i64 b.pitch.hi], .slice C x.length cx] w (Ret (.bool true) w) := by
  have HC := Lib.hid hC
  have hx' : (x.length : Int) ≤ 9223372036854775807 := by omega
  have hx0 : (0 : Int) ≤ x.length := by omega
  have HS := Lib.hid (EnB.start w j a b)
  have HXL := Lib.hid hx
  clear hC hx
  go_enter Try.func6, Try.ntmps6
  go_upto_region 1 with fail
  generalize World.alloc (World.alloc (World.alloc w _) _) _ = V at HS ⊢
  by_cases c2 : 14 < x.length
  · have c2' : (14 : Int) < x.length := by omega
    go_wp2_with fail
    refine (alive05_any _).mono ?_; rintro e w9 ⟨rfl, hb9⟩; have HB := Lib.hid (HS.out.hb.trans (hb9.mono HS.out.hb.size)); clear HS hb9; go_wp2_with fail; go_ret; exact ⟨rfl, HB.out⟩
  · have c2' : ¬ (14 : Int) < x.length := by omega
    have jc0 := HS.out.k4.cell 0
    have jc1 := HS.out.k4.cell 1
    have jc2 := HS.out.k4.cell 2
    have jc3 := HS.out.k4.cell 3
    have jc4 := HS.out.k4.cell 4
    have jc5 := HS.out.k4.cell 5
    have jc6 := HS.out.k4.cell 6
    have jc7 := HS.out.k4.cell 7
    have jc8 := HS.out.k4.cell 8
    have jc9 := HS.out.k4.cell 9
    go_wp2_with fail
    refine (rjig5_any j _).mono ?_
    rintro e W1 ⟨rfl, hb⟩
    replace HS := Lib.hid (HS.out.call hb)
    clear hb
    clear jc0 jc1 jc2 jc3 jc4 jc5 jc6 jc7 jc8 jc9
    cases hjk : jigOk j with
    | false =>
      go_wp2_with fail
      refine (alive05_any _).mono ?_; rintro e w9 ⟨rfl, hb9⟩; have HB := Lib.hid (HS.out.hb.trans (hb9.mono HS.out.hb.size)); clear HS hb9; go_wp2_with fail; go_ret; exact ⟨rfl, HB.out⟩
    | true =>
      have sc0 := HS.out.k5.cell 0
      have sc1 := HS.out.k5.cell 1
      have sc2 := HS.out.k5.cell 2
      have sc3 := HS.out.k5.cell 3
      have sc4 := HS.out.k5.cell 4
      have sc5 := HS.out.k5.cell 5
      have sc6 := HS.out.k5.cell 6
      have sc7 := HS.out.k5.cell 7
      go_wp2_with fail
      refine (rslat5_any a _).mono ?_
      rintro e W2 ⟨rfl, hb⟩
      replace HS := Lib.hid (HS.out.call hb)
      clear hb
      clear sc0 sc1 sc2 sc3 sc4 sc5 sc6 sc7
      cases hak : slatOk a with
      | false =>
        go_wp2_with fail
        refine (alive05_any _).mono ?_; rintro e w9 ⟨rfl, hb9⟩; have HB := Lib.hid (HS.out.hb.trans (hb9.mono HS.out.hb.size)); clear HS hb9; go_wp2_with fail; go_ret; exact ⟨rfl, HB.out⟩
      | true =>
        have sc0 := HS.out.k6.cell 0
        have sc1 := HS.out.k6.cell 1
        have sc2 := HS.out.k6.cell 2
        have sc3 := HS.out.k6.cell 3
        have sc4 := HS.out.k6.cell 4
        have sc5 := HS.out.k6.cell 5
        have sc6 := HS.out.k6.cell 6
        have sc7 := HS.out.k6.cell 7
        go_wp2_with fail
        refine (rslat5_any b _).mono ?_
        rintro e W3 ⟨rfl, hb⟩
        replace HS := Lib.hid (HS.out.call hb)
        clear hb
        clear sc0 sc1 sc2 sc3 sc4 sc5 sc6 sc7
        cases hbk : slatOk b with
        | false =>
          go_wp2_with fail
          refine (alive05_any _).mono ?_; rintro e w9 ⟨rfl, hb9⟩; have HB := Lib.hid (HS.out.hb.trans (hb9.mono HS.out.hb.size)); clear HS hb9; go_wp2_with fail; go_ret; exact ⟨rfl, HB.out⟩
        | true =>
          have HOK := Lib.hid (And.intro hjk (And.intro hak hbk))
          have HI := Lib.hid (And.intro (jigIn_of hjk) (And.intro (slatIn_of hak) (slatIn_of hbk)))
          clear hjk hak hbk
          go_upto_region 3 with fail
          have KJ := Lib.hid HS.out.k4
          have KA := Lib.hid HS.out.k5
          have KB := Lib.hid HS.out.k6
          have HGR := Lib.hid (grades5_any j a b C cx x W3 HXL.out (HC.out.on HS.out.hb (Nat.le_refl _)))
          obtain ⟨N, hN⟩ := Int.eq_ofNat_of_zero_le (show 0 ≤ j.grooves by have := HI.out.1.n0; omega)
          obtain ⟨g0, hg0⟩ : ∃ v, (heightS j a b).lo = v := ⟨_, rfl⟩
          obtain ⟨g1, hg1⟩ : ∃ v, (heightS j a b).hi = v := ⟨_, rfl⟩
          have HGL : Hid (graE j a b x = 0 → (graL j a b x).length = N) := Lib.hid fun h => (gra_yes hN h).2
          have HGQ : Hid (graE j a b x = 0 → ∀ k : Nat, k < N → ∀ s0 s1 : Int, (sideS j a b k).lo = s0 → (sideS j a b k).hi = s1 → ∃ g : Int, (graL j a b x)[k]? = some g ∧ ∀ (u v : Int), max s1 (-s0) = u → max g1 (-g0) = v → ∀ (q : Nat) (hq : q < x.length), (u * u + v * v ≤ 4 * x[q] * x[q] ↔ (g ≠ -1 ∧ g ≤ (q : Int))) ∧ (0 ≤ x[q] ∧ x[q] ≤ 1000)) := Lib.hid fun h k hk s0 s1 e0 e1 => gra_q hN h k hk e0 e1 hg0 hg1
          have HGB := Lib.hid (side_bds HI.out.1 HI.out.2.1 HI.out.2.2 hg0 hg1)
          have HLW := Lib.hid (low_wraps HI.out.1 HI.out.2.1 HI.out.2.2 hg0 hg1)
          have HG := Lib.hid (And.intro hg0 hg1)
          have HN := Lib.hid hN
          have HN9 : Hid (1 ≤ N ∧ N ≤ 10) := Lib.hid (by have := HI.out.1.n0; have := HI.out.1.n1; omega)
          clear hg0 hg1 hN
          generalize graE j a b x = ge at *
          generalize graL j a b x = gr at *
          go_wp2_with (first | (with_reducible refine wpList_load_mid (by with_unfolding_all rfl) 25 _ (by with_unfolding_all rfl) _ _ (by with_unfolding_all rfl) [.int .i64 j.glue.lo, .int .i64 j.glue.hi, .int .i64 j.lead.lo, .int .i64 j.lead.hi, .int .i64 j.side.lo, .int .i64 j.side.hi, .int .i64 j.height.lo, .int .i64 j.height.hi, .int .i64 j.play, .int .i64 j.grooves] _ KJ.out.range (by with_unfolding_all rfl) (by with_unfolding_all rfl) (by kernel_rfl) ?_) | (with_reducible refine wpList_load_mid (by with_unfolding_all rfl) 37 _ (by with_unfolding_all rfl) _ _ (by with_unfolding_all rfl) [.int .i64 a.thick.lo, .int .i64 a.thick.hi, .int .i64 a.depth.lo, .int .i64 a.depth.hi, .int .i64 a.shift.lo, .int .i64 a.shift.hi, .int .i64 a.pitch.lo, .int .i64 a.pitch.hi] _ KA.out.range (by with_unfolding_all rfl) (by with_unfolding_all rfl) (by kernel_rfl) ?_) | (with_reducible refine wpList_load_mid (by with_unfolding_all rfl) 37 _ (by with_unfolding_all rfl) _ _ (by with_unfolding_all rfl) [.int .i64 b.thick.lo, .int .i64 b.thick.hi, .int .i64 b.depth.lo, .int .i64 b.depth.hi, .int .i64 b.shift.lo, .int .i64 b.shift.hi, .int .i64 b.pitch.lo, .int .i64 b.pitch.hi] _ KB.out.range (by with_unfolding_all rfl) (by with_unfolding_all rfl) (by kernel_rfl) ?_))
          refine HGR.out.mono ?_
          rintro e W4 ⟨A2, c3, rfl, hown, hb⟩
          replace HS := Lib.hid (HS.out.call hb)
          have HOW := Lib.hid (show PlanAt W4 (.slice A2 gr.length c3) gr from own_low hown (Nat.zero_le _))
          have hgl : gr.length ≤ 9223372036854775807 := le_of_own hown
          have hgl0 : (0 : Int) ≤ gr.length := by omega
          have hgl1 : (gr.length : Int) ≤ 9223372036854775807 := by omega
          clear hb KJ KA KB HGR hown hgl
          go_upto_region 4 with fail
          go_cut [69] (fun s wx => s = .bool false ∧ Hid (EnB w j a b wx) ∧ Hid (PlanAt wx (.slice A2 gr.length c3) gr))
          case first =>
            have j9 := HS.out.k4.cell 9
            by_cases hge : ge = 0
            · have hge' : (ge == 0) = true := by rw [beq_iff_eq]; exact hge
              have hll : ((gr.length : Int) == j.grooves) = true := by rw [beq_iff_eq, HGL.out hge, HN.out]
              have hll' : (gr.length : Int) = j.grooves := by rw [HGL.out hge, HN.out]
              clear hge
              go_wp2_with fail
              go_meet
              exact ⟨rfl, HS, HOW⟩
            · have hge' : (ge == 0) = false := by rw [beq_eq_false_iff_ne]; exact hge
              go_wp2_with fail
              go_meet
              exact ⟨rfl, HS, HOW⟩
          case rest => as_aux_lemma =>
            obtain ⟨rfl, HS, HOW⟩ := hcut
            go_upto_region 6 with fail
            have jc0 := HS.out.k4.cell 0
            have jc1 := HS.out.k4.cell 1
            have jc2 := HS.out.k4.cell 2
            have jc3 := HS.out.k4.cell 3
            have jc4 := HS.out.k4.cell 4
            have jc5 := HS.out.k4.cell 5
            have jc6 := HS.out.k4.cell 6
            have jc7 := HS.out.k4.cell 7
            have jc8 := HS.out.k4.cell 8
            have jc9 := HS.out.k4.cell 9
            have ac0 := HS.out.k5.cell 0
            have ac1 := HS.out.k5.cell 1
            have ac2 := HS.out.k5.cell 2
            have ac3 := HS.out.k5.cell 3
            have ac4 := HS.out.k5.cell 4
            have ac5 := HS.out.k5.cell 5
            have ac6 := HS.out.k5.cell 6
            have ac7 := HS.out.k5.cell 7
            have bc0 := HS.out.k6.cell 0
            have bc1 := HS.out.k6.cell 1
            have bc2 := HS.out.k6.cell 2
            have bc3 := HS.out.k6.cell 3
            have bc4 := HS.out.k6.cell 4
            have bc5 := HS.out.k6.cell 5
            have bc6 := HS.out.k6.cell 6
            have bc7 := HS.out.k6.cell 7
            obtain ⟨⟨w1, w2, w3, w4, w5, w6, w7⟩, w8, w9, w10, w11, w12, w13, w14⟩ := HLW.out
            go_upto_region 8 with fail
            clear w1 w2 w3 w4 w5 w6 w7 w8 w9 w10 w11 w12 w13 w14
            clear jc0 jc1 jc2 jc3 jc4 jc5 jc6 jc7 jc8 jc9 ac0 ac1 ac2 ac3 ac4 ac5 ac6 ac7 bc0 bc1 bc2 bc3 bc4 bc5 bc6 bc7
            have j9 := HS.out.k4.cell 9
            go_wp2_with fail
            clear j9
            go_loopw [122] (fun i wr => ∃ k : Nat, k ≤ N ∧ i = .int .i64 k ∧ Hid (EnB w j a b wr) ∧ Hid (PlanAt wr (.slice A2 gr.length c3) gr)) (fun i _ => N - (intOf i).toNat)
            case atStart => exact ⟨0, by omega, rfl, HS, HOW⟩
            case round => as_aux_lemma =>
              clear HS HOW
              obtain ⟨k, hk, rfl, HS, HOW⟩ := hrel
              by_cases hlt : k < N
              · have hkg : (k : Int) < j.grooves := by have := HN.out; omega
                have hk0 : (0 : Int) ≤ k := by omega
                have hk9 : (k : Int) ≤ 9 := by have := HN9.out; omega
                have hkb : (k : Int) ≤ 9 := hk9
                have KJ := Lib.hid HS.out.k4
                have KA := Lib.hid HS.out.k5
                have KB := Lib.hid HS.out.k6
                obtain ⟨s0, hs0⟩ : ∃ v, (sideS j a b k).lo = v := ⟨_, rfl⟩
                obtain ⟨s1, hs1⟩ : ∃ v, (sideS j a b k).hi = v := ⟨_, rfl⟩
                have HOF : Hid (∀ W, Calls Try.prog 19 #[.agg #[.int .i64 j.glue.lo, .int .i64 j.glue.hi, .int .i64 j.lead.lo, .int .i64 j.lead.hi, .int .i64 j.side.lo, .int .i64 j.side.hi, .int .i64 j.height.lo, .int .i64 j.height.hi, .int .i64 j.play, .int .i64 j.grooves], .agg #[.int .i64 a.thick.lo, .int .i64 a.thick.hi, .int .i64 a.depth.lo, .int .i64 a.depth.hi, .int .i64 a.shift.lo, .int .i64 a.shift.hi, .int .i64 a.pitch.lo, .int .i64 a.pitch.hi], .agg #[.int .i64 b.thick.lo, .int .i64 b.thick.hi, .int .i64 b.depth.lo, .int .i64 b.depth.hi, .int .i64 b.shift.lo, .int .i64 b.shift.hi, .int .i64 b.pitch.lo, .int .i64 b.pitch.hi], .int .i64 (k : Int)] W (Ret (.tuple #[.agg #[.int .i64 s0, .int .i64 s1], .agg #[.int .i64 g0, .int .i64 g1], .int .i64 0]) W)) := Lib.hid fun W => by
                  have h9 := off5_any j a b (k : Int) W
                  have e9 : offE j a b k = 0 := told_ok HOK.out.1 HOK.out.2.1 HOK.out.2.2 _ (fromB_iff.2 ⟨hk0, by omega⟩)
                  rw [show offS j a b k = sideS j a b k from if_pos e9, show offH j a b k = heightS j a b from if_pos e9, e9, hs0, hs1, HG.out.1, HG.out.2] at h9
                  exact h9
                have HSW := Lib.hid (side_wraps HI.out.1 HI.out.2.1 HI.out.2.2 hk0 hk9 hs0 hs1)
                have HGK : Hid (ge = 0 → ∃ g : Int, gr[k]? = some g ∧ ∀ (u v : Int), max s1 (-s0) = u → max g1 (-g0) = v → ∀ (q : Nat) (hq : q < x.length), (u * u + v * v ≤ 4 * x[q] * x[q] ↔ (g ≠ -1 ∧ g ≤ (q : Int))) ∧ (0 ≤ x[q] ∧ x[q] ≤ 1000)) := Lib.hid fun h => HGQ.out h k hlt s0 s1 hs0 hs1
                clear hs0 hs1 hk9
                go_wp2_with (first | (with_reducible refine wpList_load_mid (by with_unfolding_all rfl) 25 _ (by with_unfolding_all rfl) _ _ (by with_unfolding_all rfl) [.int .i64 j.glue.lo, .int .i64 j.glue.hi, .int .i64 j.lead.lo, .int .i64 j.lead.hi, .int .i64 j.side.lo, .int .i64 j.side.hi, .int .i64 j.height.lo, .int .i64 j.height.hi, .int .i64 j.play, .int .i64 j.grooves] _ KJ.out.range (by with_unfolding_all rfl) (by with_unfolding_all rfl) (by kernel_rfl) ?_) | (with_reducible refine wpList_load_mid (by with_unfolding_all rfl) 37 _ (by with_unfolding_all rfl) _ _ (by with_unfolding_all rfl) [.int .i64 a.thick.lo, .int .i64 a.thick.hi, .int .i64 a.depth.lo, .int .i64 a.depth.hi, .int .i64 a.shift.lo, .int .i64 a.shift.hi, .int .i64 a.pitch.lo, .int .i64 a.pitch.hi] _ KA.out.range (by with_unfolding_all rfl) (by with_unfolding_all rfl) (by kernel_rfl) ?_) | (with_reducible refine wpList_load_mid (by with_unfolding_all rfl) 37 _ (by with_unfolding_all rfl) _ _ (by with_unfolding_all rfl) [.int .i64 b.thick.lo, .int .i64 b.thick.hi, .int .i64 b.depth.lo, .int .i64 b.depth.hi, .int .i64 b.shift.lo, .int .i64 b.shift.hi, .int .i64 b.pitch.lo, .int .i64 b.pitch.hi] _ KB.out.range (by with_unfolding_all rfl) (by with_unfolding_all rfl) (by kernel_rfl) ?_))
                refine (HOF.out _).mono ?_
                rintro e W9 ⟨rfl, hb⟩
                replace HS := Lib.hid (HS.out.call hb)
                replace HOW := Lib.hid (HOW.out.below hb)
                clear hb KJ KA KB HOF
                have hb9 : Below W9.heap.size W9 ((W9.alloc (.cells #[.int .i64 s0, .int .i64 s1] 23)).alloc (.cells #[.int .i64 g0, .int .i64 g1] 23)) := by repeat (first | exact Below.refl _ _ | assumption | refine Below.drew ?_ | refine Below.alloc ?_ (by first | omega | (simp only [World.size_alloc]; omega) | simp) _ | refine Below.setCell ?_ (by first | omega | (simp only [World.size_alloc]; omega) | simp) _)
                replace HS := Lib.hid (HS.out.call hb9)
                replace HOW := Lib.hid (HOW.out.below hb9)
                have K14 : Hid (Blk ((W9.alloc (.cells #[.int .i64 s0, .int .i64 s1] 23)).alloc (.cells #[.int .i64 g0, .int .i64 g1] 23)) W9.heap.size 23 #[.int .i64 s0, .int .i64 s1]) := Lib.hid ((Blk.new _ _ _).alloc _)
                have K15 : Hid (Blk ((W9.alloc (.cells #[.int .i64 s0, .int .i64 s1] 23)).alloc (.cells #[.int .i64 g0, .int .i64 g1] 23)) (W9.heap.size + 1) 23 #[.int .i64 g0, .int .i64 g1]) := Lib.hid (blk5 _ _ (by simp) rfl)
                clear hb9
                go_upto_region 12 with fail
                generalize World.alloc (World.alloc W9 _) _ = V9 at HS HOW K14 K15 ⊢
                generalize W9.heap.size = q14 at K14 K15 ⊢
                have jc4 := HS.out.k4.cell 4
                have jc5 := HS.out.k4.cell 5
                have ac4 := HS.out.k5.cell 4
                have ac5 := HS.out.k5.cell 5
                have ac6 := HS.out.k5.cell 6
                have ac7 := HS.out.k5.cell 7
                have bc4 := HS.out.k6.cell 4
                have bc5 := HS.out.k6.cell 5
                have bc6 := HS.out.k6.cell 6
                have bc7 := HS.out.k6.cell 7
                obtain ⟨⟨w1, w2, w3, w4, w5, w6, w7⟩, ⟨w8, w9, w10, w11, w12, w13, w14⟩, hsb⟩ := HSW.out
                go_upto_region 14 with fail
                clear w1 w2 w3 w4 w5 w6 w7 w8 w9 w10 w11 w12 w13 w14 HSW
                clear jc4 jc5 ac4 ac5 ac6 ac7 bc4 bc5 bc6 bc7
                replace HS := Lib.hid (HS.out.call (Below.refl _ _).drew)
                replace HOW := Lib.hid (HOW.out.below (Below.refl _ _).drew)
                replace K14 := Lib.hid (K14.out.below (Below.refl _ _).drew K14.out.lt)
                replace K15 := Lib.hid (K15.out.below (Below.refl _ _).drew K15.out.lt)
                have HSB := Lib.hid hsb
                clear hsb
                refine wp_region_held_drew (S := fun W9 => Blk W9 q14 23 #[.int .i64 s0, .int .i64 s1] ∧ Blk W9 (q14 + 1) 23 #[.int .i64 g0, .int .i64 g1]) (by kernel_rfl) ⟨K14.out, K15.out⟩ (fun hH0 => ?_)
                generalize World.drew _ = V0 at *
                simp only [List.size_toArray, List.length_cons, List.length_nil, Nat.reduceAdd, Array.replicate_succ, Array.replicate_zero, List.push_toArray, List.nil_append, List.cons_append]
                refine wpAnyH_take (i := 0 ) (v := ?_) rfl (by kernel_rfl) (by kernel_rfl) (by kernel_rfl) (fun _ _ _ h => h) (Or.inl ⟨by rfl, ?_⟩) (by assumption) ?_; rotate_left; (· (intro w0 hSw; have a0 := hSw.1.cell 0; have a1 := hSw.1.cell 1; have b0 := hSw.2.cell 0; have b1 := hSw.2.cell 1; clear hSw; go_simp); first | done | with_reducible rfl); (try simp only [Act.put, List.getElem_toArray, List.getElem_cons_zero, List.setIfInBounds_toArray, List.set_cons_zero, List.set_cons_succ])
                refine wpAnyH_take (i := 1 ) (v := ?_) rfl (by kernel_rfl) (by kernel_rfl) (by kernel_rfl) (fun _ _ _ h => h) (Or.inl ⟨by rfl, ?_⟩) (by assumption) ?_; rotate_left; (· (intro w0 hSw; have a0 := hSw.1.cell 0; have a1 := hSw.1.cell 1; have b0 := hSw.2.cell 0; have b1 := hSw.2.cell 1; clear hSw; go_simp); first | done | with_reducible rfl); (try simp only [Act.put, List.getElem_toArray, List.getElem_cons_succ, List.getElem_cons_zero, List.setIfInBounds_toArray, List.set_cons_zero, List.set_cons_succ])
                refine wpAnyH_take (i := 2 ) (v := ?_) rfl (by kernel_rfl) (by kernel_rfl) (by kernel_rfl) (fun _ _ _ h => h) (Or.inl ⟨by rfl, ?_⟩) (by assumption) ?_; rotate_left; (· (intro w0 hSw; have a0 := hSw.1.cell 0; have a1 := hSw.1.cell 1; have b0 := hSw.2.cell 0; have b1 := hSw.2.cell 1; clear hSw; go_simp); first | done | with_reducible rfl); (try simp only [Act.put, List.getElem_toArray, List.getElem_cons_succ, List.getElem_cons_zero, List.setIfInBounds_toArray, List.set_cons_zero, List.set_cons_succ])
                refine wpAnyH_take (i := 3 ) (v := ?_) rfl (by kernel_rfl) (by kernel_rfl) (by kernel_rfl) (fun _ _ _ h => h) (Or.inl ⟨by rfl, ?_⟩) (by assumption) ?_; rotate_left; (· (intro w0 hSw; have a0 := hSw.1.cell 0; have a1 := hSw.1.cell 1; have b0 := hSw.2.cell 0; have b1 := hSw.2.cell 1; clear hSw; go_simp); first | done | with_reducible rfl); (try simp only [Act.put, List.getElem_toArray, List.getElem_cons_succ, List.getElem_cons_zero, List.setIfInBounds_toArray, List.set_cons_zero, List.set_cons_succ])
                refine wpAnyH_take (i := 4 ) (v := ?_) rfl (by kernel_rfl) (by kernel_rfl) (by kernel_rfl) (fun _ _ _ h => h) (Or.inl ⟨by rfl, ?_⟩) (by assumption) ?_; rotate_left; (· (intro w0 hSw; have a0 := hSw.1.cell 0; have a1 := hSw.1.cell 1; have b0 := hSw.2.cell 0; have b1 := hSw.2.cell 1; clear hSw; go_simp); first | done | with_reducible rfl); (try simp only [Act.put, List.getElem_toArray, List.getElem_cons_succ, List.getElem_cons_zero, List.setIfInBounds_toArray, List.set_cons_zero, List.set_cons_succ])
                refine wpAnyH_take (i := 5 ) (v := ?_) rfl (by kernel_rfl) (by kernel_rfl) (by kernel_rfl) (fun _ _ _ h => h) (Or.inl ⟨by rfl, ?_⟩) (by assumption) ?_; rotate_left; (· (intro w0 hSw; have a0 := hSw.1.cell 0; have a1 := hSw.1.cell 1; have b0 := hSw.2.cell 0; have b1 := hSw.2.cell 1; clear hSw; go_simp); first | done | with_reducible rfl); (try simp only [Act.put, List.getElem_toArray, List.getElem_cons_succ, List.getElem_cons_zero, List.setIfInBounds_toArray, List.set_cons_zero, List.set_cons_succ])
                refine wpAnyH_ready (rs := [6]) (by kernel_rfl) (by simp) ?_
                refine AllReadyH.cons (by simp only [List.getElem?_toArray, List.getElem?_cons_succ, List.getElem?_cons_zero]; rfl) (fun K hK => ?_) AllReadyH.nil
                go_simp
                refine (span46_any _ _ _).mono ?_
                rintro e X ⟨rfl, hb⟩
                replace HS := Lib.hid (HS.out.call hb)
                replace HOW := Lib.hid (HOW.out.below hb)
                replace K14 := Lib.hid (K14.out.below hb K14.out.lt)
                replace K15 := Lib.hid (K15.out.below hb K15.out.lt)
                clear hb
                refine hK.out _ _ ⟨K14.out, K15.out⟩ (fun hH1 => ?_)
                clear hK K
                try simp only [List.setIfInBounds_toArray, List.set_cons_zero, List.set_cons_succ]
                refine wpAnyH_take (i := 7 ) (v := ?_) rfl (by kernel_rfl) (by kernel_rfl) (by kernel_rfl) (fun _ _ _ h => h) (Or.inl ⟨by rfl, ?_⟩) (by assumption) ?_; rotate_left; (· (intro w0 hSw; have a0 := hSw.1.cell 0; have a1 := hSw.1.cell 1; have b0 := hSw.2.cell 0; have b1 := hSw.2.cell 1; clear hSw; go_simp); first | done | with_reducible rfl); (try simp only [Act.put, List.getElem_toArray, List.getElem_cons_succ, List.getElem_cons_zero, List.setIfInBounds_toArray, List.set_cons_zero, List.set_cons_succ])
                refine wpAnyH_take (i := 8 ) (v := ?_) rfl (by kernel_rfl) (by kernel_rfl) (by kernel_rfl) (fun _ _ _ h => h) (Or.inl ⟨by rfl, ?_⟩) (by assumption) ?_; rotate_left; (· (intro w0 hSw; have a0 := hSw.1.cell 0; have a1 := hSw.1.cell 1; have b0 := hSw.2.cell 0; have b1 := hSw.2.cell 1; clear hSw; go_simp); first | done | with_reducible rfl); (try simp only [Act.put, List.getElem_toArray, List.getElem_cons_succ, List.getElem_cons_zero, List.setIfInBounds_toArray, List.set_cons_zero, List.set_cons_succ])
                refine wpAnyH_take (i := 9 ) (v := ?_) rfl (by kernel_rfl) (by kernel_rfl) (by kernel_rfl) (fun _ _ _ h => h) (Or.inl ⟨by rfl, ?_⟩) (by assumption) ?_; rotate_left; (· (intro w0 hSw; have a0 := hSw.1.cell 0; have a1 := hSw.1.cell 1; have b0 := hSw.2.cell 0; have b1 := hSw.2.cell 1; clear hSw; go_simp); first | done | with_reducible rfl); (try simp only [Act.put, List.getElem_toArray, List.getElem_cons_succ, List.getElem_cons_zero, List.setIfInBounds_toArray, List.set_cons_zero, List.set_cons_succ])
                refine wpAnyH_take (i := 10 ) (v := ?_) rfl (by kernel_rfl) (by kernel_rfl) (by kernel_rfl) (fun _ _ _ h => h) (Or.inl ⟨by rfl, ?_⟩) (by assumption) ?_; rotate_left; (· (intro w0 hSw; have a0 := hSw.1.cell 0; have a1 := hSw.1.cell 1; have b0 := hSw.2.cell 0; have b1 := hSw.2.cell 1; clear hSw; go_simp); first | done | with_reducible rfl); (try simp only [Act.put, List.getElem_toArray, List.getElem_cons_succ, List.getElem_cons_zero, List.setIfInBounds_toArray, List.set_cons_zero, List.set_cons_succ])
                refine wpAnyH_take (i := 11 ) (v := ?_) rfl (by kernel_rfl) (by kernel_rfl) (by kernel_rfl) (fun _ _ _ h => h) (Or.inl ⟨by rfl, ?_⟩) (by assumption) ?_; rotate_left; (· (intro w0 hSw; have a0 := hSw.1.cell 0; have a1 := hSw.1.cell 1; have b0 := hSw.2.cell 0; have b1 := hSw.2.cell 1; clear hSw; go_simp); first | done | with_reducible rfl); (try simp only [Act.put, List.getElem_toArray, List.getElem_cons_succ, List.getElem_cons_zero, List.setIfInBounds_toArray, List.set_cons_zero, List.set_cons_succ])
                refine wpAnyH_take (i := 12 ) (v := ?_) rfl (by kernel_rfl) (by kernel_rfl) (by kernel_rfl) (fun _ _ _ h => h) (Or.inl ⟨by rfl, ?_⟩) (by assumption) ?_; rotate_left; (· (intro w0 hSw; have a0 := hSw.1.cell 0; have a1 := hSw.1.cell 1; have b0 := hSw.2.cell 0; have b1 := hSw.2.cell 1; clear hSw; go_simp); first | done | with_reducible rfl); (try simp only [Act.put, List.getElem_toArray, List.getElem_cons_succ, List.getElem_cons_zero, List.setIfInBounds_toArray, List.set_cons_zero, List.set_cons_succ])
                refine wpAnyH_ready (rs := [13]) (by kernel_rfl) (by simp) ?_
                refine AllReadyH.cons (by simp only [List.getElem?_toArray, List.getElem?_cons_succ, List.getElem?_cons_zero]; rfl) (fun K hK => ?_) AllReadyH.nil
                go_simp
                refine (span46_any _ _ _).mono ?_
                rintro e X ⟨rfl, hb⟩
                replace HS := Lib.hid (HS.out.call hb)
                replace HOW := Lib.hid (HOW.out.below hb)
                replace K14 := Lib.hid (K14.out.below hb K14.out.lt)
                replace K15 := Lib.hid (K15.out.below hb K15.out.lt)
                clear hb
                refine hK.out _ _ ⟨K14.out, K15.out⟩ (fun hH2 => ?_)
                clear hK K
                try simp only [List.setIfInBounds_toArray, List.set_cons_zero, List.set_cons_succ]
                refine wpAnyH_take (i := 14 ) (v := ?_) rfl (by kernel_rfl) (by kernel_rfl) (by kernel_rfl) (fun _ _ _ h => h) (Or.inl ⟨by rfl, ?_⟩) (by assumption) ?_; rotate_left; (· (intro w0 hSw; have a0 := hSw.1.cell 0; have a1 := hSw.1.cell 1; have b0 := hSw.2.cell 0; have b1 := hSw.2.cell 1; clear hSw; go_simp); first | done | with_reducible rfl); (try simp only [Act.put, List.getElem_toArray, List.getElem_cons_succ, List.getElem_cons_zero, List.setIfInBounds_toArray, List.set_cons_zero, List.set_cons_succ])
                refine wpAnyH_take (i := 15 ) (v := ?_) rfl (by kernel_rfl) (by kernel_rfl) (by kernel_rfl) (fun _ _ _ h => h) (Or.inl ⟨by rfl, ?_⟩) (by assumption) ?_; rotate_left; (· (intro w0 hSw; have a0 := hSw.1.cell 0; have a1 := hSw.1.cell 1; have b0 := hSw.2.cell 0; have b1 := hSw.2.cell 1; clear hSw; go_simp); first | done | with_reducible rfl); (try simp only [Act.put, List.getElem_toArray, List.getElem_cons_succ, List.getElem_cons_zero, List.setIfInBounds_toArray, List.set_cons_zero, List.set_cons_succ])
                refine wpAnyH_done (by kernel_rfl) ?_ _
                clear K14 K15
                by_cases hge : ge = 0
                · have hge' : (ge == 0) = true := by rw [beq_iff_eq]; exact hge
                  obtain ⟨gk, hgk, hiff⟩ := HGK.out hge
                  have hgl := HGL.out hge
                  have hkl : k < gr.length := by omega
                  have hkl' : (k : Int) < gr.length := by omega
                  obtain ⟨g9, cap9, he9, hg9, hat9⟩ := plan_cells HOW.out (by intro e; rw [e] at hkl; simp at hkl)
                  have hA2 : A2 = some ⟨g9, 0, none⟩ := by cases he9; rfl
                  have hc9 := hat9 k (.int .i64 gk) (by simp [intsV, hgk])
                  have hc9' : X.cell? ⟨g9, k, none⟩ = some (.int .i64 gk) := by simpa [Addr.add_mid] using hc9
                  obtain ⟨u, hu⟩ : ∃ u, max s1 (-s0) = u := ⟨_, rfl⟩
                  obtain ⟨v, hv⟩ : ∃ v, max g1 (-g0) = v := ⟨_, rfl⟩
                  have HSQ : Hid (∀ lim : Int, 0 ≤ lim ∧ lim ≤ 1000 → IntKind.i64.wrap (u * u) = u * u ∧ IntKind.i64.wrap (v * v) = v * v ∧ IntKind.i64.wrap (u * u + v * v) = u * u + v * v ∧ IntKind.i64.wrap (4 * lim) = 4 * lim ∧ IntKind.i64.wrap (4 * lim * lim) = 4 * lim * lim) := Lib.hid fun lim hl => sq_wraps HSB.out HGB.out hu hv hl
                  have HIF := Lib.hid (hiff u v hu hv)
                  have wn0 : IntKind.i64.wrap (-s0) = -s0 := wrz (by have := HSB.out; omega) (by have := HSB.out; omega)
                  have wn1 : IntKind.i64.wrap (-g0) = -g0 := wrz (by have := HGB.out; omega) (by have := HGB.out; omega)
                  clear hgk hiff hgl hkl he9 hat9 hc9 HGK
                  go_upto_region 18 with fail
                  clear hu hv wn0 wn1 hge
                  go_wp2_with fail
                  go_loop [210] (fun i => ∃ q : Nat, q ≤ x.length ∧ i = .int .i64 q) (fun i => x.length - (intOf i).toNat)
                  case atStart => exact ⟨0, by omega, rfl⟩
                  case round =>
                    obtain ⟨q, hq, rfl⟩ := hrel
                    by_cases hlq : q < x.length
                    · have hq0 : (0 : Int) ≤ q := by omega
                      have hq1 : (q : Int) < x.length := by omega
                      obtain ⟨bC, oC, hCe, hbC, hatC⟩ := HC.out (by intro e; rw [e] at hlq; simp at hlq)
                      have hlc := hatC q hlq
                      rw [← HS.out.hb.cell (p := ⟨bC, _, none⟩) hbC] at hlc
                      obtain ⟨hi2, hxq⟩ := HIF.out q hlq
                      generalize x[q] = lim at *
                      obtain ⟨w1, w2, w3, w4, w5⟩ := HSQ.out lim hxq
                      clear hatC hxq
                      by_cases hin : u * u + v * v ≤ 4 * lim * lim
                      · obtain ⟨h1, h2⟩ := hi2.1 hin
                        have h1' : (gk == -1) = false := by rw [beq_eq_false_iff_ne]; exact h1
                        clear hi2 h1
                        go_upto_region 23 with fail
                        have hne : (gk != -1) = true := by rw [bne, h1']; rfl
                        have hde : decide (gk ≤ (q : Int)) = true := decide_eq_true h2
                        have hdi : decide (u * u + v * v ≤ 4 * lim * lim) = true := decide_eq_true hin
                        clear w1 w2 w3 w4 w5 hlc hc9' hin
                        go_wp2_with fail
                        exact ⟨⟨q + 1, by omega, by go_num⟩, meas_lt hlq⟩
                      · have _ : True := trivial
                        by_cases h1 : gk = -1
                        · have h1' : (gk == -1) = true := by rw [beq_iff_eq]; exact h1
                          have hdi : decide (u * u + v * v ≤ 4 * lim * lim) = false := decide_eq_false hin
                          clear hi2
                          subst h1
                          go_upto_region 23 with fail
                          clear w1 w2 w3 w4 w5 hlc hc9' hin
                          go_wp2_with fail
                          exact ⟨⟨q + 1, by omega, by go_num⟩, meas_lt hlq⟩
                        · have h1' : (gk == -1) = false := by rw [beq_eq_false_iff_ne]; exact h1
                          have h2 : ¬ gk ≤ (q : Int) := fun h => hin (hi2.2 ⟨h1, h⟩)
                          have hdi : decide (u * u + v * v ≤ 4 * lim * lim) = false := decide_eq_false hin
                          have hne : (gk != -1) = true := by rw [bne, h1']; rfl
                          have hde : decide (gk ≤ (q : Int)) = false := decide_eq_false h2
                          clear hi2 h1
                          go_upto_region 23 with fail
                          clear w1 w2 w3 w4 w5 hlc hc9' hin
                          go_wp2_with fail
                          exact ⟨⟨q + 1, by omega, by go_num⟩, meas_lt hlq⟩
                    · have _ : True := trivial
                      obtain rfl : q = x.length := by omega
                      have hq1 : ¬ (x.length : Int) < x.length := by omega
                      go_wp2_with fail
                      go_roundw
                      case rel => exact ⟨k + 1, Nat.succ_le_of_lt hlt, by go_num, HS, HOW⟩
                      case measure => first | exact meas_lt hlt | (simp [intOf]; omega)
                · have hge' : (ge == 0) = false := by rw [beq_eq_false_iff_ne]; exact hge
                  clear HGK
                  go_wp2_with fail
                  go_roundw
                  case rel => exact ⟨k + 1, Nat.succ_le_of_lt hlt, by go_num, HS, HOW⟩
                  case measure => first | exact meas_lt hlt | (simp [intOf]; omega)
              · obtain rfl : N = k := by omega
                have hkg : ¬ (N : Int) < j.grooves := by have := HN.out; omega
                have hkg' : j.grooves ≤ (N : Int) := by have := HN.out; omega
                obtain ⟨al, hal⟩ : ∃ v, alwaysB j a b = v := ⟨_, rfl⟩
                obtain ⟨pe, hpe⟩ : ∃ v, perhapsB j a b = v := ⟨_, rfl⟩
                obtain ⟨l, hl⟩ : ∃ v, j.grooves - 1 = v := ⟨_, rfl⟩
                obtain ⟨f, hf⟩ : ∃ v, max (a.shift.hi - b.shift.lo) (b.shift.hi - a.shift.lo) = v := ⟨_, rfl⟩
                obtain ⟨en, hen⟩ : ∃ v, max (a.shift.hi - b.shift.lo + l * (a.pitch.hi - b.pitch.lo)) (b.shift.hi - a.shift.lo + l * (b.pitch.hi - a.pitch.lo)) = v := ⟨_, rfl⟩
                obtain ⟨lf, hlf⟩ : ∃ v, max (-j.play) (a.shift.lo - b.shift.hi) = v := ⟨_, rfl⟩
                obtain ⟨ri, hri⟩ : ∃ v, min j.play (a.shift.hi - b.shift.lo) = v := ⟨_, rfl⟩
                have HAL : Hid (al = true ↔ (f ≤ j.play ∧ en ≤ j.play) ∧ j.lead.hi ≤ a.depth.lo + b.depth.lo + j.glue.lo) := Lib.hid (by rw [← hal, ← hf, ← hen]; exact always_iff HI.out.1 HI.out.2.1 HI.out.2.2 hl)
                have HPE : Hid (pe = true ↔ ((lf ≤ ri ∧ lf + l * (a.pitch.lo - b.pitch.hi) ≤ j.play) ∧ -j.play ≤ ri + l * (a.pitch.hi - b.pitch.lo)) ∧ j.lead.lo ≤ a.depth.hi + b.depth.hi + j.glue.hi) := Lib.hid (by rw [← hpe]; exact perhaps_iff HI.out.1 HI.out.2.1 HI.out.2.2 hl hlf.symm hri.symm)
                have HAP : Hid (al = true → pe = true) := Lib.hid (by rw [← hal, ← hpe]; exact always_perhaps HI.out.1 HI.out.2.1 HI.out.2.2)
                have HCL : Hid (∀ W, Calls Try.prog 22 #[.agg #[.int .i64 j.glue.lo, .int .i64 j.glue.hi, .int .i64 j.lead.lo, .int .i64 j.lead.hi, .int .i64 j.side.lo, .int .i64 j.side.hi, .int .i64 j.height.lo, .int .i64 j.height.hi, .int .i64 j.play, .int .i64 j.grooves], .agg #[.int .i64 a.thick.lo, .int .i64 a.thick.hi, .int .i64 a.depth.lo, .int .i64 a.depth.hi, .int .i64 a.shift.lo, .int .i64 a.shift.hi, .int .i64 a.pitch.lo, .int .i64 a.pitch.hi], .agg #[.int .i64 b.thick.lo, .int .i64 b.thick.hi, .int .i64 b.depth.lo, .int .i64 b.depth.hi, .int .i64 b.shift.lo, .int .i64 b.shift.hi, .int .i64 b.pitch.lo, .int .i64 b.pitch.hi]] W (Ret (.tuple #[.int .i64 (if al = true then 2 else if pe = true then 1 else 0), .int .i64 0]) W)) := Lib.hid fun W => by
                  have h9 := closesN_any j a b W
                  have e9 : cloE j a b = 0 := told_ok HOK.out.1 HOK.out.2.1 HOK.out.2.2 true rfl
                  rw [show cloN j a b = closesN j a b from if_pos e9, e9] at h9
                  unfold closesN at h9
                  rw [hal, hpe] at h9
                  exact h9
                have HEW := Lib.hid (end_wraps HI.out.1 HI.out.2.1 HI.out.2.2 hl)
                have HLR := Lib.hid (And.intro hlf hri)
                have HF := Lib.hid (And.intro hf hen)
                obtain ⟨cn, hcn⟩ : ∃ v : Int, (if al = true then 2 else if pe = true then 1 else 0) = v := ⟨_, rfl⟩
                rw [hcn] at HCL
                have HCN := Lib.hid hcn
                clear hal hpe hl hf hen hlf hri hcn HOW HGL HGQ HGB HG HLW
                have KJ := Lib.hid HS.out.k4
                have KA := Lib.hid HS.out.k5
                have KB := Lib.hid HS.out.k6
                go_wp2_with (first | (with_reducible refine wpList_load_mid (by with_unfolding_all rfl) 25 _ (by with_unfolding_all rfl) _ _ (by with_unfolding_all rfl) [.int .i64 j.glue.lo, .int .i64 j.glue.hi, .int .i64 j.lead.lo, .int .i64 j.lead.hi, .int .i64 j.side.lo, .int .i64 j.side.hi, .int .i64 j.height.lo, .int .i64 j.height.hi, .int .i64 j.play, .int .i64 j.grooves] _ KJ.out.range (by with_unfolding_all rfl) (by with_unfolding_all rfl) (by kernel_rfl) ?_) | (with_reducible refine wpList_load_mid (by with_unfolding_all rfl) 37 _ (by with_unfolding_all rfl) _ _ (by with_unfolding_all rfl) [.int .i64 a.thick.lo, .int .i64 a.thick.hi, .int .i64 a.depth.lo, .int .i64 a.depth.hi, .int .i64 a.shift.lo, .int .i64 a.shift.hi, .int .i64 a.pitch.lo, .int .i64 a.pitch.hi] _ KA.out.range (by with_unfolding_all rfl) (by with_unfolding_all rfl) (by kernel_rfl) ?_) | (with_reducible refine wpList_load_mid (by with_unfolding_all rfl) 37 _ (by with_unfolding_all rfl) _ _ (by with_unfolding_all rfl) [.int .i64 b.thick.lo, .int .i64 b.thick.hi, .int .i64 b.depth.lo, .int .i64 b.depth.hi, .int .i64 b.shift.lo, .int .i64 b.shift.hi, .int .i64 b.pitch.lo, .int .i64 b.pitch.hi] _ KB.out.range (by with_unfolding_all rfl) (by with_unfolding_all rfl) (by kernel_rfl) ?_))
                refine (HCL.out _).mono ?_
                rintro e W8 ⟨rfl, hb⟩
                replace HS := Lib.hid (HS.out.call hb)
                clear hb KJ KA KB HCL
                have jc0 := HS.out.k4.cell 0
                have jc1 := HS.out.k4.cell 1
                have jc2 := HS.out.k4.cell 2
                have jc3 := HS.out.k4.cell 3
                have jc4 := HS.out.k4.cell 4
                have jc5 := HS.out.k4.cell 5
                have jc6 := HS.out.k4.cell 6
                have jc7 := HS.out.k4.cell 7
                have jc8 := HS.out.k4.cell 8
                have jc9 := HS.out.k4.cell 9
                have ac0 := HS.out.k5.cell 0
                have ac1 := HS.out.k5.cell 1
                have ac2 := HS.out.k5.cell 2
                have ac3 := HS.out.k5.cell 3
                have ac4 := HS.out.k5.cell 4
                have ac5 := HS.out.k5.cell 5
                have ac6 := HS.out.k5.cell 6
                have ac7 := HS.out.k5.cell 7
                have bc0 := HS.out.k6.cell 0
                have bc1 := HS.out.k6.cell 1
                have bc2 := HS.out.k6.cell 2
                have bc3 := HS.out.k6.cell 3
                have bc4 := HS.out.k6.cell 4
                have bc5 := HS.out.k6.cell 5
                have bc6 := HS.out.k6.cell 6
                have bc7 := HS.out.k6.cell 7
                obtain ⟨w0, ⟨w1, w2, w3, w4, w5, w6, w7, w8, w9, w10, w11, w12⟩, -⟩ := HEW.out
                obtain ⟨hf, hen⟩ := HF.out
                go_upto_region 31 with fail
                clear hf hen HF w0 w1 w2 w3 w4 w5 w6 w7 w8
                go_cut [30] from 302 to 328 (fun s wx => s = .bool al ∧ Hid (EnB w j a b wx))
                case first =>
                  by_cases h1 : f ≤ j.play
                  · by_cases h2 : en ≤ j.play
                    · by_cases h3 : j.lead.hi ≤ a.depth.lo + b.depth.lo + j.glue.lo
                      · have hal : al = true := HAL.out.2 ⟨⟨h1, h2⟩, h3⟩
                        go_wp2_with fail
                        go_meet
                        exact ⟨by rw [hal], HS⟩
                      · have hal : al = false := Bool.eq_false_iff.2 fun h => h3 (HAL.out.1 h).2
                        go_wp2_with fail
                        go_meet
                        exact ⟨by rw [hal], HS⟩
                    · have hal : al = false := Bool.eq_false_iff.2 fun h => h2 (HAL.out.1 h).1.2
                      go_wp2_with fail
                      go_meet
                      exact ⟨by rw [hal], HS⟩
                  · have hal : al = false := Bool.eq_false_iff.2 fun h => h1 (HAL.out.1 h).1.1
                    go_wp2_with fail
                    go_meet
                    exact ⟨by rw [hal], HS⟩
                case rest => as_aux_lemma =>
                  obtain ⟨rfl, HS⟩ := hcut
                  clear HAL w9 w10 w11 w12
                  clear jc0 jc1 jc2 jc3 jc4 jc5 jc6 jc7 jc8 jc9 ac0 ac1 ac2 ac3 ac4 ac5 ac6 ac7 bc0 bc1 bc2 bc3 bc4 bc5 bc6 bc7
                  go_upto_region 32 with fail
                  replace HS := Lib.hid (HS.out.call (Below.refl _ _).drew)
                  obtain ⟨-, ⟨w1, -, -, -, -, -, -, -, -, -, -, -⟩, w2, w3, -⟩ := HEW.out
                  refine wp_region_held_drew (S := fun W9 => Blk W9 w.heap.size 25 #[.int .i64 j.glue.lo, .int .i64 j.glue.hi, .int .i64 j.lead.lo, .int .i64 j.lead.hi, .int .i64 j.side.lo, .int .i64 j.side.hi, .int .i64 j.height.lo, .int .i64 j.height.hi, .int .i64 j.play, .int .i64 j.grooves] ∧ Blk W9 (w.heap.size + 1) 37 #[.int .i64 a.thick.lo, .int .i64 a.thick.hi, .int .i64 a.depth.lo, .int .i64 a.depth.hi, .int .i64 a.shift.lo, .int .i64 a.shift.hi, .int .i64 a.pitch.lo, .int .i64 a.pitch.hi] ∧ Blk W9 (w.heap.size + 1 + 1) 37 #[.int .i64 b.thick.lo, .int .i64 b.thick.hi, .int .i64 b.depth.lo, .int .i64 b.depth.hi, .int .i64 b.shift.lo, .int .i64 b.shift.hi, .int .i64 b.pitch.lo, .int .i64 b.pitch.hi]) (by kernel_rfl) ⟨HS.out.k4, HS.out.k5, HS.out.k6⟩ (fun hH0 => ?_)
                  generalize World.drew _ = V0 at *
                  simp only [List.size_toArray, List.length_cons, List.length_nil, Nat.reduceAdd, Array.replicate_succ, Array.replicate_zero, List.push_toArray, List.nil_append, List.cons_append]
                  refine wpAnyH_take (i := 0 ) (v := ?_) rfl (by kernel_rfl) (by kernel_rfl) (by kernel_rfl) (fun _ _ _ h => h) (Or.inl ⟨by rfl, ?_⟩) (by assumption) ?_; rotate_left; (· (intro w0 hSw; have a0 := hSw.1.cell 8; have a1 := hSw.2.1.cell 4; have a2 := hSw.2.1.cell 5; have b1 := hSw.2.2.cell 4; have b2 := hSw.2.2.cell 5; clear hSw; go_simp); first | done | with_reducible rfl); (try simp only [Act.put, List.getElem_toArray, List.getElem_cons_zero, List.setIfInBounds_toArray, List.set_cons_zero, List.set_cons_succ])
                  refine wpAnyH_take (i := 1 ) (v := ?_) rfl (by kernel_rfl) (by kernel_rfl) (by kernel_rfl) (fun _ _ _ h => h) (Or.inl ⟨by rfl, ?_⟩) (by assumption) ?_; rotate_left; (· (intro w0 hSw; have a0 := hSw.1.cell 8; have a1 := hSw.2.1.cell 4; have a2 := hSw.2.1.cell 5; have b1 := hSw.2.2.cell 4; have b2 := hSw.2.2.cell 5; clear hSw; go_simp); first | done | with_reducible rfl); (try simp only [Act.put, List.getElem_toArray, List.getElem_cons_succ, List.getElem_cons_zero, List.setIfInBounds_toArray, List.set_cons_zero, List.set_cons_succ])
                  refine wpAnyH_take (i := 2 ) (v := ?_) rfl (by kernel_rfl) (by kernel_rfl) (by kernel_rfl) (fun _ _ _ h => h) (Or.inl ⟨by rfl, ?_⟩) (by assumption) ?_; rotate_left; (· (intro w0 hSw; have a0 := hSw.1.cell 8; have a1 := hSw.2.1.cell 4; have a2 := hSw.2.1.cell 5; have b1 := hSw.2.2.cell 4; have b2 := hSw.2.2.cell 5; clear hSw; go_simp); first | done | with_reducible rfl); (try simp only [Act.put, List.getElem_toArray, List.getElem_cons_succ, List.getElem_cons_zero, List.setIfInBounds_toArray, List.set_cons_zero, List.set_cons_succ])
                  refine wpAnyH_take (i := 3 ) (v := ?_) rfl (by kernel_rfl) (by kernel_rfl) (by kernel_rfl) (fun _ _ _ h => h) (Or.inl ⟨by rfl, ?_⟩) (by assumption) ?_; rotate_left; (· (intro w0 hSw; have a0 := hSw.1.cell 8; have a1 := hSw.2.1.cell 4; have a2 := hSw.2.1.cell 5; have b1 := hSw.2.2.cell 4; have b2 := hSw.2.2.cell 5; clear hSw; go_simp); first | done | with_reducible rfl); (try simp only [Act.put, List.getElem_toArray, List.getElem_cons_succ, List.getElem_cons_zero, List.setIfInBounds_toArray, List.set_cons_zero, List.set_cons_succ])
                  refine wpAnyH_take (i := 4 ) (v := ?_) rfl (by kernel_rfl) (by kernel_rfl) (by kernel_rfl) (fun _ _ _ h => h) (Or.inl ⟨by rfl, ?_⟩) (by assumption) ?_; rotate_left; (· (intro w0 hSw; have a0 := hSw.1.cell 8; have a1 := hSw.2.1.cell 4; have a2 := hSw.2.1.cell 5; have b1 := hSw.2.2.cell 4; have b2 := hSw.2.2.cell 5; clear hSw; go_simp); first | done | with_reducible rfl); (try simp only [Act.put, List.getElem_toArray, List.getElem_cons_succ, List.getElem_cons_zero, List.setIfInBounds_toArray, List.set_cons_zero, List.set_cons_succ])
                  refine wpAnyH_take (i := 5 ) (v := ?_) rfl (by kernel_rfl) (by kernel_rfl) (by kernel_rfl) (fun _ _ _ h => h) (Or.inl ⟨by rfl, ?_⟩) (by assumption) ?_; rotate_left; (· (intro w0 hSw; have a0 := hSw.1.cell 8; have a1 := hSw.2.1.cell 4; have a2 := hSw.2.1.cell 5; have b1 := hSw.2.2.cell 4; have b2 := hSw.2.2.cell 5; clear hSw; go_simp); first | done | with_reducible rfl); (try simp only [Act.put, List.getElem_toArray, List.getElem_cons_succ, List.getElem_cons_zero, List.setIfInBounds_toArray, List.set_cons_zero, List.set_cons_succ])
                  refine wpAnyH_take (i := 6 ) (v := ?_) rfl (by kernel_rfl) (by kernel_rfl) (by kernel_rfl) (fun _ _ _ h => h) (Or.inl ⟨by rfl, ?_⟩) (by assumption) ?_; rotate_left; (· (intro w0 hSw; have a0 := hSw.1.cell 8; have a1 := hSw.2.1.cell 4; have a2 := hSw.2.1.cell 5; have b1 := hSw.2.2.cell 4; have b2 := hSw.2.2.cell 5; clear hSw; go_simp); first | done | with_reducible rfl); (try simp only [Act.put, List.getElem_toArray, List.getElem_cons_succ, List.getElem_cons_zero, List.setIfInBounds_toArray, List.set_cons_zero, List.set_cons_succ])
                  refine wpAnyH_take (i := 7 ) (v := ?_) rfl (by kernel_rfl) (by kernel_rfl) (by kernel_rfl) (fun _ _ _ h => h) (Or.inl ⟨by rfl, ?_⟩) (by assumption) ?_; rotate_left; (· (intro w0 hSw; have a0 := hSw.1.cell 8; have a1 := hSw.2.1.cell 4; have a2 := hSw.2.1.cell 5; have b1 := hSw.2.2.cell 4; have b2 := hSw.2.2.cell 5; clear hSw; go_simp); first | done | with_reducible rfl); (try simp only [Act.put, List.getElem_toArray, List.getElem_cons_succ, List.getElem_cons_zero, List.setIfInBounds_toArray, List.set_cons_zero, List.set_cons_succ])
                  refine wpAnyH_take (i := 8 ) (v := ?_) rfl (by kernel_rfl) (by kernel_rfl) (by kernel_rfl) (fun _ _ _ h => h) (Or.inl ⟨by rfl, ?_⟩) (by assumption) ?_; rotate_left; (· (intro w0 hSw; have a0 := hSw.1.cell 8; have a1 := hSw.2.1.cell 4; have a2 := hSw.2.1.cell 5; have b1 := hSw.2.2.cell 4; have b2 := hSw.2.2.cell 5; clear hSw; go_simp); first | done | with_reducible rfl); (try simp only [Act.put, List.getElem_toArray, List.getElem_cons_succ, List.getElem_cons_zero, List.setIfInBounds_toArray, List.set_cons_zero, List.set_cons_succ])
                  refine wpAnyH_take (i := 9 ) (v := ?_) rfl (by kernel_rfl) (by kernel_rfl) (by kernel_rfl) (fun _ _ _ h => h) (Or.inl ⟨by rfl, ?_⟩) (by assumption) ?_; rotate_left; (· (intro w0 hSw; have a0 := hSw.1.cell 8; have a1 := hSw.2.1.cell 4; have a2 := hSw.2.1.cell 5; have b1 := hSw.2.2.cell 4; have b2 := hSw.2.2.cell 5; clear hSw; go_simp); first | done | with_reducible rfl); (try simp only [Act.put, List.getElem_toArray, List.getElem_cons_succ, List.getElem_cons_zero, List.setIfInBounds_toArray, List.set_cons_zero, List.set_cons_succ])
                  refine wpAnyH_take (i := 10 ) (v := ?_) rfl (by kernel_rfl) (by kernel_rfl) (by kernel_rfl) (fun _ _ _ h => h) (Or.inl ⟨by rfl, ?_⟩) (by assumption) ?_; rotate_left; (· (intro w0 hSw; have a0 := hSw.1.cell 8; have a1 := hSw.2.1.cell 4; have a2 := hSw.2.1.cell 5; have b1 := hSw.2.2.cell 4; have b2 := hSw.2.2.cell 5; clear hSw; go_simp); first | done | with_reducible rfl); (try simp only [Act.put, List.getElem_toArray, List.getElem_cons_succ, List.getElem_cons_zero, List.setIfInBounds_toArray, List.set_cons_zero, List.set_cons_succ])
                  refine wpAnyH_take (i := 11 ) (v := ?_) rfl (by kernel_rfl) (by kernel_rfl) (by kernel_rfl) (fun _ _ _ h => h) (Or.inl ⟨by rfl, ?_⟩) (by assumption) ?_; rotate_left; (· (intro w0 hSw; have a0 := hSw.1.cell 8; have a1 := hSw.2.1.cell 4; have a2 := hSw.2.1.cell 5; have b1 := hSw.2.2.cell 4; have b2 := hSw.2.2.cell 5; clear hSw; go_simp); first | done | with_reducible rfl); (try simp only [Act.put, List.getElem_toArray, List.getElem_cons_succ, List.getElem_cons_zero, List.setIfInBounds_toArray, List.set_cons_zero, List.set_cons_succ])
                  refine wpAnyH_take (i := 12 ) (v := ?_) rfl (by kernel_rfl) (by kernel_rfl) (by kernel_rfl) (fun _ _ _ h => h) (Or.inl ⟨by rfl, ?_⟩) (by assumption) ?_; rotate_left; (· (intro w0 hSw; have a0 := hSw.1.cell 8; have a1 := hSw.2.1.cell 4; have a2 := hSw.2.1.cell 5; have b1 := hSw.2.2.cell 4; have b2 := hSw.2.2.cell 5; clear hSw; go_simp); first | done | with_reducible rfl); (try simp only [Act.put, List.getElem_toArray, List.getElem_cons_succ, List.getElem_cons_zero, List.setIfInBounds_toArray, List.set_cons_zero, List.set_cons_succ])
                  refine wpAnyH_take (i := 13 ) (v := ?_) rfl (by kernel_rfl) (by kernel_rfl) (by kernel_rfl) (fun _ _ _ h => h) (Or.inl ⟨by rfl, ?_⟩) (by assumption) ?_; rotate_left; (· (intro w0 hSw; have a0 := hSw.1.cell 8; have a1 := hSw.2.1.cell 4; have a2 := hSw.2.1.cell 5; have b1 := hSw.2.2.cell 4; have b2 := hSw.2.2.cell 5; clear hSw; go_simp); first | done | with_reducible rfl); (try simp only [Act.put, List.getElem_toArray, List.getElem_cons_succ, List.getElem_cons_zero, List.setIfInBounds_toArray, List.set_cons_zero, List.set_cons_succ])
                  refine wpAnyH_take (i := 14 ) (v := ?_) rfl (by kernel_rfl) (by kernel_rfl) (by kernel_rfl) (fun _ _ _ h => h) (Or.inl ⟨by rfl, ?_⟩) (by assumption) ?_; rotate_left; (· (intro w0 hSw; have a0 := hSw.1.cell 8; have a1 := hSw.2.1.cell 4; have a2 := hSw.2.1.cell 5; have b1 := hSw.2.2.cell 4; have b2 := hSw.2.2.cell 5; clear hSw; go_simp); first | done | with_reducible rfl); (try simp only [Act.put, List.getElem_toArray, List.getElem_cons_succ, List.getElem_cons_zero, List.setIfInBounds_toArray, List.set_cons_zero, List.set_cons_succ])
                  refine wpAnyH_take (i := 15 ) (v := ?_) rfl (by kernel_rfl) (by kernel_rfl) (by kernel_rfl) (fun _ _ _ h => h) (Or.inl ⟨by rfl, ?_⟩) (by assumption) ?_; rotate_left; (· (intro w0 hSw; have a0 := hSw.1.cell 8; have a1 := hSw.2.1.cell 4; have a2 := hSw.2.1.cell 5; have b1 := hSw.2.2.cell 4; have b2 := hSw.2.2.cell 5; clear hSw; go_simp); first | done | with_reducible rfl); (try simp only [Act.put, List.getElem_toArray, List.getElem_cons_succ, List.getElem_cons_zero, List.setIfInBounds_toArray, List.set_cons_zero, List.set_cons_succ])
                  refine wpAnyH_take (i := 16 ) (v := ?_) rfl (by kernel_rfl) (by kernel_rfl) (by kernel_rfl) (fun _ _ _ h => h) (Or.inl ⟨by rfl, ?_⟩) (by assumption) ?_; rotate_left; (· (intro w0 hSw; have a0 := hSw.1.cell 8; have a1 := hSw.2.1.cell 4; have a2 := hSw.2.1.cell 5; have b1 := hSw.2.2.cell 4; have b2 := hSw.2.2.cell 5; clear hSw; go_simp); first | done | with_reducible rfl); (try simp only [Act.put, List.getElem_toArray, List.getElem_cons_succ, List.getElem_cons_zero, List.setIfInBounds_toArray, List.set_cons_zero, List.set_cons_succ])
                  refine wpAnyH_take (i := 17 ) (v := ?_) rfl (by kernel_rfl) (by kernel_rfl) (by kernel_rfl) (fun _ _ _ h => h) (Or.inl ⟨by rfl, ?_⟩) (by assumption) ?_; rotate_left; (· (intro w0 hSw; have a0 := hSw.1.cell 8; have a1 := hSw.2.1.cell 4; have a2 := hSw.2.1.cell 5; have b1 := hSw.2.2.cell 4; have b2 := hSw.2.2.cell 5; clear hSw; go_simp); first | done | with_reducible rfl); (try simp only [Act.put, List.getElem_toArray, List.getElem_cons_succ, List.getElem_cons_zero, List.setIfInBounds_toArray, List.set_cons_zero, List.set_cons_succ])
                  refine wpAnyH_take (i := 18 ) (v := ?_) rfl (by kernel_rfl) (by kernel_rfl) (by kernel_rfl) (fun _ _ _ h => h) (Or.inl ⟨by rfl, ?_⟩) (by assumption) ?_; rotate_left; (· (intro w0 hSw; have a0 := hSw.1.cell 8; have a1 := hSw.2.1.cell 4; have a2 := hSw.2.1.cell 5; have b1 := hSw.2.2.cell 4; have b2 := hSw.2.2.cell 5; clear hSw; go_simp); first | done | with_reducible rfl); (try simp only [Act.put, List.getElem_toArray, List.getElem_cons_succ, List.getElem_cons_zero, List.setIfInBounds_toArray, List.set_cons_zero, List.set_cons_succ])
                  refine wpAnyH_take (i := 19 ) (v := ?_) rfl (by kernel_rfl) (by kernel_rfl) (by kernel_rfl) (fun _ _ _ h => h) (Or.inl ⟨by rfl, ?_⟩) (by assumption) ?_; rotate_left; (· (intro w0 hSw; have a0 := hSw.1.cell 8; have a1 := hSw.2.1.cell 4; have a2 := hSw.2.1.cell 5; have b1 := hSw.2.2.cell 4; have b2 := hSw.2.2.cell 5; clear hSw; go_simp); first | done | with_reducible rfl); (try simp only [Act.put, List.getElem_toArray, List.getElem_cons_succ, List.getElem_cons_zero, List.setIfInBounds_toArray, List.set_cons_zero, List.set_cons_succ])
                  refine wpAnyH_take (i := 20 ) (v := ?_) rfl (by kernel_rfl) (by kernel_rfl) (by kernel_rfl) (fun _ _ _ h => h) (Or.inl ⟨by rfl, ?_⟩) (by assumption) ?_; rotate_left; (· (intro w0 hSw; have a0 := hSw.1.cell 8; have a1 := hSw.2.1.cell 4; have a2 := hSw.2.1.cell 5; have b1 := hSw.2.2.cell 4; have b2 := hSw.2.2.cell 5; clear hSw; go_simp); first | done | with_reducible rfl); (try simp only [Act.put, List.getElem_toArray, List.getElem_cons_succ, List.getElem_cons_zero, List.setIfInBounds_toArray, List.set_cons_zero, List.set_cons_succ])
                  refine wpAnyH_take (i := 21 ) (v := ?_) rfl (by kernel_rfl) (by kernel_rfl) (by kernel_rfl) (fun _ _ _ h => h) (Or.inl ⟨by rfl, ?_⟩) (by assumption) ?_; rotate_left; (· (intro w0 hSw; have a0 := hSw.1.cell 8; have a1 := hSw.2.1.cell 4; have a2 := hSw.2.1.cell 5; have b1 := hSw.2.2.cell 4; have b2 := hSw.2.2.cell 5; clear hSw; go_simp); first | done | with_reducible rfl); (try simp only [Act.put, List.getElem_toArray, List.getElem_cons_succ, List.getElem_cons_zero, List.setIfInBounds_toArray, List.set_cons_zero, List.set_cons_succ])
                  refine wpAnyH_take (i := 22 ) (v := ?_) rfl (by kernel_rfl) (by kernel_rfl) (by kernel_rfl) (fun _ _ _ h => h) (Or.inl ⟨by rfl, ?_⟩) (by assumption) ?_; rotate_left; (· (intro w0 hSw; have a0 := hSw.1.cell 8; have a1 := hSw.2.1.cell 4; have a2 := hSw.2.1.cell 5; have b1 := hSw.2.2.cell 4; have b2 := hSw.2.2.cell 5; clear hSw; go_simp); first | done | with_reducible rfl); (try simp only [Act.put, List.getElem_toArray, List.getElem_cons_succ, List.getElem_cons_zero, List.setIfInBounds_toArray, List.set_cons_zero, List.set_cons_succ])
                  refine wpAnyH_done (by kernel_rfl) ?_ _
                  rw [HLR.out.1, HLR.out.2]
                  obtain ⟨w0, ⟨w1, -, w3, -, w5, -, -, -, -, -, w11, w12⟩, w13, w14, w15, w16, w17⟩ := HEW.out
                  obtain ⟨w18, w19⟩ := w17 lf ri HLR.out.1.symm HLR.out.2.symm
                  clear w17 w0 w1 w14
                  have jc0 := HS.out.k4.cell 0
                  have jc1 := HS.out.k4.cell 1
                  have jc2 := HS.out.k4.cell 2
                  have jc3 := HS.out.k4.cell 3
                  have jc4 := HS.out.k4.cell 4
                  have jc5 := HS.out.k4.cell 5
                  have jc6 := HS.out.k4.cell 6
                  have jc7 := HS.out.k4.cell 7
                  have jc8 := HS.out.k4.cell 8
                  have jc9 := HS.out.k4.cell 9
                  have ac0 := HS.out.k5.cell 0
                  have ac1 := HS.out.k5.cell 1
                  have ac2 := HS.out.k5.cell 2
                  have ac3 := HS.out.k5.cell 3
                  have ac4 := HS.out.k5.cell 4
                  have ac5 := HS.out.k5.cell 5
                  have ac6 := HS.out.k5.cell 6
                  have ac7 := HS.out.k5.cell 7
                  have bc0 := HS.out.k6.cell 0
                  have bc1 := HS.out.k6.cell 1
                  have bc2 := HS.out.k6.cell 2
                  have bc3 := HS.out.k6.cell 3
                  have bc4 := HS.out.k6.cell 4
                  have bc5 := HS.out.k6.cell 5
                  have bc6 := HS.out.k6.cell 6
                  have bc7 := HS.out.k6.cell 7
                  go_upto_region 33 with fail
                  go_cut [33] from 350 to 402 (fun s wx => s = .bool pe ∧ Hid (EnB w j a b wx))
                  case first =>
                    by_cases h1 : lf ≤ ri
                    · by_cases h2 : lf + l * (a.pitch.lo - b.pitch.hi) ≤ j.play
                      · by_cases h3 : -j.play ≤ ri + l * (a.pitch.hi - b.pitch.lo)
                        · by_cases h4 : j.lead.lo ≤ a.depth.hi + b.depth.hi + j.glue.hi
                          · have hal : pe = true := HPE.out.2 ⟨⟨⟨h1, h2⟩, h3⟩, h4⟩
                            go_wp2_with fail
                            go_meet
                            exact ⟨by rw [hal], HS⟩
                          · have hal : pe = false := Bool.eq_false_iff.2 fun h => h4 (HPE.out.1 h).2
                            go_wp2_with fail
                            go_meet
                            exact ⟨by rw [hal], HS⟩
                        · have hal : pe = false := Bool.eq_false_iff.2 fun h => h3 (HPE.out.1 h).1.2
                          go_wp2_with fail
                          go_meet
                          exact ⟨by rw [hal], HS⟩
                      · have hal : pe = false := Bool.eq_false_iff.2 fun h => h2 (HPE.out.1 h).1.1.2
                        go_wp2_with fail
                        go_meet
                        exact ⟨by rw [hal], HS⟩
                    · have hal : pe = false := Bool.eq_false_iff.2 fun h => h1 (HPE.out.1 h).1.1.1
                      go_wp2_with fail
                      go_meet
                      exact ⟨by rw [hal], HS⟩
                  case rest => as_aux_lemma =>
                    obtain ⟨rfl, HS⟩ := hcut
                    clear HPE w3 w5 w11 w12 w13 w15 w16 w18 w19
                    clear jc0 jc1 jc2 jc3 jc4 jc5 jc6 jc7 jc8 jc9 ac0 ac1 ac2 ac3 ac4 ac5 ac6 ac7 bc0 bc1 bc2 bc3 bc4 bc5 bc6 bc7
                    cases al with
                    | true =>
                      obtain rfl : pe = true := HAP.out rfl
                      obtain rfl : cn = 2 := by have := HCN.out; simpa using this.symm
                      go_wp2_with fail
                      refine (alive05_any _).mono ?_; rintro e w9 ⟨rfl, hb9⟩; have HB := Lib.hid (HS.out.hb.trans (hb9.mono HS.out.hb.size)); clear HS hb9; go_wp2_with fail; go_ret; exact ⟨rfl, HB.out⟩
                    | false =>
                      cases pe with
                      | true =>
                        obtain rfl : cn = 1 := by have := HCN.out; simpa using this.symm
                        go_wp2_with fail
                        refine (alive05_any _).mono ?_; rintro e w9 ⟨rfl, hb9⟩; have HB := Lib.hid (HS.out.hb.trans (hb9.mono HS.out.hb.size)); clear HS hb9; go_wp2_with fail; go_ret; exact ⟨rfl, HB.out⟩
                      | false =>
                        obtain rfl : cn = 0 := by have := HCN.out; simpa using this.symm
                        go_wp2_with fail
                        refine (alive05_any _).mono ?_; rintro e w9 ⟨rfl, hb9⟩; have HB := Lib.hid (HS.out.hb.trans (hb9.mono HS.out.hb.size)); clear HS hb9; go_wp2_with fail; go_ret; exact ⟨rfl, HB.out⟩
end Go.Proofs.Ytaafmfhpoimjhaa