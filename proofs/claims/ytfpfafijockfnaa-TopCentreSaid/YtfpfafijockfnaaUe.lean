/- The law TopCentre: the walk. -/
import Derived.Test.YtfpfafijockfnaaUn
import Derived.Test.YtfpfafijockfnaaRp
namespace Go.Proofs.Ytfpfafijockfnaa
open Go.RowKit Go.Shelf

set_option maxRecDepth 100000 in
set_option maxHeartbeats 16000000 in
theorem centre_any (w : World) (A C Y : Option Addr) (c cx cy : Nat) (p : Press) (n used : Int) (j0 : Jig) (a b : Slat) (x ys : List Int) (hp : p.dies.length ≤ 9223372036854775807) (hx : x.length ≤ 9223372036854775807) (hy : ys.length ≤ 9223372036854775807) (hA : DieSl w w.heap.size A p.dies) (hC : IntSl w w.heap.size C x) (hY : U16Sl w w.heap.size Y ys) (hyb : ∀ y ∈ ys, 0 ≤ y ∧ y ≤ 65535) :
    Calls Try.prog 11 #[.agg #[.slice A p.dies.length c, .int .i64 p.shrink.lo, .int .i64 p.shrink.hi, .int .i64 p.change], .int .i64 n, .int .i64 used, .agg #[.int .i64 j0.glue.lo, .int .i64 j0.glue.hi, .int .i64 j0.lead.lo, .int .i64 j0.lead.hi, .int .i64 j0.side.lo, .int .i64 j0.side.hi, .int .i64 j0.height.lo, .int .i64 j0.height.hi, .int .i64 j0.play, .int .i64 j0.grooves], .agg #[.int .i64 a.thick.lo, .int .i64 a.thick.hi, .int .i64 a.depth.lo, .int .i64 a.depth.hi, .int .i64 a.shift.lo, .int .i64 a.shift.hi, .int .i64 a.pitch.lo, .int .i64 a.pitch.hi], .agg #[.int .i64 b.thick.lo, .int .i64 b.thick.hi, .int .i64 b.depth.lo, .int .i64 b.depth.hi, .int .i64 b.shift.lo, .int .i64 b.shift.hi, .int .i64 b.pitch.lo, .int .i64 b.pitch.hi], .slice C x.length cx, .slice Y ys.length cy] w (Ret (.bool true) w) := by
  have HA := Lib.hid hA
  have HC := Lib.hid hC
  have HY := Lib.hid hY
  have HYB := Lib.hid hyb
  have HYL := Lib.hid hy
  have HPL := Lib.hid hp
  have hp' : (p.dies.length : Int) ≤ 9223372036854775807 := by omega
  have hp0 : (0 : Int) ≤ p.dies.length := by omega
  have hx' : (x.length : Int) ≤ 9223372036854775807 := by omega
  have hx0 : (0 : Int) ≤ x.length := by omega
  have hy' : (ys.length : Int) ≤ 9223372036854775807 := by omega
  have hy0 : (0 : Int) ≤ ys.length := by omega
  have HS : Hid (TcB w p j0 a b A Y c cy ys (((((w.alloc (.cells #[.slice A p.dies.length c, .int .i64 p.shrink.lo, .int .i64 p.shrink.hi, .int .i64 p.change] 73)).alloc (.cells #[.int .i64 j0.glue.lo, .int .i64 j0.glue.hi, .int .i64 j0.lead.lo, .int .i64 j0.lead.hi, .int .i64 j0.side.lo, .int .i64 j0.side.hi, .int .i64 j0.height.lo, .int .i64 j0.height.hi, .int .i64 j0.play, .int .i64 j0.grooves] 25)).alloc (.cells #[.int .i64 a.thick.lo, .int .i64 a.thick.hi, .int .i64 a.depth.lo, .int .i64 a.depth.hi, .int .i64 a.shift.lo, .int .i64 a.shift.hi, .int .i64 a.pitch.lo, .int .i64 a.pitch.hi] 37)).alloc (.cells #[.int .i64 b.thick.lo, .int .i64 b.thick.hi, .int .i64 b.depth.lo, .int .i64 b.depth.hi, .int .i64 b.shift.lo, .int .i64 b.shift.hi, .int .i64 b.pitch.lo, .int .i64 b.pitch.hi] 37)).alloc (.cells #[.slice Y ys.length cy] 48))) := Lib.hid ⟨by repeat (first | exact Below.refl _ _ | assumption | refine Below.drew ?_ | refine Below.alloc ?_ (by first | omega | (simp only [World.size_alloc]; omega) | simp) _ | refine Below.setCell ?_ (by first | omega | (simp only [World.size_alloc]; omega) | simp) _), ((((Blk.new _ _ _).alloc _).alloc _).alloc _).alloc _, (((blk5 _ _ (by simp) rfl : Blk ((w.alloc (.cells #[.slice A p.dies.length c, .int .i64 p.shrink.lo, .int .i64 p.shrink.hi, .int .i64 p.change] 73)).alloc (.cells #[.int .i64 j0.glue.lo, .int .i64 j0.glue.hi, .int .i64 j0.lead.lo, .int .i64 j0.lead.hi, .int .i64 j0.side.lo, .int .i64 j0.side.hi, .int .i64 j0.height.lo, .int .i64 j0.height.hi, .int .i64 j0.play, .int .i64 j0.grooves] 25)) (w.heap.size + 1) _ _).alloc _).alloc _).alloc _, ((blk5 _ _ (by simp) rfl : Blk (((w.alloc (.cells #[.slice A p.dies.length c, .int .i64 p.shrink.lo, .int .i64 p.shrink.hi, .int .i64 p.change] 73)).alloc (.cells #[.int .i64 j0.glue.lo, .int .i64 j0.glue.hi, .int .i64 j0.lead.lo, .int .i64 j0.lead.hi, .int .i64 j0.side.lo, .int .i64 j0.side.hi, .int .i64 j0.height.lo, .int .i64 j0.height.hi, .int .i64 j0.play, .int .i64 j0.grooves] 25)).alloc (.cells #[.int .i64 a.thick.lo, .int .i64 a.thick.hi, .int .i64 a.depth.lo, .int .i64 a.depth.hi, .int .i64 a.shift.lo, .int .i64 a.shift.hi, .int .i64 a.pitch.lo, .int .i64 a.pitch.hi] 37)) (w.heap.size + 1 + 1) _ _).alloc _).alloc _, (blk5 _ _ (by simp) rfl : Blk ((((w.alloc (.cells #[.slice A p.dies.length c, .int .i64 p.shrink.lo, .int .i64 p.shrink.hi, .int .i64 p.change] 73)).alloc (.cells #[.int .i64 j0.glue.lo, .int .i64 j0.glue.hi, .int .i64 j0.lead.lo, .int .i64 j0.lead.hi, .int .i64 j0.side.lo, .int .i64 j0.side.hi, .int .i64 j0.height.lo, .int .i64 j0.height.hi, .int .i64 j0.play, .int .i64 j0.grooves] 25)).alloc (.cells #[.int .i64 a.thick.lo, .int .i64 a.thick.hi, .int .i64 a.depth.lo, .int .i64 a.depth.hi, .int .i64 a.shift.lo, .int .i64 a.shift.hi, .int .i64 a.pitch.lo, .int .i64 a.pitch.hi] 37)).alloc (.cells #[.int .i64 b.thick.lo, .int .i64 b.thick.hi, .int .i64 b.depth.lo, .int .i64 b.depth.hi, .int .i64 b.shift.lo, .int .i64 b.shift.hi, .int .i64 b.pitch.lo, .int .i64 b.pitch.hi] 37)) (w.heap.size + 1 + 1 + 1) _ _).alloc _, blk5 _ _ (by simp) rfl⟩
  clear hA hC hY hyb hp hx hy
  go_enter Try.func11, Try.ntmps11
  go_upto_region 1 with fail
  generalize World.alloc (World.alloc (World.alloc (World.alloc (World.alloc w _) _) _) _) _ = V at HS ⊢
  have x0 := HS.out.k8.cell 0; have x1 := HS.out.k8.cell 1; have x2 := HS.out.k8.cell 2; have x3 := HS.out.k8.cell 3
  have x5 := HS.out.k15.cell 0
  by_cases c1 : 8 < p.dies.length
  · have c1' : (8 : Int) < p.dies.length := by omega
    go_wp2_with fail
    refine (awake05_any _).mono ?_; rintro e w9 ⟨rfl, hb9⟩; have HB := Lib.hid (HS.out.hb.trans (hb9.mono HS.out.hb.size)); clear HS hb9; go_wp2_with fail; go_ret; exact ⟨rfl, HB.out⟩
  · have c1' : ¬ (8 : Int) < p.dies.length := by omega
    by_cases c2 : 14 < x.length
    · have c2' : (14 : Int) < x.length := by omega
      go_wp2_with fail
      refine (awake05_any _).mono ?_; rintro e w9 ⟨rfl, hb9⟩; have HB := Lib.hid (HS.out.hb.trans (hb9.mono HS.out.hb.size)); clear HS hb9; go_wp2_with fail; go_ret; exact ⟨rfl, HB.out⟩
    · have c2' : ¬ (14 : Int) < x.length := by omega
      by_cases c3 : ys.length = 0
      · have c3' : ((ys.length : Int) == 0) = true := by rw [beq_iff_eq]; omega
        have c3'' : (ys.length : Int) = 0 := by omega
        go_wp2_with fail
        refine (awake05_any _).mono ?_; rintro e w9 ⟨rfl, hb9⟩; have HB := Lib.hid (HS.out.hb.trans (hb9.mono HS.out.hb.size)); clear HS hb9; go_wp2_with fail; go_ret; exact ⟨rfl, HB.out⟩
      · have c3' : ((ys.length : Int) == 0) = false := by rw [beq_eq_false_iff_ne]; omega
        have c3'' : ¬ (ys.length : Int) = 0 := by omega
        have HYN : Hid (ys ≠ []) := Lib.hid fun e => c3 (by rw [e]; rfl)
        go_wp2_with fail
        refine (rpress_any _ A c p HPL.out (HA.out.on HS.out.hb (Nat.le_refl _))).mono ?_
        rintro e W1 ⟨rfl, hb⟩
        replace HS := Lib.hid (HS.out.call hb)
        clear hb x0 x1 x2 x3 x5
        have x0 := HS.out.k8.cell 0; have x1 := HS.out.k8.cell 1; have x2 := HS.out.k8.cell 2; have x3 := HS.out.k8.cell 3
        cases hpk : pressOk p with
        | false =>
          go_wp2_with fail
          refine (awake05_any _).mono ?_; rintro e w9 ⟨rfl, hb9⟩; have HB := Lib.hid (HS.out.hb.trans (hb9.mono HS.out.hb.size)); clear HS hb9; go_wp2_with fail; go_ret; exact ⟨rfl, HB.out⟩
        | true =>
          have HPK := Lib.hid hpk
          clear hpk
          by_cases c5 : n < 0
          · have c5' : n < 0 := by omega
            go_wp2_with fail
            refine (awake05_any _).mono ?_; rintro e w9 ⟨rfl, hb9⟩; have HB := Lib.hid (HS.out.hb.trans (hb9.mono HS.out.hb.size)); clear HS hb9; go_wp2_with fail; go_ret; exact ⟨rfl, HB.out⟩
          · have c5' : ¬ n < 0 := by omega
            by_cases c6 : (p.dies.length : Int) ≤ n
            · have c6' : (p.dies.length : Int) ≤ n := by omega
              go_wp2_with fail
              refine (awake05_any _).mono ?_; rintro e w9 ⟨rfl, hb9⟩; have HB := Lib.hid (HS.out.hb.trans (hb9.mono HS.out.hb.size)); clear HS hb9; go_wp2_with fail; go_ret; exact ⟨rfl, HB.out⟩
            · have c6' : ¬ (p.dies.length : Int) ≤ n := by omega
              by_cases c7 : used < 0
              · have c7' : used < 0 := by omega
                go_wp2_with fail
                refine (awake05_any _).mono ?_; rintro e w9 ⟨rfl, hb9⟩; have HB := Lib.hid (HS.out.hb.trans (hb9.mono HS.out.hb.size)); clear HS hb9; go_wp2_with fail; go_ret; exact ⟨rfl, HB.out⟩
              · have c7' : ¬ used < 0 := by omega
                by_cases c8 : 8000 < used
                · have c8' : 8000 < used := by omega
                  go_wp2_with fail
                  refine (awake05_any _).mono ?_; rintro e w9 ⟨rfl, hb9⟩; have HB := Lib.hid (HS.out.hb.trans (hb9.mono HS.out.hb.size)); clear HS hb9; go_wp2_with fail; go_ret; exact ⟨rfl, HB.out⟩
                · have c8' : ¬ 8000 < used := by omega
                  obtain ⟨m, rfl⟩ := Int.eq_ofNat_of_zero_le (show 0 ≤ n by omega)
                  have hm : m < p.dies.length := by omega
                  have hm' : (m : Int) < p.dies.length := by omega
                  have hm0 : (0 : Int) ≤ m := by omega
                  have hu0 : 0 ≤ used := by omega
                  have hu1 : used ≤ 8000 := by omega
                  obtain ⟨bA, oA, hAe, hbA, hat⟩ := HA.out (by intro e; rw [e] at hm; simp at hm)
                  obtain ⟨d0, d1, d2⟩ := hat m hm
                  simp only [dieF] at d0 d1 d2
                  have HD : Hid (∀ W, Below w.heap.size w W → W.cell? ⟨bA, oA + m * 3, none⟩ = some (.int .i64 p.dies[m].wide) ∧ W.cell? ⟨bA, oA + m * 3 + 1, none⟩ = some (.int .i64 p.dies[m].wear.lo) ∧ W.cell? ⟨bA, oA + m * 3 + 2, none⟩ = some (.int .i64 p.dies[m].wear.hi)) := Lib.hid fun W hW => ⟨(hW.cell (p := ⟨bA, _, none⟩) hbA).trans d0, (hW.cell (p := ⟨bA, _, none⟩) hbA).trans d1, (hW.cell (p := ⟨bA, _, none⟩) hbA).trans d2⟩
                  obtain ⟨hd1, hd2, hd3, hd4, hd5⟩ := (press_parts HPK.out).2.1 p.dies[m] (List.getElem_mem hm)
                  obtain ⟨hs1, hs2, hs3⟩ := (press_parts HPK.out).2.2.1
                  have HLT : Hid (∀ wear shrink : Int, (p.dies[m].wear.lo ≤ wear ∧ wear ≤ p.dies[m].wear.hi) → (p.shrink.lo ≤ shrink ∧ shrink ≤ p.shrink.hi) → 1000 * (wideS p m used).lo ≤ nano p.dies[m].wide wear shrink used ∧ nano p.dies[m].wide wear shrink used ≤ 1000 * (wideS p m used).hi ∧ 0 ≤ nano p.dies[m].wide wear shrink used ∧ nano p.dies[m].wide wear shrink used ≤ 1820000000 ∧ (0 ≤ wear * used ∧ wear * used ≤ 1800000)) := Lib.hid fun wear shrink h1 h2 => (lead_true HPK.out hm hu0 hu1 h1.1 h1.2 h2.1 h2.2).2
                  have he0 := (lead_true HPK.out hm hu0 hu1 (Int.le_refl _) hd4 (Int.le_refl _) hs2).1
                  have HWD : Hid (∀ W, Below w.heap.size w W → Calls Try.prog 34 #[.agg #[.slice A p.dies.length c, .int .i64 p.shrink.lo, .int .i64 p.shrink.hi, .int .i64 p.change], .int .i64 (m : Int), .int .i64 used] W (Ret (.tuple #[.agg #[.int .i64 (wideS p m used).lo, .int .i64 (wideS p m used).hi], .int .i64 0]) W)) := Lib.hid fun W hW => by
                    have h9 := wide_any W A c p m used HPL.out (HA.out.on hW (Nat.le_refl _))
                    rw [he0] at h9
                    exact h9
                  have HDB : Hid ((1 ≤ p.dies[m].wide ∧ p.dies[m].wide ≤ 20000) ∧ (0 ≤ p.dies[m].wear.lo ∧ p.dies[m].wear.lo ≤ p.dies[m].wear.hi ∧ p.dies[m].wear.hi ≤ 200) ∧ 0 ≤ p.shrink.lo ∧ p.shrink.lo ≤ p.shrink.hi ∧ p.shrink.hi ≤ 300) := Lib.hid ⟨⟨hd1, hd2⟩, ⟨hd3, hd4, hd5⟩, hs1, hs2, hs3⟩
                  generalize p.dies[m] = dd at *
                  generalize wideS p m used = l at *
                  have HAE := Lib.hid hAe
                  clear hAe he0 d0 d1 d2 hat hd1 hd2 hd3 hd4 hd5 hs1 hs2 hs3 c1 c1' c3 c5 c5' c6 c7 c7' c8
                  go_wp2_with fail
                  refine (HWD.out _ HS.out.hb).mono ?_
                  rintro e W2 ⟨rfl, hb⟩
                  replace HS := Lib.hid (HS.out.call hb)
                  clear hb x0 x1 x2 x3 HWD
                  have y2 := HS.out.k11.cell 2
                  have y3 := HS.out.k11.cell 3
                  have f2 := HS.out.k11.frozen 2
                  have f3 := HS.out.k11.frozen 3
                  have hz := HS.out.k11.lt
                  replace HS := Lib.hid ((HS.out.told l).call ((Below.refl _ _).alloc (Nat.le_refl _) (.cells #[.int .i64 l.lo, .int .i64 l.hi] 23)))
                  go_upto_region 7 with fail
                  clear y2 y3 f2 f3 hz
                  generalize World.alloc (World.setCell (World.setCell W2 _ _) _ _) _ = V2 at HS ⊢
                  obtain ⟨j, hj⟩ : ∃ j, j0.told l = j := ⟨_, rfl⟩
                  have HJL : Hid (j.lead = l) := Lib.hid (by rw [← hj]; rfl)
                  rw [hj] at HS
                  clear hj
                  have KJ := Lib.hid HS.out.k11
                  go_wp2_with (with_reducible refine wpList_load_mid (by with_unfolding_all rfl) 25 _ (by with_unfolding_all rfl) _ _ (by with_unfolding_all rfl) [.int .i64 j.glue.lo, .int .i64 j.glue.hi, .int .i64 j.lead.lo, .int .i64 j.lead.hi, .int .i64 j.side.lo, .int .i64 j.side.hi, .int .i64 j.height.lo, .int .i64 j.height.hi, .int .i64 j.play, .int .i64 j.grooves] _ KJ.out.range (by with_unfolding_all rfl) (by with_unfolding_all rfl) (by kernel_rfl) ?_)
                  refine (rjig5_any j _).mono ?_
                  rintro e W3 ⟨rfl, hb⟩
                  replace HS := Lib.hid (HS.out.call hb)
                  clear hb KJ
                  cases hjk : jigOk j with
                  | false =>
                    go_wp2_with fail
                    refine (awake05_any _).mono ?_; rintro e w9 ⟨rfl, hb9⟩; have HB := Lib.hid (HS.out.hb.trans (hb9.mono HS.out.hb.size)); clear HS hb9; go_wp2_with fail; go_ret; exact ⟨rfl, HB.out⟩
                  | true =>
                    have e0 := HS.out.k12.cell 0
                    have e1 := HS.out.k12.cell 1
                    have e2 := HS.out.k12.cell 2
                    have e3 := HS.out.k12.cell 3
                    have e4 := HS.out.k12.cell 4
                    have e5 := HS.out.k12.cell 5
                    have e6 := HS.out.k12.cell 6
                    have e7 := HS.out.k12.cell 7
                    go_wp2_with fail
                    refine (rslat5_any a _).mono ?_
                    rintro e W4 ⟨rfl, hb⟩
                    replace HS := Lib.hid (HS.out.call hb)
                    clear hb e0 e1 e2 e3 e4 e5 e6 e7
                    cases hak : slatOk a with
                    | false =>
                      go_wp2_with fail
                      refine (awake05_any _).mono ?_; rintro e w9 ⟨rfl, hb9⟩; have HB := Lib.hid (HS.out.hb.trans (hb9.mono HS.out.hb.size)); clear HS hb9; go_wp2_with fail; go_ret; exact ⟨rfl, HB.out⟩
                    | true =>
                      have e0 := HS.out.k13.cell 0
                      have e1 := HS.out.k13.cell 1
                      have e2 := HS.out.k13.cell 2
                      have e3 := HS.out.k13.cell 3
                      have e4 := HS.out.k13.cell 4
                      have e5 := HS.out.k13.cell 5
                      have e6 := HS.out.k13.cell 6
                      have e7 := HS.out.k13.cell 7
                      go_wp2_with fail
                      refine (rslat5_any b _).mono ?_
                      rintro e W5 ⟨rfl, hb⟩
                      replace HS := Lib.hid (HS.out.call hb)
                      clear hb e0 e1 e2 e3 e4 e5 e6 e7
                      cases hbk : slatOk b with
                      | false =>
                        go_wp2_with fail
                        refine (awake05_any _).mono ?_; rintro e w9 ⟨rfl, hb9⟩; have HB := Lib.hid (HS.out.hb.trans (hb9.mono HS.out.hb.size)); clear HS hb9; go_wp2_with fail; go_ret; exact ⟨rfl, HB.out⟩
                      | true =>
                        have HOK := Lib.hid (And.intro hjk (And.intro hak hbk))
                        have HI := Lib.hid (And.intro (jigIn_of hjk) (And.intro (slatIn_of hak) (slatIn_of hbk)))
                        clear hjk hak hbk
                        go_upto_region 11 with fail
                        have hb := (Below.refl W5.heap.size W5).alloc (Nat.le_refl _) (.cells #[.int .i64 0] 3)
                        have hqz := HS.out.k15.lt
                        have HT : Hid (TcS w p j a b A Y c cy ys W5.heap.size 0 (W5.alloc (.cells #[.int .i64 0] 3))) := Lib.hid ⟨HS.out.call hb, ⟨Blk.new _ _ _, HS.out.k15.below hb hqz, fun hne => by
                          obtain ⟨b9, o9, e9, hlt, hs⟩ := HY.out hne
                          exact ⟨b9, o9, e9, hlt, hs.below (HS.out.hb.trans (hb.mono HS.out.hb.size)) hlt⟩⟩, hqz⟩
                        clear HS hb
                        generalize World.alloc W5 _ = V5 at HT ⊢
                        generalize hga : W5.heap.size = ga at *
                        have HPI : Hid (∀ (k : Nat) (lo hi : Int) (W : World), k ≤ 100 → -1000000 ≤ lo → lo ≤ hi → hi ≤ 1000000 → TcS w p j a b A Y c cy ys ga k W → Calls Try.prog 35 #[.agg #[.int .i64 lo, .int .i64 hi], .pointer (some ⟨ga, 0, none⟩), .pointer (some ⟨(w.heap.size + 1 + 1 + 1 + 1), 0, none⟩)] W (RetTc w p j a b A Y c cy ys ga k lo hi)) := Lib.hid fun k lo hi W h1 h2 h3 h4 h5 => h5.pick HYN.out HYL.out HYB.out lo hi h1 h2 h3 h4
                        have HS := Lib.hid (HT.out.call (Below.refl _ _).drew)
                        clear HT hga hqz HA HY HYB HYL HYN HPK HPL
                        have hAe := HAE.out
                        refine wp_region_held_drew (S := fun W => Blk W w.heap.size 73 #[.slice A p.dies.length c, .int .i64 p.shrink.lo, .int .i64 p.shrink.hi, .int .i64 p.change] ∧ W.cell? ⟨bA, oA + m * 3, none⟩ = some (.int .i64 dd.wide) ∧ W.cell? ⟨bA, oA + m * 3 + 1, none⟩ = some (.int .i64 dd.wear.lo) ∧ W.cell? ⟨bA, oA + m * 3 + 2, none⟩ = some (.int .i64 dd.wear.hi)) (by kernel_rfl) ⟨HS.out.of.k8, HD.out _ HS.out.of.hb⟩ (fun hH0 => ?_)
                        generalize World.drew _ = V0 at *
                        simp only [List.size_toArray, List.length_cons, List.length_nil, Nat.reduceAdd, Array.replicate_succ, Array.replicate_zero, List.push_toArray, List.nil_append, List.cons_append]
                        refine wpAnyH_take (i := 0 ) (v := ?_) rfl (by kernel_rfl) (by kernel_rfl) (by kernel_rfl) (fun _ _ _ h => h) (Or.inl ⟨by rfl, ?_⟩) (by assumption) ?_; rotate_left; (· (intro w0 hSw; obtain ⟨k8, e0, e1, e2⟩ := hSw; have s0 := k8.cell 0; have s1 := k8.cell 1; have s2 := k8.cell 2; clear k8; go_simp); first | done | with_reducible rfl); (try simp only [Act.put, List.getElem_toArray, List.getElem_cons_zero, List.setIfInBounds_toArray, List.set_cons_zero, List.set_cons_succ])
                        refine wpAnyH_take (i := 1 ) (v := ?_) rfl (by kernel_rfl) (by kernel_rfl) (by kernel_rfl) (fun _ _ _ h => h) (Or.inl ⟨by rfl, ?_⟩) (by assumption) ?_; rotate_left; (· (intro w0 hSw; obtain ⟨k8, e0, e1, e2⟩ := hSw; have s0 := k8.cell 0; have s1 := k8.cell 1; have s2 := k8.cell 2; clear k8; go_simp); first | done | with_reducible rfl); (try simp only [Act.put, List.getElem_toArray, List.getElem_cons_succ, List.getElem_cons_zero, List.setIfInBounds_toArray, List.set_cons_zero, List.set_cons_succ])
                        refine wpAnyH_take (i := 2 ) (v := ?_) rfl (by kernel_rfl) (by kernel_rfl) (by kernel_rfl) (fun _ _ _ h => h) (Or.inl ⟨by rfl, ?_⟩) (by assumption) ?_; rotate_left; (· (intro w0 hSw; obtain ⟨k8, e0, e1, e2⟩ := hSw; have s0 := k8.cell 0; have s1 := k8.cell 1; have s2 := k8.cell 2; clear k8; go_simp); first | done | with_reducible rfl); (try simp only [Act.put, List.getElem_toArray, List.getElem_cons_succ, List.getElem_cons_zero, List.setIfInBounds_toArray, List.set_cons_zero, List.set_cons_succ])
                        refine wpAnyH_take (i := 3 ) (v := ?_) rfl (by kernel_rfl) (by kernel_rfl) (by kernel_rfl) (fun _ _ _ h => h) (Or.inl ⟨by rfl, ?_⟩) (by assumption) ?_; rotate_left; (· (intro w0 hSw; obtain ⟨k8, e0, e1, e2⟩ := hSw; have s0 := k8.cell 0; have s1 := k8.cell 1; have s2 := k8.cell 2; clear k8; go_simp); first | done | with_reducible rfl); (try simp only [Act.put, List.getElem_toArray, List.getElem_cons_succ, List.getElem_cons_zero, List.setIfInBounds_toArray, List.set_cons_zero, List.set_cons_succ])
                        refine wpAnyH_take (i := 4 ) (v := ?_) rfl (by kernel_rfl) (by kernel_rfl) (by kernel_rfl) (fun _ _ _ h => h) (Or.inl ⟨by rfl, ?_⟩) (by assumption) ?_; rotate_left; (· (intro w0 hSw; obtain ⟨k8, e0, e1, e2⟩ := hSw; have s0 := k8.cell 0; have s1 := k8.cell 1; have s2 := k8.cell 2; clear k8; go_simp); first | done | with_reducible rfl); (try simp only [Act.put, List.getElem_toArray, List.getElem_cons_succ, List.getElem_cons_zero, List.setIfInBounds_toArray, List.set_cons_zero, List.set_cons_succ])
                        refine wpAnyH_take (i := 5 ) (v := ?_) rfl (by kernel_rfl) (by kernel_rfl) (by kernel_rfl) (fun _ _ _ h => h) (Or.inl ⟨by rfl, ?_⟩) (by assumption) ?_; rotate_left; (· (intro w0 hSw; obtain ⟨k8, e0, e1, e2⟩ := hSw; have s0 := k8.cell 0; have s1 := k8.cell 1; have s2 := k8.cell 2; clear k8; go_simp); first | done | with_reducible rfl); (try simp only [Act.put, List.getElem_toArray, List.getElem_cons_succ, List.getElem_cons_zero, List.setIfInBounds_toArray, List.set_cons_zero, List.set_cons_succ])
                        refine wpAnyH_take (i := 6 ) (v := ?_) rfl (by kernel_rfl) (by kernel_rfl) (by kernel_rfl) (fun _ _ _ h => h) (Or.inl ⟨by rfl, ?_⟩) (by assumption) ?_; rotate_left; (· (intro w0 hSw; obtain ⟨k8, e0, e1, e2⟩ := hSw; have s0 := k8.cell 0; have s1 := k8.cell 1; have s2 := k8.cell 2; clear k8; go_simp); first | done | with_reducible rfl); (try simp only [Act.put, List.getElem_toArray, List.getElem_cons_succ, List.getElem_cons_zero, List.setIfInBounds_toArray, List.set_cons_zero, List.set_cons_succ])
                        refine wpAnyH_take (i := 7 ) (v := ?_) rfl (by kernel_rfl) (by kernel_rfl) (by kernel_rfl) (fun _ _ _ h => h) (Or.inl ⟨by rfl, ?_⟩) (by assumption) ?_; rotate_left; (· (intro w0 hSw; obtain ⟨k8, e0, e1, e2⟩ := hSw; have s0 := k8.cell 0; have s1 := k8.cell 1; have s2 := k8.cell 2; clear k8; go_simp); first | done | with_reducible rfl); (try simp only [Act.put, List.getElem_toArray, List.getElem_cons_succ, List.getElem_cons_zero, List.setIfInBounds_toArray, List.set_cons_zero, List.set_cons_succ])
                        refine wpAnyH_take (i := 8 ) (v := ?_) rfl (by kernel_rfl) (by kernel_rfl) (by kernel_rfl) (fun _ _ _ h => h) (Or.inl ⟨by rfl, ?_⟩) (by assumption) ?_; rotate_left; (· (intro w0 hSw; obtain ⟨k8, e0, e1, e2⟩ := hSw; have s0 := k8.cell 0; have s1 := k8.cell 1; have s2 := k8.cell 2; clear k8; go_simp); first | done | with_reducible rfl); (try simp only [Act.put, List.getElem_toArray, List.getElem_cons_succ, List.getElem_cons_zero, List.setIfInBounds_toArray, List.set_cons_zero, List.set_cons_succ])
                        refine wpAnyH_take (i := 9 ) (v := ?_) rfl (by kernel_rfl) (by kernel_rfl) (by kernel_rfl) (fun _ _ _ h => h) (Or.inl ⟨by rfl, ?_⟩) (by assumption) ?_; rotate_left; (· (intro w0 hSw; obtain ⟨k8, e0, e1, e2⟩ := hSw; have s0 := k8.cell 0; have s1 := k8.cell 1; have s2 := k8.cell 2; clear k8; go_simp); first | done | with_reducible rfl); (try simp only [Act.put, List.getElem_toArray, List.getElem_cons_succ, List.getElem_cons_zero, List.setIfInBounds_toArray, List.set_cons_zero, List.set_cons_succ])
                        refine wpAnyH_take (i := 10 ) (v := ?_) rfl (by kernel_rfl) (by kernel_rfl) (by kernel_rfl) (fun _ _ _ h => h) (Or.inl ⟨by rfl, ?_⟩) (by assumption) ?_; rotate_left; (· (intro w0 hSw; obtain ⟨k8, e0, e1, e2⟩ := hSw; have s0 := k8.cell 0; have s1 := k8.cell 1; have s2 := k8.cell 2; clear k8; go_simp); first | done | with_reducible rfl); (try simp only [Act.put, List.getElem_toArray, List.getElem_cons_succ, List.getElem_cons_zero, List.setIfInBounds_toArray, List.set_cons_zero, List.set_cons_succ])
                        refine wpAnyH_take (i := 11 ) (v := ?_) rfl (by kernel_rfl) (by kernel_rfl) (by kernel_rfl) (fun _ _ _ h => h) (Or.inl ⟨by rfl, ?_⟩) (by assumption) ?_; rotate_left; (· (intro w0 hSw; obtain ⟨k8, e0, e1, e2⟩ := hSw; have s0 := k8.cell 0; have s1 := k8.cell 1; have s2 := k8.cell 2; clear k8; go_simp); first | done | with_reducible rfl); (try simp only [Act.put, List.getElem_toArray, List.getElem_cons_succ, List.getElem_cons_zero, List.setIfInBounds_toArray, List.set_cons_zero, List.set_cons_succ])
                        refine wpAnyH_take (i := 12 ) (v := ?_) rfl (by kernel_rfl) (by kernel_rfl) (by kernel_rfl) (fun _ _ _ h => h) (Or.inl ⟨by rfl, ?_⟩) (by assumption) ?_; rotate_left; (· (intro w0 hSw; obtain ⟨k8, e0, e1, e2⟩ := hSw; have s0 := k8.cell 0; have s1 := k8.cell 1; have s2 := k8.cell 2; clear k8; go_simp); first | done | with_reducible rfl); (try simp only [Act.put, List.getElem_toArray, List.getElem_cons_succ, List.getElem_cons_zero, List.setIfInBounds_toArray, List.set_cons_zero, List.set_cons_succ])
                        refine wpAnyH_take (i := 14 ) (v := ?_) rfl (by kernel_rfl) (by kernel_rfl) (by kernel_rfl) (fun _ _ _ h => h) (Or.inl ⟨by rfl, ?_⟩) (by assumption) ?_; rotate_left; (· (intro w0 hSw; obtain ⟨k8, e0, e1, e2⟩ := hSw; have s0 := k8.cell 0; have s1 := k8.cell 1; have s2 := k8.cell 2; clear k8; go_simp); first | done | with_reducible rfl); (try simp only [Act.put, List.getElem_toArray, List.getElem_cons_succ, List.getElem_cons_zero, List.setIfInBounds_toArray, List.set_cons_zero, List.set_cons_succ])
                        refine wpAnyH_take (i := 17 ) (v := ?_) rfl (by kernel_rfl) (by kernel_rfl) (by kernel_rfl) (fun _ _ _ h => h) (Or.inl ⟨by rfl, ?_⟩) (by assumption) ?_; rotate_left; (· (intro w0 hSw; obtain ⟨k8, e0, e1, e2⟩ := hSw; have s0 := k8.cell 0; have s1 := k8.cell 1; have s2 := k8.cell 2; clear k8; go_simp); first | done | with_reducible rfl); (try simp only [Act.put, List.getElem_toArray, List.getElem_cons_succ, List.getElem_cons_zero, List.setIfInBounds_toArray, List.set_cons_zero, List.set_cons_succ])
                        refine wpAnyH_take (i := 18 ) (v := ?_) rfl (by kernel_rfl) (by kernel_rfl) (by kernel_rfl) (fun _ _ _ h => h) (Or.inl ⟨by rfl, ?_⟩) (by assumption) ?_; rotate_left; (· (intro w0 hSw; obtain ⟨k8, e0, e1, e2⟩ := hSw; have s0 := k8.cell 0; have s1 := k8.cell 1; have s2 := k8.cell 2; clear k8; go_simp); first | done | with_reducible rfl); (try simp only [Act.put, List.getElem_toArray, List.getElem_cons_succ, List.getElem_cons_zero, List.setIfInBounds_toArray, List.set_cons_zero, List.set_cons_succ])
                        refine wpAnyH_take (i := 19 ) (v := ?_) rfl (by kernel_rfl) (by kernel_rfl) (by kernel_rfl) (fun _ _ _ h => h) (Or.inl ⟨by rfl, ?_⟩) (by assumption) ?_; rotate_left; (· (intro w0 hSw; obtain ⟨k8, e0, e1, e2⟩ := hSw; have s0 := k8.cell 0; have s1 := k8.cell 1; have s2 := k8.cell 2; clear k8; go_simp); first | done | with_reducible rfl); (try simp only [Act.put, List.getElem_toArray, List.getElem_cons_succ, List.getElem_cons_zero, List.setIfInBounds_toArray, List.set_cons_zero, List.set_cons_succ])
                        obtain ⟨⟨hw0, hw1⟩, ⟨hr0, hr1, hr2⟩, hs0, hs1, hs2⟩ := HDB.out
                        refine wpAnyH_ready (rs := [13]) (by kernel_rfl) (by simp) ?_
                        refine AllReadyH.cons (by simp only [List.getElem?_toArray, List.getElem?_cons_succ, List.getElem?_cons_zero]; rfl) (fun K hK => ?_) AllReadyH.nil
                        go_simp
                        refine (HPI.out 0 dd.wear.lo dd.wear.hi _ (by omega) (by omega) (by omega) (by omega) HS.out).mono ?_
                        rintro e V1 ⟨v1, rfl, hv1, hs⟩
                        replace HS := Lib.hid hs
                        clear hs
                        refine hK.out _ _ ⟨HS.out.of.k8, HD.out _ HS.out.of.hb⟩ (fun hH1 => ?_)
                        clear hK K
                        try simp only [List.setIfInBounds_toArray, List.set_cons_zero, List.set_cons_succ]
                        obtain ⟨-, -, -, -, ht0, ht1⟩ := HLT.out v1 p.shrink.lo hv1 ⟨Int.le_refl _, hs1⟩
                        obtain ⟨t1, hte⟩ : ∃ t, v1 * used = t := ⟨_, rfl⟩
                        rw [hte] at ht0 ht1
                        have wm1 : IntKind.i64.wrap (v1 * used) = t1 := by rw [hte]; exact wr (by omega) (by omega)
                        have wm2 : IntKind.i64.wrap (dd.wide + t1) = dd.wide + t1 := wr (by omega) (by omega)
                        have HTE := Lib.hid hte
                        clear hte
                        refine wpAnyH_take (i := 15 ) (v := ?_) rfl (by kernel_rfl) (by kernel_rfl) (by kernel_rfl) (fun _ _ _ h => h) (Or.inl ⟨by rfl, ?_⟩) (by assumption) ?_; rotate_left; (· (intro w0 hSw; obtain ⟨k8, e0, e1, e2⟩ := hSw; have s0 := k8.cell 0; have s1 := k8.cell 1; have s2 := k8.cell 2; clear k8; go_simp); first | done | with_reducible rfl); (try simp only [Act.put, List.getElem_toArray, List.getElem_cons_succ, List.getElem_cons_zero, List.setIfInBounds_toArray, List.set_cons_zero, List.set_cons_succ])
                        refine wpAnyH_take (i := 16 ) (v := ?_) rfl (by kernel_rfl) (by kernel_rfl) (by kernel_rfl) (fun _ _ _ h => h) (Or.inl ⟨by rfl, ?_⟩) (by assumption) ?_; rotate_left; (· (intro w0 hSw; obtain ⟨k8, e0, e1, e2⟩ := hSw; have s0 := k8.cell 0; have s1 := k8.cell 1; have s2 := k8.cell 2; clear k8; go_simp); first | done | with_reducible rfl); (try simp only [Act.put, List.getElem_toArray, List.getElem_cons_succ, List.getElem_cons_zero, List.setIfInBounds_toArray, List.set_cons_zero, List.set_cons_succ])
                        refine wpAnyH_ready (rs := [20]) (by kernel_rfl) (by simp) ?_
                        refine AllReadyH.cons (by simp only [List.getElem?_toArray, List.getElem?_cons_succ, List.getElem?_cons_zero]; rfl) (fun K hK => ?_) AllReadyH.nil
                        go_simp
                        refine (HPI.out 1 p.shrink.lo p.shrink.hi _ (by omega) (by omega) (by omega) (by omega) HS.out).mono ?_
                        rintro e V2 ⟨v2, rfl, hv2, hs⟩
                        replace HS := Lib.hid hs
                        clear hs
                        refine hK.out _ _ ⟨HS.out.of.k8, HD.out _ HS.out.of.hb⟩ (fun hH2 => ?_)
                        clear hK K
                        try simp only [List.setIfInBounds_toArray, List.set_cons_zero, List.set_cons_succ]
                        have hL2 := HLT.out v1 v2 hv1 hv2
                        unfold nano at hL2
                        rw [HTE.out] at hL2
                        obtain ⟨ld, hld⟩ : ∃ x, (dd.wide + t1) * (1000 - v2) = x := ⟨_, rfl⟩
                        rw [hld] at hL2
                        have wm3 : IntKind.i64.wrap (1000 - v2) = 1000 - v2 := wr (by omega) (by omega)
                        have wm4 : IntKind.i64.wrap ((dd.wide + t1) * (1000 - v2)) = ld := by rw [hld]; exact wr (by omega) (by omega)
                        have HL2 := Lib.hid hL2
                        clear hld hL2
                        refine wpAnyH_take (i := 21 ) (v := ?_) rfl (by kernel_rfl) (by kernel_rfl) (by kernel_rfl) (fun _ _ _ h => h) (Or.inl ⟨by rfl, ?_⟩) (by assumption) ?_; rotate_left; (· (intro w0 hSw; obtain ⟨k8, e0, e1, e2⟩ := hSw; have s0 := k8.cell 0; have s1 := k8.cell 1; have s2 := k8.cell 2; clear k8; go_simp); first | done | with_reducible rfl); (try simp only [Act.put, List.getElem_toArray, List.getElem_cons_succ, List.getElem_cons_zero, List.setIfInBounds_toArray, List.set_cons_zero, List.set_cons_succ])
                        refine wpAnyH_take (i := 22 ) (v := ?_) rfl (by kernel_rfl) (by kernel_rfl) (by kernel_rfl) (fun _ _ _ h => h) (Or.inl ⟨by rfl, ?_⟩) (by assumption) ?_; rotate_left; (· (intro w0 hSw; obtain ⟨k8, e0, e1, e2⟩ := hSw; have s0 := k8.cell 0; have s1 := k8.cell 1; have s2 := k8.cell 2; clear k8; go_simp); first | done | with_reducible rfl); (try simp only [Act.put, List.getElem_toArray, List.getElem_cons_succ, List.getElem_cons_zero, List.setIfInBounds_toArray, List.set_cons_zero, List.set_cons_succ])
                        refine wpAnyH_take (i := 23 ) (v := ?_) rfl (by kernel_rfl) (by kernel_rfl) (by kernel_rfl) (fun _ _ _ h => h) (Or.inl ⟨by rfl, ?_⟩) (by assumption) ?_; rotate_left; (· (intro w0 hSw; obtain ⟨k8, e0, e1, e2⟩ := hSw; have s0 := k8.cell 0; have s1 := k8.cell 1; have s2 := k8.cell 2; clear k8; go_simp); first | done | with_reducible rfl); (try simp only [Act.put, List.getElem_toArray, List.getElem_cons_succ, List.getElem_cons_zero, List.setIfInBounds_toArray, List.set_cons_zero, List.set_cons_succ])
                        refine wpAnyH_done (by kernel_rfl) ?_ _
                        have HLD : Hid ((1000 * j.lead.lo ≤ ld ∧ ld ≤ 1000 * j.lead.hi) ∧ 0 ≤ ld ∧ ld ≤ 1820000000) := Lib.hid ⟨by rw [HJL.out]; exact ⟨HL2.out.1, HL2.out.2.1⟩, HL2.out.2.2.1, HL2.out.2.2.2.1⟩
                        clear HL2 wm1 wm2 wm3 wm4 HTE ht0 ht1 hv1 hv2 hw0 hw1 hr0 hr1 hr2 hs0 hs1 hs2 hAe HAE HLT HDB HD HJL
                        go_wp2_with fail
                        replace HS := Lib.hid (HS.out.call (Below.refl _ _).drew)
                        have HBD := Lib.hid (pick_bds HI.out.1 HI.out.2.1 HI.out.2.2)
                        refine wp_region_held_drew (S := fun W => Blk W (w.heap.size + 1) 25 #[.int .i64 j.glue.lo, .int .i64 j.glue.hi, .int .i64 j.lead.lo, .int .i64 j.lead.hi, .int .i64 j.side.lo, .int .i64 j.side.hi, .int .i64 j.height.lo, .int .i64 j.height.hi, .int .i64 j.play, .int .i64 j.grooves] ∧ Blk W (w.heap.size + 1 + 1) 37 #[.int .i64 a.thick.lo, .int .i64 a.thick.hi, .int .i64 a.depth.lo, .int .i64 a.depth.hi, .int .i64 a.shift.lo, .int .i64 a.shift.hi, .int .i64 a.pitch.lo, .int .i64 a.pitch.hi] ∧ Blk W (w.heap.size + 1 + 1 + 1) 37 #[.int .i64 b.thick.lo, .int .i64 b.thick.hi, .int .i64 b.depth.lo, .int .i64 b.depth.hi, .int .i64 b.shift.lo, .int .i64 b.shift.hi, .int .i64 b.pitch.lo, .int .i64 b.pitch.hi]) (by kernel_rfl) ⟨HS.out.of.k11, HS.out.of.k12, HS.out.of.k13⟩ (fun hH0 => ?_)
                        generalize World.drew _ = V0 at *
                        simp only [List.size_toArray, List.length_cons, List.length_nil, Nat.reduceAdd, Array.replicate_succ, Array.replicate_zero, List.push_toArray, List.nil_append, List.cons_append]
                        refine wpAnyH_take (i := 0 ) (v := ?_) rfl (by kernel_rfl) (by kernel_rfl) (by kernel_rfl) (fun _ _ _ h => h) (Or.inl ⟨by rfl, ?_⟩) (by assumption) ?_; rotate_left; (· (intro w0 hSw; clear hSw; go_simp); first | done | with_reducible rfl); (try simp only [Act.put, List.getElem_toArray, List.getElem_cons_zero, List.setIfInBounds_toArray, List.set_cons_zero, List.set_cons_succ])
                        refine wpAnyH_take (i := 1 ) (v := ?_) rfl (by kernel_rfl) (by kernel_rfl) (by kernel_rfl) (fun _ _ _ h => h) (Or.inl ⟨by rfl, ?_⟩) (by assumption) ?_; rotate_left; (· (intro w0 hSw; clear hSw; go_simp); first | done | with_reducible rfl); (try simp only [Act.put, List.getElem_toArray, List.getElem_cons_succ, List.getElem_cons_zero, List.setIfInBounds_toArray, List.set_cons_zero, List.set_cons_succ])
                        refine wpAnyH_take (i := 2 ) (v := ?_) rfl (by kernel_rfl) (by kernel_rfl) (by kernel_rfl) (fun _ _ _ h => h) (Or.inl ⟨by rfl, ?_⟩) (by assumption) ?_; rotate_left; (· (intro w0 hSw; have e0 := hSw.2.1.cell 0; have e1 := hSw.2.1.cell 1; clear hSw; go_simp); first | done | with_reducible rfl); (try simp only [Act.put, List.getElem_toArray, List.getElem_cons_succ, List.getElem_cons_zero, List.setIfInBounds_toArray, List.set_cons_zero, List.set_cons_succ])
                        refine wpAnyH_take (i := 4 ) (v := ?_) rfl (by kernel_rfl) (by kernel_rfl) (by kernel_rfl) (fun _ _ _ h => h) (Or.inl ⟨by rfl, ?_⟩) (by assumption) ?_; rotate_left; (· (intro w0 hSw; clear hSw; go_simp); first | done | with_reducible rfl); (try simp only [Act.put, List.getElem_toArray, List.getElem_cons_succ, List.getElem_cons_zero, List.setIfInBounds_toArray, List.set_cons_zero, List.set_cons_succ])
                        refine wpAnyH_take (i := 5 ) (v := ?_) rfl (by kernel_rfl) (by kernel_rfl) (by kernel_rfl) (fun _ _ _ h => h) (Or.inl ⟨by rfl, ?_⟩) (by assumption) ?_; rotate_left; (· (intro w0 hSw; clear hSw; go_simp); first | done | with_reducible rfl); (try simp only [Act.put, List.getElem_toArray, List.getElem_cons_succ, List.getElem_cons_zero, List.setIfInBounds_toArray, List.set_cons_zero, List.set_cons_succ])
                        refine wpAnyH_take (i := 6 ) (v := ?_) rfl (by kernel_rfl) (by kernel_rfl) (by kernel_rfl) (fun _ _ _ h => h) (Or.inl ⟨by rfl, ?_⟩) (by assumption) ?_; rotate_left; (· (intro w0 hSw; have e0 := hSw.2.2.cell 0; have e1 := hSw.2.2.cell 1; clear hSw; go_simp); first | done | with_reducible rfl); (try simp only [Act.put, List.getElem_toArray, List.getElem_cons_succ, List.getElem_cons_zero, List.setIfInBounds_toArray, List.set_cons_zero, List.set_cons_succ])
                        refine wpAnyH_take (i := 8 ) (v := ?_) rfl (by kernel_rfl) (by kernel_rfl) (by kernel_rfl) (fun _ _ _ h => h) (Or.inl ⟨by rfl, ?_⟩) (by assumption) ?_; rotate_left; (· (intro w0 hSw; clear hSw; go_simp); first | done | with_reducible rfl); (try simp only [Act.put, List.getElem_toArray, List.getElem_cons_succ, List.getElem_cons_zero, List.setIfInBounds_toArray, List.set_cons_zero, List.set_cons_succ])
                        refine wpAnyH_take (i := 9 ) (v := ?_) rfl (by kernel_rfl) (by kernel_rfl) (by kernel_rfl) (fun _ _ _ h => h) (Or.inl ⟨by rfl, ?_⟩) (by assumption) ?_; rotate_left; (· (intro w0 hSw; clear hSw; go_simp); first | done | with_reducible rfl); (try simp only [Act.put, List.getElem_toArray, List.getElem_cons_succ, List.getElem_cons_zero, List.setIfInBounds_toArray, List.set_cons_zero, List.set_cons_succ])
                        refine wpAnyH_take (i := 10 ) (v := ?_) rfl (by kernel_rfl) (by kernel_rfl) (by kernel_rfl) (fun _ _ _ h => h) (Or.inl ⟨by rfl, ?_⟩) (by assumption) ?_; rotate_left; (· (intro w0 hSw; have e0 := hSw.2.1.cell 2; have e1 := hSw.2.1.cell 3; clear hSw; go_simp); first | done | with_reducible rfl); (try simp only [Act.put, List.getElem_toArray, List.getElem_cons_succ, List.getElem_cons_zero, List.setIfInBounds_toArray, List.set_cons_zero, List.set_cons_succ])
                        refine wpAnyH_take (i := 12 ) (v := ?_) rfl (by kernel_rfl) (by kernel_rfl) (by kernel_rfl) (fun _ _ _ h => h) (Or.inl ⟨by rfl, ?_⟩) (by assumption) ?_; rotate_left; (· (intro w0 hSw; clear hSw; go_simp); first | done | with_reducible rfl); (try simp only [Act.put, List.getElem_toArray, List.getElem_cons_succ, List.getElem_cons_zero, List.setIfInBounds_toArray, List.set_cons_zero, List.set_cons_succ])
                        refine wpAnyH_take (i := 13 ) (v := ?_) rfl (by kernel_rfl) (by kernel_rfl) (by kernel_rfl) (fun _ _ _ h => h) (Or.inl ⟨by rfl, ?_⟩) (by assumption) ?_; rotate_left; (· (intro w0 hSw; clear hSw; go_simp); first | done | with_reducible rfl); (try simp only [Act.put, List.getElem_toArray, List.getElem_cons_succ, List.getElem_cons_zero, List.setIfInBounds_toArray, List.set_cons_zero, List.set_cons_succ])
                        refine wpAnyH_take (i := 14 ) (v := ?_) rfl (by kernel_rfl) (by kernel_rfl) (by kernel_rfl) (fun _ _ _ h => h) (Or.inl ⟨by rfl, ?_⟩) (by assumption) ?_; rotate_left; (· (intro w0 hSw; have e0 := hSw.2.2.cell 2; have e1 := hSw.2.2.cell 3; clear hSw; go_simp); first | done | with_reducible rfl); (try simp only [Act.put, List.getElem_toArray, List.getElem_cons_succ, List.getElem_cons_zero, List.setIfInBounds_toArray, List.set_cons_zero, List.set_cons_succ])
                        refine wpAnyH_take (i := 16 ) (v := ?_) rfl (by kernel_rfl) (by kernel_rfl) (by kernel_rfl) (fun _ _ _ h => h) (Or.inl ⟨by rfl, ?_⟩) (by assumption) ?_; rotate_left; (· (intro w0 hSw; clear hSw; go_simp); first | done | with_reducible rfl); (try simp only [Act.put, List.getElem_toArray, List.getElem_cons_succ, List.getElem_cons_zero, List.setIfInBounds_toArray, List.set_cons_zero, List.set_cons_succ])
                        refine wpAnyH_take (i := 17 ) (v := ?_) rfl (by kernel_rfl) (by kernel_rfl) (by kernel_rfl) (fun _ _ _ h => h) (Or.inl ⟨by rfl, ?_⟩) (by assumption) ?_; rotate_left; (· (intro w0 hSw; clear hSw; go_simp); first | done | with_reducible rfl); (try simp only [Act.put, List.getElem_toArray, List.getElem_cons_succ, List.getElem_cons_zero, List.setIfInBounds_toArray, List.set_cons_zero, List.set_cons_succ])
                        refine wpAnyH_take (i := 18 ) (v := ?_) rfl (by kernel_rfl) (by kernel_rfl) (by kernel_rfl) (fun _ _ _ h => h) (Or.inl ⟨by rfl, ?_⟩) (by assumption) ?_; rotate_left; (· (intro w0 hSw; have e0 := hSw.1.cell 0; have e1 := hSw.1.cell 1; clear hSw; go_simp); first | done | with_reducible rfl); (try simp only [Act.put, List.getElem_toArray, List.getElem_cons_succ, List.getElem_cons_zero, List.setIfInBounds_toArray, List.set_cons_zero, List.set_cons_succ])
                        refine wpAnyH_take (i := 20 ) (v := ?_) rfl (by kernel_rfl) (by kernel_rfl) (by kernel_rfl) (fun _ _ _ h => h) (Or.inl ⟨by rfl, ?_⟩) (by assumption) ?_; rotate_left; (· (intro w0 hSw; clear hSw; go_simp); first | done | with_reducible rfl); (try simp only [Act.put, List.getElem_toArray, List.getElem_cons_succ, List.getElem_cons_zero, List.setIfInBounds_toArray, List.set_cons_zero, List.set_cons_succ])
                        refine wpAnyH_take (i := 21 ) (v := ?_) rfl (by kernel_rfl) (by kernel_rfl) (by kernel_rfl) (fun _ _ _ h => h) (Or.inl ⟨by rfl, ?_⟩) (by assumption) ?_; rotate_left; (· (intro w0 hSw; clear hSw; go_simp); first | done | with_reducible rfl); (try simp only [Act.put, List.getElem_toArray, List.getElem_cons_succ, List.getElem_cons_zero, List.setIfInBounds_toArray, List.set_cons_zero, List.set_cons_succ])
                        refine wpAnyH_take (i := 22 ) (v := ?_) rfl (by kernel_rfl) (by kernel_rfl) (by kernel_rfl) (fun _ _ _ h => h) (Or.inl ⟨by rfl, ?_⟩) (by assumption) ?_; rotate_left; (· (intro w0 hSw; have e0 := hSw.1.cell 6; have e1 := hSw.1.cell 7; clear hSw; go_simp); first | done | with_reducible rfl); (try simp only [Act.put, List.getElem_toArray, List.getElem_cons_succ, List.getElem_cons_zero, List.setIfInBounds_toArray, List.set_cons_zero, List.set_cons_succ])
                        refine wpAnyH_ready (rs := [3]) (by kernel_rfl) (by simp) ?_
                        refine AllReadyH.cons (by simp only [List.getElem?_toArray, List.getElem?_cons_succ, List.getElem?_cons_zero]; rfl) (fun K hK => ?_) AllReadyH.nil
                        go_simp
                        refine (HPI.out 2 a.thick.lo a.thick.hi _ (by omega) HBD.out.1.1 HBD.out.1.2.1 HBD.out.1.2.2 HS.out).mono ?_
                        rintro e V1 ⟨tk, rfl, htk, hs⟩
                        replace HS := Lib.hid hs
                        clear hs
                        refine hK.out _ _ ⟨HS.out.of.k11, HS.out.of.k12, HS.out.of.k13⟩ (fun hH1 => ?_)
                        clear hK K
                        try simp only [List.setIfInBounds_toArray, List.set_cons_zero, List.set_cons_succ]
                        have Htk := Lib.hid htk
                        clear htk
                        refine wpAnyH_ready (rs := [7]) (by kernel_rfl) (by simp) ?_
                        refine AllReadyH.cons (by simp only [List.getElem?_toArray, List.getElem?_cons_succ, List.getElem?_cons_zero]; rfl) (fun K hK => ?_) AllReadyH.nil
                        go_simp
                        refine (HPI.out 3 b.thick.lo b.thick.hi _ (by omega) HBD.out.2.1.1 HBD.out.2.1.2.1 HBD.out.2.1.2.2 HS.out).mono ?_
                        rintro e V2 ⟨ot, rfl, hot, hs⟩
                        replace HS := Lib.hid hs
                        clear hs
                        refine hK.out _ _ ⟨HS.out.of.k11, HS.out.of.k12, HS.out.of.k13⟩ (fun hH2 => ?_)
                        clear hK K
                        try simp only [List.setIfInBounds_toArray, List.set_cons_zero, List.set_cons_succ]
                        have Hot := Lib.hid hot
                        clear hot
                        refine wpAnyH_ready (rs := [11]) (by kernel_rfl) (by simp) ?_
                        refine AllReadyH.cons (by simp only [List.getElem?_toArray, List.getElem?_cons_succ, List.getElem?_cons_zero]; rfl) (fun K hK => ?_) AllReadyH.nil
                        go_simp
                        refine (HPI.out 4 a.depth.lo a.depth.hi _ (by omega) HBD.out.2.2.1.1 HBD.out.2.2.1.2.1 HBD.out.2.2.1.2.2 HS.out).mono ?_
                        rintro e V3 ⟨dp, rfl, hdp, hs⟩
                        replace HS := Lib.hid hs
                        clear hs
                        refine hK.out _ _ ⟨HS.out.of.k11, HS.out.of.k12, HS.out.of.k13⟩ (fun hH3 => ?_)
                        clear hK K
                        try simp only [List.setIfInBounds_toArray, List.set_cons_zero, List.set_cons_succ]
                        have Hdp := Lib.hid hdp
                        clear hdp
                        refine wpAnyH_ready (rs := [15]) (by kernel_rfl) (by simp) ?_
                        refine AllReadyH.cons (by simp only [List.getElem?_toArray, List.getElem?_cons_succ, List.getElem?_cons_zero]; rfl) (fun K hK => ?_) AllReadyH.nil
                        go_simp
                        refine (HPI.out 5 b.depth.lo b.depth.hi _ (by omega) HBD.out.2.2.2.1.1 HBD.out.2.2.2.1.2.1 HBD.out.2.2.2.1.2.2 HS.out).mono ?_
                        rintro e V4 ⟨ov, rfl, hov, hs⟩
                        replace HS := Lib.hid hs
                        clear hs
                        refine hK.out _ _ ⟨HS.out.of.k11, HS.out.of.k12, HS.out.of.k13⟩ (fun hH4 => ?_)
                        clear hK K
                        try simp only [List.setIfInBounds_toArray, List.set_cons_zero, List.set_cons_succ]
                        have Hov := Lib.hid hov
                        clear hov
                        refine wpAnyH_ready (rs := [19]) (by kernel_rfl) (by simp) ?_
                        refine AllReadyH.cons (by simp only [List.getElem?_toArray, List.getElem?_cons_succ, List.getElem?_cons_zero]; rfl) (fun K hK => ?_) AllReadyH.nil
                        go_simp
                        refine (HPI.out 6 j.glue.lo j.glue.hi _ (by omega) HBD.out.2.2.2.2.1.1 HBD.out.2.2.2.2.1.2.1 HBD.out.2.2.2.2.1.2.2 HS.out).mono ?_
                        rintro e V5 ⟨gl, rfl, hgl, hs⟩
                        replace HS := Lib.hid hs
                        clear hs
                        refine hK.out _ _ ⟨HS.out.of.k11, HS.out.of.k12, HS.out.of.k13⟩ (fun hH5 => ?_)
                        clear hK K
                        try simp only [List.setIfInBounds_toArray, List.set_cons_zero, List.set_cons_succ]
                        have Hgl := Lib.hid hgl
                        clear hgl
                        refine wpAnyH_ready (rs := [23]) (by kernel_rfl) (by simp) ?_
                        refine AllReadyH.cons (by simp only [List.getElem?_toArray, List.getElem?_cons_succ, List.getElem?_cons_zero]; rfl) (fun K hK => ?_) AllReadyH.nil
                        go_simp
                        refine (HPI.out 7 j.height.lo j.height.hi _ (by omega) HBD.out.2.2.2.2.2.1.1 HBD.out.2.2.2.2.2.1.2.1 HBD.out.2.2.2.2.2.1.2.2 HS.out).mono ?_
                        rintro e V6 ⟨ht, rfl, hht, hs⟩
                        replace HS := Lib.hid hs
                        clear hs
                        refine hK.out _ _ ⟨HS.out.of.k11, HS.out.of.k12, HS.out.of.k13⟩ (fun hH6 => ?_)
                        clear hK K
                        try simp only [List.setIfInBounds_toArray, List.set_cons_zero, List.set_cons_succ]
                        have Hht := Lib.hid hht
                        clear hht
                        refine wpAnyH_take (i := 24 ) (v := ?_) rfl (by kernel_rfl) (by kernel_rfl) (by kernel_rfl) (fun _ _ _ h => h) (Or.inl ⟨by rfl, ?_⟩) (by assumption) ?_; rotate_left; (· (intro w0 hSw; clear hSw; go_simp); first | done | with_reducible rfl); (try simp only [Act.put, List.getElem_toArray, List.getElem_cons_succ, List.getElem_cons_zero, List.setIfInBounds_toArray, List.set_cons_zero, List.set_cons_succ])
                        refine wpAnyH_take (i := 25 ) (v := ?_) rfl (by kernel_rfl) (by kernel_rfl) (by kernel_rfl) (fun _ _ _ h => h) (Or.inl ⟨by rfl, ?_⟩) (by assumption) ?_; rotate_left; (· (intro w0 hSw; clear hSw; go_simp); first | done | with_reducible rfl); (try simp only [Act.put, List.getElem_toArray, List.getElem_cons_succ, List.getElem_cons_zero, List.setIfInBounds_toArray, List.set_cons_zero, List.set_cons_succ])
                        refine wpAnyH_take (i := 26 ) (v := ?_) rfl (by kernel_rfl) (by kernel_rfl) (by kernel_rfl) (fun _ _ _ h => h) (Or.inl ⟨by rfl, ?_⟩) (by assumption) ?_; rotate_left; (· (intro w0 hSw; clear hSw; go_simp); first | done | with_reducible rfl); (try simp only [Act.put, List.getElem_toArray, List.getElem_cons_succ, List.getElem_cons_zero, List.setIfInBounds_toArray, List.set_cons_zero, List.set_cons_succ])
                        refine wpAnyH_take (i := 27 ) (v := ?_) rfl (by kernel_rfl) (by kernel_rfl) (by kernel_rfl) (fun _ _ _ h => h) (Or.inl ⟨by rfl, ?_⟩) (by assumption) ?_; rotate_left; (· (intro w0 hSw; clear hSw; go_simp); first | done | with_reducible rfl); (try simp only [Act.put, List.getElem_toArray, List.getElem_cons_succ, List.getElem_cons_zero, List.setIfInBounds_toArray, List.set_cons_zero, List.set_cons_succ])
                        refine wpAnyH_take (i := 28 ) (v := ?_) rfl (by kernel_rfl) (by kernel_rfl) (by kernel_rfl) (fun _ _ _ h => h) (Or.inl ⟨by rfl, ?_⟩) (by assumption) ?_; rotate_left; (· (intro w0 hSw; clear hSw; go_simp); first | done | with_reducible rfl); (try simp only [Act.put, List.getElem_toArray, List.getElem_cons_succ, List.getElem_cons_zero, List.setIfInBounds_toArray, List.set_cons_zero, List.set_cons_succ])
                        refine wpAnyH_take (i := 29 ) (v := ?_) rfl (by kernel_rfl) (by kernel_rfl) (by kernel_rfl) (fun _ _ _ h => h) (Or.inl ⟨by rfl, ?_⟩) (by assumption) ?_; rotate_left; (· (intro w0 hSw; clear hSw; go_simp); first | done | with_reducible rfl); (try simp only [Act.put, List.getElem_toArray, List.getElem_cons_succ, List.getElem_cons_zero, List.setIfInBounds_toArray, List.set_cons_zero, List.set_cons_succ])
                        refine wpAnyH_done (by kernel_rfl) ?_ _
                        go_wp2_with fail
                        replace HS := Lib.hid (HS.out.call (Below.refl _ _).drew)
                        refine wp_region_held_drew (S := fun W => Blk W (w.heap.size + 1) 25 #[.int .i64 j.glue.lo, .int .i64 j.glue.hi, .int .i64 j.lead.lo, .int .i64 j.lead.hi, .int .i64 j.side.lo, .int .i64 j.side.hi, .int .i64 j.height.lo, .int .i64 j.height.hi, .int .i64 j.play, .int .i64 j.grooves] ∧ Blk W (w.heap.size + 1 + 1) 37 #[.int .i64 a.thick.lo, .int .i64 a.thick.hi, .int .i64 a.depth.lo, .int .i64 a.depth.hi, .int .i64 a.shift.lo, .int .i64 a.shift.hi, .int .i64 a.pitch.lo, .int .i64 a.pitch.hi] ∧ Blk W (w.heap.size + 1 + 1 + 1) 37 #[.int .i64 b.thick.lo, .int .i64 b.thick.hi, .int .i64 b.depth.lo, .int .i64 b.depth.hi, .int .i64 b.shift.lo, .int .i64 b.shift.hi, .int .i64 b.pitch.lo, .int .i64 b.pitch.hi]) (by kernel_rfl) ⟨HS.out.of.k11, HS.out.of.k12, HS.out.of.k13⟩ (fun hH0 => ?_)
                        generalize World.drew _ = V0 at *
                        simp only [List.size_toArray, List.length_cons, List.length_nil, Nat.reduceAdd, Array.replicate_succ, Array.replicate_zero, List.push_toArray, List.nil_append, List.cons_append]
                        refine wpAnyH_take (i := 0 ) (v := ?_) rfl (by kernel_rfl) (by kernel_rfl) (by kernel_rfl) (fun _ _ _ h => h) (Or.inl ⟨by rfl, ?_⟩) (by assumption) ?_; rotate_left; (· (intro w0 hSw; clear hSw; go_simp); first | done | with_reducible rfl); (try simp only [Act.put, List.getElem_toArray, List.getElem_cons_zero, List.setIfInBounds_toArray, List.set_cons_zero, List.set_cons_succ])
                        refine wpAnyH_take (i := 1 ) (v := ?_) rfl (by kernel_rfl) (by kernel_rfl) (by kernel_rfl) (fun _ _ _ h => h) (Or.inl ⟨by rfl, ?_⟩) (by assumption) ?_; rotate_left; (· (intro w0 hSw; clear hSw; go_simp); first | done | with_reducible rfl); (try simp only [Act.put, List.getElem_toArray, List.getElem_cons_succ, List.getElem_cons_zero, List.setIfInBounds_toArray, List.set_cons_zero, List.set_cons_succ])
                        refine wpAnyH_take (i := 2 ) (v := ?_) rfl (by kernel_rfl) (by kernel_rfl) (by kernel_rfl) (fun _ _ _ h => h) (Or.inl ⟨by rfl, ?_⟩) (by assumption) ?_; rotate_left; (· (intro w0 hSw; have e0 := hSw.2.1.cell 4; have e1 := hSw.2.1.cell 5; clear hSw; go_simp); first | done | with_reducible rfl); (try simp only [Act.put, List.getElem_toArray, List.getElem_cons_succ, List.getElem_cons_zero, List.setIfInBounds_toArray, List.set_cons_zero, List.set_cons_succ])
                        refine wpAnyH_take (i := 4 ) (v := ?_) rfl (by kernel_rfl) (by kernel_rfl) (by kernel_rfl) (fun _ _ _ h => h) (Or.inl ⟨by rfl, ?_⟩) (by assumption) ?_; rotate_left; (· (intro w0 hSw; clear hSw; go_simp); first | done | with_reducible rfl); (try simp only [Act.put, List.getElem_toArray, List.getElem_cons_succ, List.getElem_cons_zero, List.setIfInBounds_toArray, List.set_cons_zero, List.set_cons_succ])
                        refine wpAnyH_take (i := 5 ) (v := ?_) rfl (by kernel_rfl) (by kernel_rfl) (by kernel_rfl) (fun _ _ _ h => h) (Or.inl ⟨by rfl, ?_⟩) (by assumption) ?_; rotate_left; (· (intro w0 hSw; clear hSw; go_simp); first | done | with_reducible rfl); (try simp only [Act.put, List.getElem_toArray, List.getElem_cons_succ, List.getElem_cons_zero, List.setIfInBounds_toArray, List.set_cons_zero, List.set_cons_succ])
                        refine wpAnyH_take (i := 6 ) (v := ?_) rfl (by kernel_rfl) (by kernel_rfl) (by kernel_rfl) (fun _ _ _ h => h) (Or.inl ⟨by rfl, ?_⟩) (by assumption) ?_; rotate_left; (· (intro w0 hSw; have e0 := hSw.2.1.cell 6; have e1 := hSw.2.1.cell 7; clear hSw; go_simp); first | done | with_reducible rfl); (try simp only [Act.put, List.getElem_toArray, List.getElem_cons_succ, List.getElem_cons_zero, List.setIfInBounds_toArray, List.set_cons_zero, List.set_cons_succ])
                        refine wpAnyH_take (i := 8 ) (v := ?_) rfl (by kernel_rfl) (by kernel_rfl) (by kernel_rfl) (fun _ _ _ h => h) (Or.inl ⟨by rfl, ?_⟩) (by assumption) ?_; rotate_left; (· (intro w0 hSw; clear hSw; go_simp); first | done | with_reducible rfl); (try simp only [Act.put, List.getElem_toArray, List.getElem_cons_succ, List.getElem_cons_zero, List.setIfInBounds_toArray, List.set_cons_zero, List.set_cons_succ])
                        refine wpAnyH_take (i := 9 ) (v := ?_) rfl (by kernel_rfl) (by kernel_rfl) (by kernel_rfl) (fun _ _ _ h => h) (Or.inl ⟨by rfl, ?_⟩) (by assumption) ?_; rotate_left; (· (intro w0 hSw; clear hSw; go_simp); first | done | with_reducible rfl); (try simp only [Act.put, List.getElem_toArray, List.getElem_cons_succ, List.getElem_cons_zero, List.setIfInBounds_toArray, List.set_cons_zero, List.set_cons_succ])
                        refine wpAnyH_take (i := 10 ) (v := ?_) rfl (by kernel_rfl) (by kernel_rfl) (by kernel_rfl) (fun _ _ _ h => h) (Or.inl ⟨by rfl, ?_⟩) (by assumption) ?_; rotate_left; (· (intro w0 hSw; have e0 := hSw.2.2.cell 4; have e1 := hSw.2.2.cell 5; clear hSw; go_simp); first | done | with_reducible rfl); (try simp only [Act.put, List.getElem_toArray, List.getElem_cons_succ, List.getElem_cons_zero, List.setIfInBounds_toArray, List.set_cons_zero, List.set_cons_succ])
                        refine wpAnyH_take (i := 12 ) (v := ?_) rfl (by kernel_rfl) (by kernel_rfl) (by kernel_rfl) (fun _ _ _ h => h) (Or.inl ⟨by rfl, ?_⟩) (by assumption) ?_; rotate_left; (· (intro w0 hSw; clear hSw; go_simp); first | done | with_reducible rfl); (try simp only [Act.put, List.getElem_toArray, List.getElem_cons_succ, List.getElem_cons_zero, List.setIfInBounds_toArray, List.set_cons_zero, List.set_cons_succ])
                        refine wpAnyH_take (i := 13 ) (v := ?_) rfl (by kernel_rfl) (by kernel_rfl) (by kernel_rfl) (fun _ _ _ h => h) (Or.inl ⟨by rfl, ?_⟩) (by assumption) ?_; rotate_left; (· (intro w0 hSw; clear hSw; go_simp); first | done | with_reducible rfl); (try simp only [Act.put, List.getElem_toArray, List.getElem_cons_succ, List.getElem_cons_zero, List.setIfInBounds_toArray, List.set_cons_zero, List.set_cons_succ])
                        refine wpAnyH_take (i := 14 ) (v := ?_) rfl (by kernel_rfl) (by kernel_rfl) (by kernel_rfl) (fun _ _ _ h => h) (Or.inl ⟨by rfl, ?_⟩) (by assumption) ?_; rotate_left; (· (intro w0 hSw; have e0 := hSw.2.2.cell 6; have e1 := hSw.2.2.cell 7; clear hSw; go_simp); first | done | with_reducible rfl); (try simp only [Act.put, List.getElem_toArray, List.getElem_cons_succ, List.getElem_cons_zero, List.setIfInBounds_toArray, List.set_cons_zero, List.set_cons_succ])
                        refine wpAnyH_take (i := 16 ) (v := ?_) rfl (by kernel_rfl) (by kernel_rfl) (by kernel_rfl) (fun _ _ _ h => h) (Or.inl ⟨by rfl, ?_⟩) (by assumption) ?_; rotate_left; (· (intro w0 hSw; clear hSw; go_simp); first | done | with_reducible rfl); (try simp only [Act.put, List.getElem_toArray, List.getElem_cons_succ, List.getElem_cons_zero, List.setIfInBounds_toArray, List.set_cons_zero, List.set_cons_succ])
                        refine wpAnyH_take (i := 17 ) (v := ?_) rfl (by kernel_rfl) (by kernel_rfl) (by kernel_rfl) (fun _ _ _ h => h) (Or.inl ⟨by rfl, ?_⟩) (by assumption) ?_; rotate_left; (· (intro w0 hSw; clear hSw; go_simp); first | done | with_reducible rfl); (try simp only [Act.put, List.getElem_toArray, List.getElem_cons_succ, List.getElem_cons_zero, List.setIfInBounds_toArray, List.set_cons_zero, List.set_cons_succ])
                        refine wpAnyH_take (i := 18 ) (v := ?_) rfl (by kernel_rfl) (by kernel_rfl) (by kernel_rfl) (fun _ _ _ h => h) (Or.inl ⟨by rfl, ?_⟩) (by assumption) ?_; rotate_left; (· (intro w0 hSw; have e0 := hSw.1.cell 4; have e1 := hSw.1.cell 5; clear hSw; go_simp); first | done | with_reducible rfl); (try simp only [Act.put, List.getElem_toArray, List.getElem_cons_succ, List.getElem_cons_zero, List.setIfInBounds_toArray, List.set_cons_zero, List.set_cons_succ])
                        refine wpAnyH_ready (rs := [3]) (by kernel_rfl) (by simp) ?_
                        refine AllReadyH.cons (by simp only [List.getElem?_toArray, List.getElem?_cons_succ, List.getElem?_cons_zero]; rfl) (fun K hK => ?_) AllReadyH.nil
                        go_simp
                        refine (HPI.out 8 a.shift.lo a.shift.hi _ (by omega) HBD.out.2.2.2.2.2.2.1.1 HBD.out.2.2.2.2.2.2.1.2.1 HBD.out.2.2.2.2.2.2.1.2.2 HS.out).mono ?_
                        rintro e V1 ⟨sh, rfl, hsh, hs⟩
                        replace HS := Lib.hid hs
                        clear hs
                        refine hK.out _ _ ⟨HS.out.of.k11, HS.out.of.k12, HS.out.of.k13⟩ (fun hH1 => ?_)
                        clear hK K
                        try simp only [List.setIfInBounds_toArray, List.set_cons_zero, List.set_cons_succ]
                        have Hsh := Lib.hid hsh
                        clear hsh
                        refine wpAnyH_ready (rs := [7]) (by kernel_rfl) (by simp) ?_
                        refine AllReadyH.cons (by simp only [List.getElem?_toArray, List.getElem?_cons_succ, List.getElem?_cons_zero]; rfl) (fun K hK => ?_) AllReadyH.nil
                        go_simp
                        refine (HPI.out 9 a.pitch.lo a.pitch.hi _ (by omega) HBD.out.2.2.2.2.2.2.2.1.1 HBD.out.2.2.2.2.2.2.2.1.2.1 HBD.out.2.2.2.2.2.2.2.1.2.2 HS.out).mono ?_
                        rintro e V2 ⟨pi, rfl, hpi, hs⟩
                        replace HS := Lib.hid hs
                        clear hs
                        refine hK.out _ _ ⟨HS.out.of.k11, HS.out.of.k12, HS.out.of.k13⟩ (fun hH2 => ?_)
                        clear hK K
                        try simp only [List.setIfInBounds_toArray, List.set_cons_zero, List.set_cons_succ]
                        have Hpi := Lib.hid hpi
                        clear hpi
                        refine wpAnyH_ready (rs := [11]) (by kernel_rfl) (by simp) ?_
                        refine AllReadyH.cons (by simp only [List.getElem?_toArray, List.getElem?_cons_succ, List.getElem?_cons_zero]; rfl) (fun K hK => ?_) AllReadyH.nil
                        go_simp
                        refine (HPI.out 10 b.shift.lo b.shift.hi _ (by omega) HBD.out.2.2.2.2.2.2.2.2.1.1 HBD.out.2.2.2.2.2.2.2.2.1.2.1 HBD.out.2.2.2.2.2.2.2.2.1.2.2 HS.out).mono ?_
                        rintro e V3 ⟨le, rfl, hle, hs⟩
                        replace HS := Lib.hid hs
                        clear hs
                        refine hK.out _ _ ⟨HS.out.of.k11, HS.out.of.k12, HS.out.of.k13⟩ (fun hH3 => ?_)
                        clear hK K
                        try simp only [List.setIfInBounds_toArray, List.set_cons_zero, List.set_cons_succ]
                        have Hle := Lib.hid hle
                        clear hle
                        refine wpAnyH_ready (rs := [15]) (by kernel_rfl) (by simp) ?_
                        refine AllReadyH.cons (by simp only [List.getElem?_toArray, List.getElem?_cons_succ, List.getElem?_cons_zero]; rfl) (fun K hK => ?_) AllReadyH.nil
                        go_simp
                        refine (HPI.out 11 b.pitch.lo b.pitch.hi _ (by omega) HBD.out.2.2.2.2.2.2.2.2.2.1.1 HBD.out.2.2.2.2.2.2.2.2.2.1.2.1 HBD.out.2.2.2.2.2.2.2.2.2.1.2.2 HS.out).mono ?_
                        rintro e V4 ⟨tu, rfl, htu, hs⟩
                        replace HS := Lib.hid hs
                        clear hs
                        refine hK.out _ _ ⟨HS.out.of.k11, HS.out.of.k12, HS.out.of.k13⟩ (fun hH4 => ?_)
                        clear hK K
                        try simp only [List.setIfInBounds_toArray, List.set_cons_zero, List.set_cons_succ]
                        have Htu := Lib.hid htu
                        clear htu
                        refine wpAnyH_ready (rs := [19]) (by kernel_rfl) (by simp) ?_
                        refine AllReadyH.cons (by simp only [List.getElem?_toArray, List.getElem?_cons_succ, List.getElem?_cons_zero]; rfl) (fun K hK => ?_) AllReadyH.nil
                        go_simp
                        refine (HPI.out 12 j.side.lo j.side.hi _ (by omega) HBD.out.2.2.2.2.2.2.2.2.2.2.1 HBD.out.2.2.2.2.2.2.2.2.2.2.2.1 HBD.out.2.2.2.2.2.2.2.2.2.2.2.2 HS.out).mono ?_
                        rintro e V5 ⟨sd, rfl, hsd, hs⟩
                        replace HS := Lib.hid hs
                        clear hs
                        refine hK.out _ _ ⟨HS.out.of.k11, HS.out.of.k12, HS.out.of.k13⟩ (fun hH5 => ?_)
                        clear hK K
                        try simp only [List.setIfInBounds_toArray, List.set_cons_zero, List.set_cons_succ]
                        have Hsd := Lib.hid hsd
                        clear hsd
                        refine wpAnyH_take (i := 20 ) (v := ?_) rfl (by kernel_rfl) (by kernel_rfl) (by kernel_rfl) (fun _ _ _ h => h) (Or.inl ⟨by rfl, ?_⟩) (by assumption) ?_; rotate_left; (· (intro w0 hSw; clear hSw; go_simp); first | done | with_reducible rfl); (try simp only [Act.put, List.getElem_toArray, List.getElem_cons_succ, List.getElem_cons_zero, List.setIfInBounds_toArray, List.set_cons_zero, List.set_cons_succ])
                        refine wpAnyH_take (i := 21 ) (v := ?_) rfl (by kernel_rfl) (by kernel_rfl) (by kernel_rfl) (fun _ _ _ h => h) (Or.inl ⟨by rfl, ?_⟩) (by assumption) ?_; rotate_left; (· (intro w0 hSw; clear hSw; go_simp); first | done | with_reducible rfl); (try simp only [Act.put, List.getElem_toArray, List.getElem_cons_succ, List.getElem_cons_zero, List.setIfInBounds_toArray, List.set_cons_zero, List.set_cons_succ])
                        refine wpAnyH_take (i := 22 ) (v := ?_) rfl (by kernel_rfl) (by kernel_rfl) (by kernel_rfl) (fun _ _ _ h => h) (Or.inl ⟨by rfl, ?_⟩) (by assumption) ?_; rotate_left; (· (intro w0 hSw; clear hSw; go_simp); first | done | with_reducible rfl); (try simp only [Act.put, List.getElem_toArray, List.getElem_cons_succ, List.getElem_cons_zero, List.setIfInBounds_toArray, List.set_cons_zero, List.set_cons_succ])
                        refine wpAnyH_take (i := 23 ) (v := ?_) rfl (by kernel_rfl) (by kernel_rfl) (by kernel_rfl) (fun _ _ _ h => h) (Or.inl ⟨by rfl, ?_⟩) (by assumption) ?_; rotate_left; (· (intro w0 hSw; clear hSw; go_simp); first | done | with_reducible rfl); (try simp only [Act.put, List.getElem_toArray, List.getElem_cons_succ, List.getElem_cons_zero, List.setIfInBounds_toArray, List.set_cons_zero, List.set_cons_succ])
                        refine wpAnyH_take (i := 24 ) (v := ?_) rfl (by kernel_rfl) (by kernel_rfl) (by kernel_rfl) (fun _ _ _ h => h) (Or.inl ⟨by rfl, ?_⟩) (by assumption) ?_; rotate_left; (· (intro w0 hSw; clear hSw; go_simp); first | done | with_reducible rfl); (try simp only [Act.put, List.getElem_toArray, List.getElem_cons_succ, List.getElem_cons_zero, List.setIfInBounds_toArray, List.set_cons_zero, List.set_cons_succ])
                        refine wpAnyH_done (by kernel_rfl) ?_ _
                        have htk := Htk.out
                        have hot := Hot.out
                        have hdp := Hdp.out
                        have hov := Hov.out
                        have hgl := Hgl.out
                        have hht := Hht.out
                        have hsh := Hsh.out
                        have hpi := Hpi.out
                        have hle := Hle.out
                        have htu := Htu.out
                        have hsd := Hsd.out
                        obtain ⟨⟨jg0, jg1, jg2, jl0, jl1, jl2, js0, js1, js2, jh0, jh1, jh2, jp0, jp1, jn0, jn1⟩, ⟨at0, at1, at2, ad0, ad1, ad2, as0, as1, as2, ap0, ap1, ap2⟩, ⟨bt0, bt1, bt2, bd0, bd1, bd2, bs0, bs1, bs2, bp0, bp1, bp2⟩⟩ := HI.out
                        obtain ⟨hld, hl0, hl1⟩ := HLD.out
                        have w1 : IntKind.i64.wrap (tk - ot) = tk - ot := wr (by omega) (by omega)
                        have w2 : IntKind.i64.wrap (tk - ot - gl) = tk - ot - gl := wr (by omega) (by omega)
                        have w3 : IntKind.i64.wrap (2 * dp) = 2 * dp := wr (by omega) (by omega)
                        have w4 : IntKind.i64.wrap (tk - ot - gl - 2 * dp) = tk - ot - gl - 2 * dp := wr (by omega) (by omega)
                        have w5 : IntKind.i64.wrap (2 * ht) = 2 * ht := wr (by omega) (by omega)
                        have w6 : IntKind.i64.wrap (tk - ot - gl - 2 * dp - 2 * ht) = tk - ot - gl - 2 * dp - 2 * ht := wr (by omega) (by omega)
                        have w7 : IntKind.i64.wrap (1000 * (tk - ot - gl - 2 * dp - 2 * ht)) = 1000 * (tk - ot - gl - 2 * dp - 2 * ht) := wr (by omega) (by omega)
                        obtain ⟨up, hup⟩ : ∃ v, 1000 * (tk - ot - gl - 2 * dp - 2 * ht) + ld = v := ⟨_, rfl⟩
                        have w8 : IntKind.i64.wrap (1000 * (tk - ot - gl - 2 * dp - 2 * ht) + ld) = up := by rw [hup]; exact wr (by omega) (by omega)
                        have HUP := Lib.hid (high_true (j := j) (a := a) (b := b) htk hot hgl hdp hht hld)
                        rw [hup] at HUP
                        have hupb : -200000000 ≤ up ∧ up ≤ 200000000 := by omega
                        clear hup
                        have wq1 : IntKind.i64.wrap (dp + ov) = dp + ov := wr (by omega) (by omega)
                        have wq2 : IntKind.i64.wrap (dp + ov + gl) = dp + ov + gl := wr (by omega) (by omega)
                        have wq3 : IntKind.i64.wrap (1000 * (dp + ov + gl)) = 1000 * (dp + ov + gl) := wr (by omega) (by omega)
                        have HRT : Hid (closesN j a b = 2 → ld ≤ 1000 * (dp + ov + gl)) := Lib.hid fun h => room_true h hdp.1 hov.1 hgl.1 hld.2
                        have HNB := Lib.hid (And.intro jn0 jn1)
                        have HUPB := Lib.hid hupb
                        clear jg0 jg1 jg2 jl0 jl1 jl2 js0 js1 js2 jh0 jh1 jh2 jp0 jp1 at0 at1 at2 ad0 ad1 ad2 as0 as1 as2 ap0 ap1 ap2 bt0 bt1 bt2 bd0 bd1 bd2 bs0 bs1 bs2 bp0 bp1 bp2 jn0 jn1 hld hl0 hl1 hupb htk hot hdp hov hgl hht hsh hpi hle htu hsd
                        go_upto_region 15 with fail
                        clear w1 w2 w3 w4 w5 w6 w7 w8
                        have HCL : Hid (∀ W, Calls Try.prog 22 #[.agg #[.int .i64 j.glue.lo, .int .i64 j.glue.hi, .int .i64 j.lead.lo, .int .i64 j.lead.hi, .int .i64 j.side.lo, .int .i64 j.side.hi, .int .i64 j.height.lo, .int .i64 j.height.hi, .int .i64 j.play, .int .i64 j.grooves], .agg #[.int .i64 a.thick.lo, .int .i64 a.thick.hi, .int .i64 a.depth.lo, .int .i64 a.depth.hi, .int .i64 a.shift.lo, .int .i64 a.shift.hi, .int .i64 a.pitch.lo, .int .i64 a.pitch.hi], .agg #[.int .i64 b.thick.lo, .int .i64 b.thick.hi, .int .i64 b.depth.lo, .int .i64 b.depth.hi, .int .i64 b.shift.lo, .int .i64 b.shift.hi, .int .i64 b.pitch.lo, .int .i64 b.pitch.hi]] W (Ret (.tuple #[.int .i64 (closesN j a b), .int .i64 0]) W)) := Lib.hid fun W => by
                          have h9 := closesN_any j a b W
                          have e9 : cloE j a b = 0 := told_ok HOK.out.1 HOK.out.2.1 HOK.out.2.2 true rfl
                          rw [show cloN j a b = closesN j a b from if_pos e9, e9] at h9
                          exact h9
                        generalize closesN j a b = cn at *
                        have KJ := Lib.hid HS.out.of.k11
                        have KA := Lib.hid HS.out.of.k12
                        have KB := Lib.hid HS.out.of.k13
                        go_wp2_with (first | (with_reducible refine wpList_load_mid (by with_unfolding_all rfl) 25 _ (by with_unfolding_all rfl) _ _ (by with_unfolding_all rfl) [.int .i64 j.glue.lo, .int .i64 j.glue.hi, .int .i64 j.lead.lo, .int .i64 j.lead.hi, .int .i64 j.side.lo, .int .i64 j.side.hi, .int .i64 j.height.lo, .int .i64 j.height.hi, .int .i64 j.play, .int .i64 j.grooves] _ KJ.out.range (by with_unfolding_all rfl) (by with_unfolding_all rfl) (by kernel_rfl) ?_) | (with_reducible refine wpList_load_mid (by with_unfolding_all rfl) 37 _ (by with_unfolding_all rfl) _ _ (by with_unfolding_all rfl) [.int .i64 a.thick.lo, .int .i64 a.thick.hi, .int .i64 a.depth.lo, .int .i64 a.depth.hi, .int .i64 a.shift.lo, .int .i64 a.shift.hi, .int .i64 a.pitch.lo, .int .i64 a.pitch.hi] _ KA.out.range (by with_unfolding_all rfl) (by with_unfolding_all rfl) (by kernel_rfl) ?_) | (with_reducible refine wpList_load_mid (by with_unfolding_all rfl) 37 _ (by with_unfolding_all rfl) _ _ (by with_unfolding_all rfl) [.int .i64 b.thick.lo, .int .i64 b.thick.hi, .int .i64 b.depth.lo, .int .i64 b.depth.hi, .int .i64 b.shift.lo, .int .i64 b.shift.hi, .int .i64 b.pitch.lo, .int .i64 b.pitch.hi] _ KB.out.range (by with_unfolding_all rfl) (by with_unfolding_all rfl) (by kernel_rfl) ?_))
                        refine (HCL.out _).mono ?_
                        rintro e W7 ⟨rfl, hb⟩
                        replace HS := Lib.hid (HS.out.call hb)
                        clear hb KJ KA KB HCL HPI
                        have KJ := Lib.hid HS.out.of.k11
                        have KA := Lib.hid HS.out.of.k12
                        have KB := Lib.hid HS.out.of.k13
                        have HGR := Lib.hid (grades5_any j a b C cx x W7 (by omega) (HC.out.on HS.out.of.hb (Nat.le_refl _)))
                        obtain ⟨N, hN⟩ := Int.eq_ofNat_of_zero_le (show 0 ≤ j.grooves by have := HNB.out.1; omega)
                        have HGE : Hid (graE j a b x = 0 → graL j a b x = gradesOf j a b x ∧ (graL j a b x).length = N) := Lib.hid (gra_yes hN)
                        have HXL : Hid (graE j a b x = 0 → ∀ y ∈ x, 0 ≤ y ∧ y ≤ 1000) := Lib.hid gra_lims
                        have HGK : Hid (∀ k : Nat, k < N → ∀ h : k < (gradesOf j a b x).length, (gradesOf j a b x)[k] = gradeOf (leadOf j a b (k : Int)) x) := Lib.hid fun k _ h => gra_at h
                        generalize graE j a b x = ge at *
                        generalize graL j a b x = gr at *
                        generalize gradesOf j a b x = gd at *
                        have HN := Lib.hid hN
                        clear hN
                        go_wp2_with (first | (with_reducible refine wpList_load_mid (by with_unfolding_all rfl) 25 _ (by with_unfolding_all rfl) _ _ (by with_unfolding_all rfl) [.int .i64 j.glue.lo, .int .i64 j.glue.hi, .int .i64 j.lead.lo, .int .i64 j.lead.hi, .int .i64 j.side.lo, .int .i64 j.side.hi, .int .i64 j.height.lo, .int .i64 j.height.hi, .int .i64 j.play, .int .i64 j.grooves] _ KJ.out.range (by with_unfolding_all rfl) (by with_unfolding_all rfl) (by kernel_rfl) ?_) | (with_reducible refine wpList_load_mid (by with_unfolding_all rfl) 37 _ (by with_unfolding_all rfl) _ _ (by with_unfolding_all rfl) [.int .i64 a.thick.lo, .int .i64 a.thick.hi, .int .i64 a.depth.lo, .int .i64 a.depth.hi, .int .i64 a.shift.lo, .int .i64 a.shift.hi, .int .i64 a.pitch.lo, .int .i64 a.pitch.hi] _ KA.out.range (by with_unfolding_all rfl) (by with_unfolding_all rfl) (by kernel_rfl) ?_) | (with_reducible refine wpList_load_mid (by with_unfolding_all rfl) 37 _ (by with_unfolding_all rfl) _ _ (by with_unfolding_all rfl) [.int .i64 b.thick.lo, .int .i64 b.thick.hi, .int .i64 b.depth.lo, .int .i64 b.depth.hi, .int .i64 b.shift.lo, .int .i64 b.shift.hi, .int .i64 b.pitch.lo, .int .i64 b.pitch.hi] _ KB.out.range (by with_unfolding_all rfl) (by with_unfolding_all rfl) (by kernel_rfl) ?_))
                        refine HGR.out.mono ?_
                        rintro e W8 ⟨A2, c2, rfl, hown, hb⟩
                        replace HS := Lib.hid (HS.out.call hb)
                        have HOW := Lib.hid (show PlanAt W8 (.slice A2 gr.length c2) gr from own_low hown (Nat.zero_le _))
                        have hgl : gr.length ≤ 9223372036854775807 := le_of_own hown
                        have hgl0 : (0 : Int) ≤ gr.length := by omega
                        have hgl1 : (gr.length : Int) ≤ 9223372036854775807 := by omega
                        clear hb KJ KA KB HGR hown
                        go_upto_region 17 with fail
                        go_cut [230] (fun s wx => s = .bool false ∧ Hid (TcS w p j a b A Y c cy ys ga 13 wx) ∧ Hid (PlanAt wx (.slice A2 gr.length c2) gr))
                        case first =>
                          have j9 := HS.out.of.k11.cell 9
                          by_cases hcn : cn = 2
                          · have hrt := HRT.out hcn
                            have hrt' : ¬ 1000 * (dp + ov + gl) < ld := by omega
                            have hcn' : (cn == 2) = true := by rw [beq_iff_eq]; exact hcn
                            clear hcn
                            by_cases hge : ge = 0
                            · have hge' : (ge == 0) = true := by rw [beq_iff_eq]; exact hge
                              have hll : ((gr.length : Int) == j.grooves) = true := by rw [beq_iff_eq, (HGE.out hge).2, HN.out]
                              have hll' : (gr.length : Int) = j.grooves := by rw [(HGE.out hge).2, HN.out]
                              clear hge
                              go_wp2_with fail
                              go_meet
                              exact ⟨rfl, HS, HOW⟩
                            · have hge' : (ge == 0) = false := by rw [beq_eq_false_iff_ne]; exact hge
                              go_wp2_with fail
                              go_meet
                              exact ⟨rfl, HS, HOW⟩
                          · have hcn' : (cn == 2) = false := by rw [beq_eq_false_iff_ne]; exact hcn
                            by_cases hge : ge = 0
                            · have hge' : (ge == 0) = true := by rw [beq_iff_eq]; exact hge
                              have hll : ((gr.length : Int) == j.grooves) = true := by rw [beq_iff_eq, (HGE.out hge).2, HN.out]
                              have hll' : (gr.length : Int) = j.grooves := by rw [(HGE.out hge).2, HN.out]
                              clear hge
                              go_wp2_with fail
                              go_meet
                              exact ⟨rfl, HS, HOW⟩
                            · have hge' : (ge == 0) = false := by rw [beq_eq_false_iff_ne]; exact hge
                              go_wp2_with fail
                              go_meet
                              exact ⟨rfl, HS, HOW⟩
                        case rest => as_aux_lemma =>
                          obtain ⟨rfl, HS, HOW⟩ := hcut
                          have hn1 : 1 ≤ N := by have := HNB.out.1; have := HN.out; omega
                          have hn10 : N ≤ 10 := by have := HNB.out.2; have := HN.out; omega
                          go_wp2_with fail
                          refine centre_loop w p j a b A Y A2 C c cy c2 cx N ys x gr gd ge sh pi le tu sd up HN.out hn1 hn10 HOK Hsh Hpi Hle Htu Hsd HUP HUPB HC (by omega) (by omega) HGE HXL HGK _ (Lib.hid HS.out.of) HOW _ (fun _ _ d1 _ _ h => by cases d1 <;> exact h) _ _ _ _ _ _ _ _ _ _ _ _ _ _ _ _ _ _ _ _ _ _ _ _ _ _ _ _ _ _ _ _ _ _ _ _ _ _ _ _ _ _ _ _ _ _ _ _ _ _ _ _ _ _ _ _ _ _ _ _ _ _ _ _ _ _ _ _ _ _ _ _ _ _ _ _ _ _ _ _ _ _ _ _ _ _ _ _ _ _ _ _ _ _ _ _ _ _ _ _ _ _ _ _ _ _ _ _ _ _ _ _ _ _ _ _ _ _ _ _ _ _ _ _ _ _ _ _ _ _ _ _ _ _ _ _ _ _ _ _ _ _ _ _ _ _ _ _ _ _ _ _ _ _ _ _ _ _ _ _ _ _ _ _ _ _ _ _ _ _ _ _ _ _ _ _ _ _ _ _ _ _ _ _ _ _ _ _ _ _ _ _ _ _ _ _ _ _ _ _ _ _ _ _ _ _ _ _ _ _ _ _ _ _ _ _ _ _ _ _ _ _ _ _ _ _ _ _ _ _ _ _ _ _ _ _ _ _ _ _ _ _ _ _ _ _ _ _ _ _ _ _ _ _ _ _ _ _ _ _ _ _ _ _ _ _ _ _ _ _ _ _ _ _ _ _ _ _ _ _ _ _ _ _ _ _ _ _ _ _ _ _ _ _ _ _ _ _ _ _ _ _ _ _ _ _ _ _ _ _ _ _ _ _ _ _ _ _ _ _ _ _ _ _ _ _ ?_
                          clear HS HOW
                          intro u16 u38 u39 u40 u41 u42 u231 u232 u233 u234 u235 u236 u237 u238 u239 u240 u241 u242 u243 u244 u245 u246 u247 u248 u249 u250 u251 u252 u253 u254 u255 u256 u257 u258 u259 u260 u261 u262 u263 u264 u265 u266 u267 u268 u269 u270 u271 u272 u273 u274 u275 u276 u277 u278 u279 u280 u281 u282 u283 u284 u285 u286 u287 u288 u289 u290 u291 u292 u293 u294 u295 u296 u297 u298 u299 u300 u301 u302 u303 u304 u305 u306 u307 u308 u309 u310 u311 u312 u313 u314 u315 u316 u317 u318 u319 u320 u321 u322 u323 u324 u325 u326 u327 u328 u329 u330 u331 u332 u333 u334 u335 u336 u337 W9 HS
                          clear HGE HGK HUP HRT HXL
                          go_wp2_with fail
                          refine (awake05_any _).mono ?_; rintro e w9 ⟨rfl, hb9⟩; have HB := Lib.hid (HS.out.hb.trans (hb9.mono HS.out.hb.size)); clear HS hb9; go_wp2_with fail; go_ret; exact ⟨rfl, HB.out⟩
end Go.Proofs.Ytfpfafijockfnaa
