/- The law DieMore: the walk. -/
import Derived.Test.YtkokacdaiklfjaaLm0
import Derived.Test.YtkokacdaiklfjaaPq
import Derived.Deep.DeepCutAuto
namespace Go.Proofs.Ytkokacdaiklfjaa
open Go.RowKit Go.Shelf

set_option maxRecDepth 100000 in
set_option maxHeartbeats 4000000 in
theorem more_any (w : World) (A T : Option Addr) (c ct : Nat) (p : Press) (l : List Draw) (more : Die) (which y : Int) (hp : p.dies.length ≤ 9223372036854775807) (hl : l.length ≤ 9223372036854775807) (hA : DieSl w w.heap.size A p.dies) (hT : DrawSl w w.heap.size T l) (hct : l.length ≤ ct) (hTn : T = none → ct = 0) (hw : 0 ≤ which ∧ which ≤ 255) (hy : 0 ≤ y ∧ y ≤ 255) :
    Calls Try.prog 8 #[.agg #[.slice A p.dies.length c, .int .i64 p.shrink.lo, .int .i64 p.shrink.hi, .int .i64 p.change], .slice T l.length ct, .agg #[.int .i64 more.wide, .int .i64 more.wear.lo, .int .i64 more.wear.hi], .int .u8 which, .int .u8 y] w (Ret (.bool true) w) := by
  have hb0 : Below w.heap.size w ((w.alloc (.cells #[.slice A p.dies.length c, .int .i64 p.shrink.lo, .int .i64 p.shrink.hi, .int .i64 p.change] 26)).alloc (.cells #[.int .i64 more.wide, .int .i64 more.wear.lo, .int .i64 more.wear.hi] 49)) := by repeat (first | exact Below.refl _ _ | assumption | refine Below.drew ?_ | refine Below.alloc ?_ (by first | omega | (simp only [World.size_alloc]; omega) | simp) _ | refine Below.setCell ?_ (by first | omega | (simp only [World.size_alloc]; omega) | simp) _)
  have hS0 : LmS w p A T c l more ((w.alloc (.cells #[.slice A p.dies.length c, .int .i64 p.shrink.lo, .int .i64 p.shrink.hi, .int .i64 p.change] 26)).alloc (.cells #[.int .i64 more.wide, .int .i64 more.wear.lo, .int .i64 more.wear.hi] 49)) := ⟨hb0, (Blk.new _ _ _).alloc _, blk_at _ _ (by simp), hA.on hb0 (Nat.le_refl _), hT.on hb0 (Nat.le_refl _)⟩
  have HS := Lib.hid hS0
  have HLE := Lib.hid (And.intro hp hl)
  have HWY := Lib.hid (And.intro hw hy)
  have HCT := Lib.hid hct
  have HTN := Lib.hid hTn
  have hl0 : (0 : Int) ≤ l.length := by omega
  have hl' : (l.length : Int) ≤ 9223372036854775807 := by omega
  have HPR : Hid (∀ V, LmS w p A T c l more V → Calls Try.prog 21 #[.agg #[.slice A p.dies.length c, .int .i64 p.shrink.lo, .int .i64 p.shrink.hi, .int .i64 p.change]] V (Ret (.bool (pressOk p)) V)) := Lib.hid fun V h => rpress_any V A c p hp h.da
  have HDR : Hid (∀ V, LmS w p A T c l more V → Calls Try.prog 22 #[.slice T l.length ct] V (Ret (.bool (drawsOk l)) V)) := Lib.hid fun V h => rdraws_any V T ct l hl h.dr
  have HPN : Hid (∀ V, LmS w p A T c l more V → Calls Try.prog 19 #[.agg #[.slice A p.dies.length c, .int .i64 p.shrink.lo, .int .i64 p.shrink.hi, .int .i64 p.change], .slice T l.length ct] V (RetPl (planP p l) (planC p l) (planE p l) V)) := Lib.hid fun V h => plan_any V A T c ct p l hp hl h.da h.dr hct
  obtain ⟨o1, ho1⟩ : ∃ x, pressOk p = x := ⟨_, rfl⟩
  obtain ⟨o2, ho2⟩ : ∃ x, drawsOk l = x := ⟨_, rfl⟩
  have HO := Lib.hid (And.intro ho1 ho2)
  rw [ho1] at HPR
  rw [ho2] at HDR
  clear hb0 hS0 hA hT hp hl hct hw hy ho1 ho2 hTn
  go_enter Try.func8, Try.ntmps8
  go_wp2_with fail
  generalize World.alloc (World.alloc w _) _ = W at HS ⊢
  have x0 := HS.out.bq.cell 0; have x1 := HS.out.bq.cell 1; have x2 := HS.out.bq.cell 2; have x3 := HS.out.bq.cell 3
  go_wp2_with fail
  refine (large_any A T p.dies.length c l.length ct p.shrink.lo p.shrink.hi p.change 7 W HLE.out.1 HLE.out.2).mono ?_
  rintro e W1 ⟨rfl, hb⟩
  replace HS := Lib.hid (HS.out.call hb)
  clear hb x0 x1 x2 x3
  generalize decide (7 < (l.length : Int) ∧ l.length ≤ 8 ∨ 12 < l.length ∨ 8 < p.dies.length) = lg
  cases lg with
  | true =>
    go_wp2_with fail
    refine (awake_any _).mono ?_; rintro e w9 ⟨rfl, hb9⟩; have hB := (HS.out.call hb9).below; clear HS hb9; go_wp2_with fail; go_ret; exact ⟨rfl, hB⟩
  | false =>
    have x0 := HS.out.bq.cell 0; have x1 := HS.out.bq.cell 1; have x2 := HS.out.bq.cell 2; have x3 := HS.out.bq.cell 3
    go_wp2_with fail
    refine (HPR.out _ HS.out).mono ?_
    rintro e W2 ⟨rfl, hb⟩
    replace HS := Lib.hid (HS.out.call hb)
    clear hb x0 x1 x2 x3 HPR
    cases o1 with
    | false =>
      go_wp2_with fail
      refine (awake_any _).mono ?_; rintro e w9 ⟨rfl, hb9⟩; have hB := (HS.out.call hb9).below; clear HS hb9; go_wp2_with fail; go_ret; exact ⟨rfl, hB⟩
    | true =>
      go_wp2_with fail
      refine (HDR.out _ HS.out).mono ?_
      rintro e W3 ⟨rfl, hb⟩
      replace HS := Lib.hid (HS.out.call hb)
      clear hb HDR
      cases o2 with
      | false =>
        go_wp2_with fail
        refine (awake_any _).mono ?_; rintro e w9 ⟨rfl, hb9⟩; have hB := (HS.out.call hb9).below; clear HS hb9; go_wp2_with fail; go_ret; exact ⟨rfl, hB⟩
      | true =>
        have x0 := HS.out.bq.cell 0; have x1 := HS.out.bq.cell 1; have x2 := HS.out.bq.cell 2; have x3 := HS.out.bq.cell 3
        go_wp2_with fail
        refine (HPN.out _ HS.out).mono ?_
        rintro e W4 ⟨A3, c3, rfl, -, hb⟩
        replace HS := Lib.hid (HS.out.call hb)
        clear hb x0 x1 x2 x3
        have x0 := HS.out.bq.cell 0; have x1 := HS.out.bq.cell 1; have x2 := HS.out.bq.cell 2; have x3 := HS.out.bq.cell 3
        go_wp2_with fail
        refine (HPN.out _ HS.out).mono ?_
        rintro e W4 ⟨A4, c4, rfl, hp4, hb⟩
        replace HS := Lib.hid (HS.out.call hb)
        have P4 := Lib.hid (plan_sl hp4)
        clear hb hp4 x0 x1 x2 x3 HPN
        have HE : Hid (planE p l ≠ 0 → planE p l = 4) := Lib.hid (fun h => by
          unfold planE at h ⊢
          rw [if_pos (errOf_ok HO.out.1 HO.out.2)] at h ⊢
          split at h
          · exact absurd rfl h
          · rename_i g; rw [if_neg g])
        have HMP := Lib.hid (more_plain HO.out.1 HO.out.2)
        have HPL : Hid ((planP p l).length ≤ 9223372036854775807) := Lib.hid (by
          unfold planP
          split
          · rename_i h
            have := (best_good p l s0 h.2).2.2
            have := HLE.out.2
            omega
          · simp)
        obtain ⟨⟨n1, n4⟩, hdi, hsh, ch0, ch1⟩ := press_parts HO.out.1
        have HDI := Lib.hid hdi
        have HSH := Lib.hid hsh
        obtain ⟨hl8, hdr⟩ := draws_parts HO.out.2
        have HDW := Lib.hid hdr
        clear hdi hsh hdr
        have x0 := HS.out.bq.cell 0
        have x1 := HS.out.bq.cell 1
        have x2 := HS.out.bq.cell 2
        have x3 := HS.out.bq.cell 3
        have hlt0 := HS.out.bq.lt
        have HM2 := Lib.hid (Mo.two W4 #[.slice A p.dies.length c, .int .i64 p.shrink.lo, .int .i64 p.shrink.hi, .int .i64 p.change])
        generalize hpp : planP p l = pp at *
        generalize hpc : planC p l = pc at *
        generalize hpe : planE p l = pe at *
        clear hpp hpc hpe
        go_wp2_with fail
        go_cut [17, 18] (fun s17 s18 wx => ∃ q17 q18 : Nat, s17 = .pointer (some ⟨q17, 0, none⟩) ∧ s18 = .pointer (some ⟨q18, 0, none⟩) ∧ Hid (Mo W4 q17 q18 #[.slice A p.dies.length c, .int .i64 p.shrink.lo, .int .i64 p.shrink.hi, .int .i64 p.change] #[.slice A p.dies.length c, .int .i64 p.shrink.lo, .int .i64 p.shrink.hi, .int .i64 p.change] wx))
        case first => as_aux_lemma =>
          go_region
          all_goals (go_wp2_with fail)
          all_goals go_meet
          all_goals first
            | exact ⟨_, _, rfl, rfl, Lib.hid HM2.out.1⟩
            | exact ⟨_, _, rfl, rfl, Lib.hid HM2.out.2⟩
            | fail "end"
        case rest => as_aux_lemma =>
          obtain ⟨q17, q18, rfl, rfl, MO⟩ := hcut
          obtain ⟨bA, oA, hAe, hbA, haA⟩ := HS.out.da (by intro e; rw [e] at n1; simp at n1)
          subst hAe
          have HDA : Hid (∀ V, Below W4.heap.size W4 V → At3 dieF V bA oA p.dies) := Lib.hid fun V h => haA.below h hbA
          clear haA x0 x1 x2 x3 hlt0 HM2
          have x0 := (HS.out.call MO.out.lo).bq.cell 0
          have hqlt := (HS.out.call MO.out.lo).bq.lt
          obtain ⟨i0, hi, hz0, hz1, hz2⟩ := info_parts dieInfo
          have z0 := MO.out.z3.cell 0
          have z1 := MO.out.z3.frozen 0
          have hml := MO.out.z3.lt
          have HZ4 := Lib.hid MO.out.z4.lt
          go_wp2_with (at_builtin; refine wpList_append_own _ rfl _ _ 22 rfl wc.heap.size 49 i0 _ 3 24 Inp.und_dies hi hz0 hz1 hz2 rfl (by decide) (.slice (some ⟨wc.heap.size, 0, none⟩) 0 0) 0 [] rfl (own_zero wc wc.heap.size (Nat.le_refl _) 3) ⟨bA, oA, none⟩ p.dies.length c (vs3 dieF p.dies) rfl (vs3_len _) (vs3_cells (HDA.out _ (MO.out.lo.alloc MO.out.lo.size _))) (vs3_one _) (by unfold maxLen; omega) (by omega) (by simp) ?_)
          intro v' w1 hown hgrow hnn
          have hbz := Below.grown (B := wc.heap.size) ((Below.refl _ wc).alloc (Nat.le_refl _) (.cells #[] 49)) hgrow (by simp) (own_ge3 (own_zero (t := 49) wc wc.heap.size (Nat.le_refl _) 3))
          obtain ⟨g1, c1, rfl, hg1, hf1⟩ := fr3_own hown rfl (by omega)
          replace MO := Lib.hid (MO.out.call hbz)
          have F1 := Lib.hid hf1
          have hh1 := hml
          have hh2 := (show q18 < wc.heap.size from HZ4.out)
          clear hown hgrow hnn hbz hf1 x0 z0 z1 hqlt hml
          have z0 := MO.out.z3.cell 0
          have z1 := MO.out.z3.frozen 0
          go_wp2_with fail
          replace MO := Lib.hid (MO.out.set3 0 (.slice (some ⟨g1, 0, none⟩) p.dies.length c1))
          replace F1 := Lib.hid (F1.out.far (p := ⟨q17, 0, none⟩) (by simp only []; omega) (.slice (some ⟨g1, 0, none⟩) p.dies.length c1))
          clear z0 z1
          generalize World.setCell w1 _ _ = V0 at MO F1 ⊢
          have z0 := MO.out.z3.cell 0
          have x0 := (HS.out.call MO.out.lo).bq.cell 0
          obtain ⟨⟨hw0, hw9⟩, hy0, hy9⟩ := HWY.out
          obtain ⟨j, hj⟩ : ∃ j : Nat, which % (p.dies.length : Int) = (j : Int) := Int.eq_ofNat_of_zero_le (Int.emod_nonneg which (by omega))
          have hjn : j < p.dies.length := by have := Int.emod_lt_of_pos which (show (0 : Int) < p.dies.length by omega); omega
          have hr1 : which.tmod (p.dies.length : Int) = (j : Int) := (Int.tmod_eq_emod_of_nonneg hw0).trans hj
          have hww : IntKind.i64.wrap which = which := wr (by omega) (by omega)
          have hnz : p.dies.length ≠ 0 := by omega
          have hj0 : (0 : Int) ≤ j := by omega
          have hjl : (j : Int) < p.dies.length := by omega
          have hwj : IntKind.i64.wrap (j : Int) = (j : Int) := wr (by omega) (by omega)
          clear hj
          go_wp2_with fail
          go_quiet (fail)
          go_wp2_with fail
          have hbn : Below V0.heap.size V0 (World.drewN V0 nq) := below_drewN (Below.refl _ _) nq
          replace MO := Lib.hid (MO.out.call hbn)
          replace F1 := Lib.hid (F1.out.call hbn)
          clear z0 x0 hbn hr1 hww hnz hwj
          generalize World.drewN V0 _ = V1 at MO F1 ⊢
          obtain ⟨a0, a1, a2⟩ := F1.out.cells hjn
          simp only [dieF] at a0 a1 a2
          have fz := F1.out.fr (j * 3 + 1)
          have hwy : IntKind.i64.wrap y = y := wr (by omega) (by omega)
          have hr3 : y.tmod 3 = y % 3 := Int.tmod_eq_emod_of_nonneg hy0
          have hr5 : y.tmod 5 = y % 5 := Int.tmod_eq_emod_of_nonneg hy0
          have h30 : 0 ≤ y % 3 ∧ y % 3 < 3 := by omega
          have h50 : 0 ≤ y % 5 ∧ y % 5 < 5 := by omega
          generalize y % 3 = r3 at *
          generalize y % 5 = r5 at *
          obtain ⟨d1, d2, d3, d4, d5⟩ := HDI.out p.dies[j] (List.getElem_mem hjn)
          obtain ⟨s1, s2, s3⟩ := HSH.out
          have hw3 : IntKind.i64.wrap r3 = r3 := wr (by omega) (by omega)
          have hw5 : IntKind.i64.wrap r5 = r5 := wr (by omega) (by omega)
          have hwl : IntKind.i64.wrap (p.dies[j].wear.lo + r3) = p.dies[j].wear.lo + r3 := wr (by omega) (by omega)
          have hws : IntKind.i64.wrap (p.shrink.hi - r5) = p.shrink.hi - r5 := wr (by omega) (by omega)
          obtain ⟨we, hwe⟩ : ∃ z : Int, min p.dies[j].wear.hi (p.dies[j].wear.lo + r3) = z := ⟨_, rfl⟩
          obtain ⟨sh, hsh⟩ : ∃ z : Int, max p.shrink.lo (p.shrink.hi - r5) = z := ⟨_, rfl⟩
          have hwb : p.dies[j].wear.lo ≤ we ∧ we ≤ p.dies[j].wear.hi := by omega
          have hsb : p.shrink.lo ≤ sh ∧ sh ≤ p.shrink.hi := by omega
          have HG1 := Lib.hid (show q17 ≠ g1 ∧ q18 ≠ g1 ∧ W4.heap.size ≤ g1 from ⟨by omega, by omega, by have := MO.out.h3; omega⟩)
          go_region
          have hbd := (Below.refl (V1.setCell ⟨g1, j * 3 + 1, none⟩ (.int .i64 we)).heap.size (V1.setCell ⟨g1, j * 3 + 1, none⟩ (.int .i64 we))).drew
          replace MO := Lib.hid ((MO.out.far (a := ⟨g1, j * 3 + 1, none⟩) (by have := MO.out.lo.size; have := MO.out.h3; simp only []; omega) (by simp only []; omega) (by simp only []; omega) (.int .i64 we)).call hbd)
          replace F1 := Lib.hid ((F1.out.put1 hjn we ⟨p.dies[j].wide, ⟨we, p.dies[j].wear.hi⟩⟩ rfl).call hbd)
          clear hbd a0 a1 a2 fz hr3 hw3 hwl hwe
          generalize World.drew (World.setCell V1 _ _) = V2 at MO F1 ⊢
          have z0 := MO.out.z3.cell 2
          have z1 := MO.out.z3.frozen 2
          have x1 := (HS.out.call MO.out.lo).bq.cell 1
          have x2 := (HS.out.call MO.out.lo).bq.cell 2
          go_wp2_with fail
          replace MO := Lib.hid (MO.out.set3 2 (.int .i64 sh))
          replace F1 := Lib.hid (F1.out.far (p := ⟨q17, 2, none⟩) (by simp only []; omega) (.int .i64 sh))
          replace MO : Hid (Mo W4 q17 q18 #[.slice (some ⟨g1, 0, none⟩) p.dies.length c1, .int .i64 p.shrink.lo, .int .i64 sh, .int .i64 p.change] #[.slice (some ⟨bA, oA, none⟩) p.dies.length c, .int .i64 p.shrink.lo, .int .i64 p.shrink.hi, .int .i64 p.change] (World.setCell V2 ⟨q17, 2, none⟩ (.int .i64 sh))) := MO
          clear z0 z1 x1 x2 hws hsh hr5 hw5
          generalize World.setCell V2 _ _ = V3 at MO F1 ⊢
          go_cut [] (fun wx => ∃ g3 c3' : Nat, Hid (Mo W4 q17 q18 #[.slice (some ⟨g1, 0, none⟩) p.dies.length c1, .int .i64 p.shrink.lo, .int .i64 sh, .int .i64 p.change] #[.slice (some ⟨g3, 0, none⟩) (p.dies.length + 1) c3', .int .i64 p.shrink.lo, .int .i64 p.shrink.hi, .int .i64 p.change] wx) ∧ Hid (Fr3 dieF wx g1 (p.dies.set j ⟨p.dies[j].wide, ⟨we, p.dies[j].wear.hi⟩⟩)) ∧ Hid (Fr3 dieF wx g3 (p.dies ++ [more])) ∧ (q17 < g3 ∧ q18 < g3 ∧ g1 ≠ g3))
          case first => as_aux_lemma =>
            obtain ⟨i0, hi, hz0, hz1, hz2⟩ := info_parts dieInfo
            replace MO := Lib.hid (MO.out.call (Below.refl _ _).drew)
            replace F1 := Lib.hid (F1.out.call (Below.refl _ _).drew)
            refine wp_region_held_drew (S := fun W => W.cell? ⟨w.heap.size, 0, none⟩ = some (.slice (some ⟨bA, oA, none⟩) p.dies.length c) ∧ W.cell? ⟨w.heap.size + 1, 0, none⟩ = some (.int .i64 more.wide) ∧ W.cell? ⟨w.heap.size + 1, 1, none⟩ = some (.int .i64 more.wear.lo) ∧ W.cell? ⟨w.heap.size + 1, 2, none⟩ = some (.int .i64 more.wear.hi)) (by kernel_rfl) ⟨(HS.out.call MO.out.lo).bq.cell 0, (HS.out.call MO.out.lo).bm.cell 0, (HS.out.call MO.out.lo).bm.cell 1, (HS.out.call MO.out.lo).bm.cell 2⟩ (fun hH0 => ?_)
            generalize World.drew _ = V0 at *
            have hB10 : q17 < V0.heap.size ∧ q18 < V0.heap.size ∧ g1 < V0.heap.size ∧ W4.heap.size ≤ V0.heap.size := ⟨MO.out.z3.lt, MO.out.z4.lt, F1.out.lt, MO.out.lo.size⟩
            simp only [List.size_toArray, List.length_cons, List.length_nil, Nat.reduceAdd, Array.replicate_succ, Array.replicate_zero, List.push_toArray, List.nil_append, List.cons_append]
            have HSZ0 : Hid (V0.heap.size ≤ V0.heap.size) := Lib.hid (Nat.le_refl _)
            refine wpAnyH_take (i := 1 ) (v := ?_) rfl (by kernel_rfl) (by kernel_rfl) (by kernel_rfl) (fun _ _ _ h => h) (Or.inl ⟨by rfl, ?_⟩) (by assumption) ?_; rotate_left; (· (intro w0 hSw; obtain ⟨s0, s1, s2, s3⟩ := hSw; go_simp); first | done | with_reducible rfl); (try simp only [Act.put, List.getElem_toArray, List.setIfInBounds_toArray, List.set_cons_zero, List.set_cons_succ])
            refine wpAnyH_take (i := 2 ) (v := ?_) rfl (by kernel_rfl) (by kernel_rfl) (by kernel_rfl) (fun _ _ _ h => h) (Or.inl ⟨by rfl, ?_⟩) (by assumption) ?_; rotate_left; (· (intro w0 hSw; obtain ⟨s0, s1, s2, s3⟩ := hSw; go_simp); first | done | with_reducible rfl); (try simp only [Act.put, List.getElem_toArray, List.getElem_cons_succ, List.getElem_cons_zero, List.setIfInBounds_toArray, List.set_cons_zero, List.set_cons_succ])
            refine wpAnyH_take (i := 4 ) (v := ?_) rfl (by kernel_rfl) (by kernel_rfl) (by kernel_rfl) (fun _ _ _ h => h) (Or.inl ⟨by rfl, ?_⟩) (by assumption) ?_; rotate_left; (· (intro w0 hSw; obtain ⟨s0, s1, s2, s3⟩ := hSw; go_simp); first | done | with_reducible rfl); (try simp only [Act.put, List.getElem_toArray, List.getElem_cons_succ, List.getElem_cons_zero, List.setIfInBounds_toArray, List.set_cons_zero, List.set_cons_succ])
            refine wpAnyH_ready (rs := [0, 5]) (by kernel_rfl) (by simp) ?_
            refine AllReadyH.cons rfl (fun K hK => ?_) ?_
            · go_simp
              have hb := (Below.refl V0.heap.size V0).alloc (Nat.le_refl _) (.cells #[] 49)
              have MO' := Lib.hid (MO.out.call hb)
              replace F1 := Lib.hid (F1.out.call hb)
              skip
              have hsz1 := hb.size
              refine hK.out _ _ ⟨(HS.out.call MO'.out.lo).bq.cell 0, (HS.out.call MO'.out.lo).bm.cell 0, (HS.out.call MO'.out.lo).bm.cell 1, (HS.out.call MO'.out.lo).bm.cell 2⟩ (fun hH1 => ?_)
              clear hb MO
              have MO := MO'
              clear MO'
              generalize World.alloc V0 _ = V1 at *
              clear hK K
              have HSZ1 : Hid (V0.heap.size ≤ V1.heap.size) := Lib.hid (Nat.le_trans HSZ0.out hsz1)
              clear hsz1
              try simp only [List.setIfInBounds_toArray, List.set_cons_zero]
              refine wpAnyH_ready (rs := [3, 5]) (by kernel_rfl) (by simp) ?_
              refine AllReadyH.cons rfl (fun K hK => ?_) ?_
              · refine step_append_grows (by rfl) _ _ _ (by rfl) 49 i0 _ 3 24 Inp.und_dies hi hz0 hz1 hz2 rfl (by decide) _ 0 0 [] (by rfl) (by simp) rfl (by simp) ⟨bA, oA, none⟩ p.dies.length c (vs3 dieF p.dies) (by rfl) (vs3_len _) (vs3_cells (HDA.out _ MO.out.lo)) (vs3_one _) (by omega) (by unfold maxLen; omega) (by omega) ?_
                rintro v' V2 hown hgrow
                rw [List.nil_append, Nat.zero_add] at hown
                have hb := Below.grown (B := V1.heap.size) (Below.refl _ _) hgrow (Nat.le_refl _) (by simp)
                have MO' := Lib.hid (MO.out.call hb)
                replace F1 := Lib.hid (F1.out.call hb)
                obtain ⟨g2, c2, rfl, -, -⟩ := hown.form (by omega)
                have O2 := Lib.hid (own_mono3 hown HSZ1.out)
                have hsz2 := hb.size
                refine hK.out _ _ ⟨(HS.out.call MO'.out.lo).bq.cell 0, (HS.out.call MO'.out.lo).bm.cell 0, (HS.out.call MO'.out.lo).bm.cell 1, (HS.out.call MO'.out.lo).bm.cell 2⟩ (fun hH2 => ?_)
                clear hb MO hown hgrow
                have MO := MO'
                clear MO'
                clear hK K
                have HSZ2 : Hid (V0.heap.size ≤ V2.heap.size) := Lib.hid (Nat.le_trans HSZ1.out hsz2)
                clear hsz2
                try simp only [List.setIfInBounds_toArray, List.set_cons_zero, List.set_cons_succ]
                refine wpAnyH_ready (rs := [5]) (by kernel_rfl) (by simp) ?_
                refine AllReadyH.cons rfl (fun K hK => ?_) ?_
                · go_simp
                  have hb := (Below.refl V2.heap.size V2).alloc (Nat.le_refl _) (.cells #[.int .i64 more.wide, .int .i64 more.wear.lo, .int .i64 more.wear.hi] 49)
                  have MO' := Lib.hid (MO.out.call hb)
                  replace F1 := Lib.hid (F1.out.call hb)
                  replace O2 := Lib.hid (own_call3 O2.out hb)
                  have K5 := Lib.hid (Blk.new V2 49 #[.int .i64 more.wide, .int .i64 more.wear.lo, .int .i64 more.wear.hi])
                  have hsz3 := hb.size
                  refine hK.out _ _ ⟨(HS.out.call MO'.out.lo).bq.cell 0, (HS.out.call MO'.out.lo).bm.cell 0, (HS.out.call MO'.out.lo).bm.cell 1, (HS.out.call MO'.out.lo).bm.cell 2⟩ (fun hH3 => ?_)
                  clear hb MO
                  have MO := MO'
                  clear MO'
                  generalize V2.heap.size = b5 at K5 ⊢
                  generalize World.alloc V2 _ = V3 at *
                  clear hK K
                  have HSZ3 : Hid (V0.heap.size ≤ V3.heap.size) := Lib.hid (Nat.le_trans HSZ2.out hsz3)
                  clear hsz3
                  try simp only [List.setIfInBounds_toArray, List.set_cons_zero, List.set_cons_succ]
                  refine wpAnyH_ready (rs := [6]) (by kernel_rfl) (by simp) ?_
                  refine AllReadyH.cons rfl (fun K hK => ?_) ?_
                  · refine step_append_lies _ (by rfl) _ _ _ (by rfl) V0.heap.size 49 i0 _ 3 24 Inp.und_dies hi hz0 hz1 hz2 rfl (by omega) (.slice (some ⟨g2, 0, none⟩) p.dies.length c2) p.dies.length (vs3 dieF p.dies) (by rfl) O2.out ⟨b5, 0, none⟩ 1 1 [.int .i64 more.wide, .int .i64 more.wear.lo, .int .i64 more.wear.hi] (by rfl) (by rfl) (World.news_of_block (cs := #[.int .i64 more.wide, .int .i64 more.wear.lo, .int .i64 more.wear.hi]) (t := 49) (fr := (0, 0)) K5.out) (by simp [Value.oneCell']) (by omega) (by unfold maxLen; omega) (by omega) HSZ3.out V3.heap.size rfl ?_
                    intro g3 c3' V4 hown hgrow hat hlt1
                    have hb : Below V0.heap.size V3 V4 := Below.grown (Below.refl _ _) hgrow HSZ3.out (own_ge3 O2.out)
                    have MO' := Lib.hid (MO.out.low hb hB10.2.2.2 hB10.1 hB10.2.1)
                    replace F1 := Lib.hid (F1.out.low hb hB10.2.2.1)
                    obtain ⟨g3', c3'', e3, hg3, hf3⟩ := fr3_own (f := dieF) (l := p.dies ++ [more]) (by rw [vs3_append]; exact hown) (by simp) (by omega)
                    simp only [Value.slice.injEq, Option.some.injEq, Addr.mk.injEq, true_and, and_true] at e3
                    obtain ⟨rfl, rfl⟩ := e3
                    have F3 := Lib.hid hf3
                    have hsz4 := hb.size
                    refine hK.out _ _ ⟨(HS.out.call MO'.out.lo).bq.cell 0, (HS.out.call MO'.out.lo).bm.cell 0, (HS.out.call MO'.out.lo).bm.cell 1, (HS.out.call MO'.out.lo).bm.cell 2⟩ (fun hH4 => ?_)
                    clear hb MO hown hgrow hat hlt1 hf3 O2 K5
                    have MO := MO'
                    clear MO'
                    clear hK K
                    have HSZ4 : Hid (V0.heap.size ≤ V4.heap.size) := Lib.hid (Nat.le_trans HSZ3.out hsz4)
                    clear hsz4
                    try simp only [List.setIfInBounds_toArray, List.set_cons_zero, List.set_cons_succ]
                    refine wpAnyH_take (i := 7 ) (v := ?_) rfl (by kernel_rfl) (by kernel_rfl) (by kernel_rfl) (fun _ _ _ h => h) (Or.inl ⟨by rfl, ?_⟩) (by assumption) ?_; rotate_left; (· (intro w0 hSw; obtain ⟨s0, s1, s2, s3⟩ := hSw; go_simp); first | done | with_reducible rfl); (try simp only [Act.put, List.getElem_toArray, List.getElem_cons_succ, List.getElem_cons_zero, List.setIfInBounds_toArray, List.set_cons_zero, List.set_cons_succ])
                    refine wpAnyH_ready (rs := [8]) (by kernel_rfl) (by simp) ?_
                    refine AllReadyH.cons rfl (fun K hK => ?_) AllReadyH.nil
                    have y0 := MO.out.z4.cell 0
                    have y1 := MO.out.z4.frozen 0
                    go_simp
                    have MO' := Lib.hid (MO.out.set4 0 (.slice (some ⟨g3, 0, none⟩) (p.dies.length + 1) c3'))
                    replace F1 := Lib.hid (F1.out.far (p := ⟨q18, 0, none⟩) (by simp only []; omega) (.slice (some ⟨g3, 0, none⟩) (p.dies.length + 1) c3'))
                    replace F3 := Lib.hid (F3.out.far (p := ⟨q18, 0, none⟩) (by simp only []; omega) (.slice (some ⟨g3, 0, none⟩) (p.dies.length + 1) c3'))
                    refine hK.out _ _ ⟨(HS.out.call MO'.out.lo).bq.cell 0, (HS.out.call MO'.out.lo).bm.cell 0, (HS.out.call MO'.out.lo).bm.cell 1, (HS.out.call MO'.out.lo).bm.cell 2⟩ (fun hH5 => ?_)
                    clear MO y0 y1
                    have MO := MO'
                    clear MO'
                    generalize World.setCell V4 _ _ = V5 at *
                    clear hK K
                    try simp only [List.setIfInBounds_toArray, List.set_cons_zero, List.set_cons_succ]
                    refine wpAnyH_done (by kernel_rfl) ?_ _
                    go_wp2_with fail
                    go_meet
                    exact ⟨g3, c3', MO, F1, F3, by omega, by omega, by omega⟩
                  exact AllReadyH.nil
                exact AllReadyH.nil
              refine AllReadyH.cons rfl (fun K hK => ?_) ?_
              · go_simp
                have hb := (Below.refl V1.heap.size V1).alloc (Nat.le_refl _) (.cells #[.int .i64 more.wide, .int .i64 more.wear.lo, .int .i64 more.wear.hi] 49)
                have MO' := Lib.hid (MO.out.call hb)
                replace F1 := Lib.hid (F1.out.call hb)
                have K5 := Lib.hid (Blk.new V1 49 #[.int .i64 more.wide, .int .i64 more.wear.lo, .int .i64 more.wear.hi])
                have hsz2 := hb.size
                refine hK.out _ _ ⟨(HS.out.call MO'.out.lo).bq.cell 0, (HS.out.call MO'.out.lo).bm.cell 0, (HS.out.call MO'.out.lo).bm.cell 1, (HS.out.call MO'.out.lo).bm.cell 2⟩ (fun hH2 => ?_)
                clear hb MO
                have MO := MO'
                clear MO'
                generalize V1.heap.size = b5 at K5 ⊢
                generalize World.alloc V1 _ = V2 at *
                clear hK K
                have HSZ2 : Hid (V0.heap.size ≤ V2.heap.size) := Lib.hid (Nat.le_trans HSZ1.out hsz2)
                clear hsz2
                try simp only [List.setIfInBounds_toArray, List.set_cons_zero, List.set_cons_succ]
                refine wpAnyH_ready (rs := [3]) (by kernel_rfl) (by simp) ?_
                refine AllReadyH.cons rfl (fun K hK => ?_) ?_
                · refine step_append_grows (by rfl) _ _ _ (by rfl) 49 i0 _ 3 24 Inp.und_dies hi hz0 hz1 hz2 rfl (by decide) _ 0 0 [] (by rfl) (by simp) rfl (by simp) ⟨bA, oA, none⟩ p.dies.length c (vs3 dieF p.dies) (by rfl) (vs3_len _) (vs3_cells (HDA.out _ MO.out.lo)) (vs3_one _) (by omega) (by unfold maxLen; omega) (by omega) ?_
                  rintro v' V3 hown hgrow
                  rw [List.nil_append, Nat.zero_add] at hown
                  have hb := Below.grown (B := V2.heap.size) (Below.refl _ _) hgrow (Nat.le_refl _) (by simp)
                  have MO' := Lib.hid (MO.out.call hb)
                  replace F1 := Lib.hid (F1.out.call hb)
                  replace K5 := Lib.hid (K5.out.below hb K5.out.lt)
                  obtain ⟨g2, c2, rfl, -, -⟩ := hown.form (by omega)
                  have O2 := Lib.hid (own_mono3 hown HSZ2.out)
                  have hsz3 := hb.size
                  refine hK.out _ _ ⟨(HS.out.call MO'.out.lo).bq.cell 0, (HS.out.call MO'.out.lo).bm.cell 0, (HS.out.call MO'.out.lo).bm.cell 1, (HS.out.call MO'.out.lo).bm.cell 2⟩ (fun hH3 => ?_)
                  clear hb MO hown hgrow
                  have MO := MO'
                  clear MO'
                  clear hK K
                  have HSZ3 : Hid (V0.heap.size ≤ V3.heap.size) := Lib.hid (Nat.le_trans HSZ2.out hsz3)
                  clear hsz3
                  try simp only [List.setIfInBounds_toArray, List.set_cons_zero, List.set_cons_succ]
                  refine wpAnyH_ready (rs := [6]) (by kernel_rfl) (by simp) ?_
                  refine AllReadyH.cons rfl (fun K hK => ?_) ?_
                  · refine step_append_lies _ (by rfl) _ _ _ (by rfl) V0.heap.size 49 i0 _ 3 24 Inp.und_dies hi hz0 hz1 hz2 rfl (by omega) (.slice (some ⟨g2, 0, none⟩) p.dies.length c2) p.dies.length (vs3 dieF p.dies) (by rfl) O2.out ⟨b5, 0, none⟩ 1 1 [.int .i64 more.wide, .int .i64 more.wear.lo, .int .i64 more.wear.hi] (by rfl) (by rfl) (World.news_of_block (cs := #[.int .i64 more.wide, .int .i64 more.wear.lo, .int .i64 more.wear.hi]) (t := 49) (fr := (0, 0)) K5.out) (by simp [Value.oneCell']) (by omega) (by unfold maxLen; omega) (by omega) HSZ3.out V3.heap.size rfl ?_
                    intro g3 c3' V4 hown hgrow hat hlt1
                    have hb : Below V0.heap.size V3 V4 := Below.grown (Below.refl _ _) hgrow HSZ3.out (own_ge3 O2.out)
                    have MO' := Lib.hid (MO.out.low hb hB10.2.2.2 hB10.1 hB10.2.1)
                    replace F1 := Lib.hid (F1.out.low hb hB10.2.2.1)
                    obtain ⟨g3', c3'', e3, hg3, hf3⟩ := fr3_own (f := dieF) (l := p.dies ++ [more]) (by rw [vs3_append]; exact hown) (by simp) (by omega)
                    simp only [Value.slice.injEq, Option.some.injEq, Addr.mk.injEq, true_and, and_true] at e3
                    obtain ⟨rfl, rfl⟩ := e3
                    have F3 := Lib.hid hf3
                    have hsz4 := hb.size
                    refine hK.out _ _ ⟨(HS.out.call MO'.out.lo).bq.cell 0, (HS.out.call MO'.out.lo).bm.cell 0, (HS.out.call MO'.out.lo).bm.cell 1, (HS.out.call MO'.out.lo).bm.cell 2⟩ (fun hH4 => ?_)
                    clear hb MO hown hgrow hat hlt1 hf3 O2 K5
                    have MO := MO'
                    clear MO'
                    clear hK K
                    have HSZ4 : Hid (V0.heap.size ≤ V4.heap.size) := Lib.hid (Nat.le_trans HSZ3.out hsz4)
                    clear hsz4
                    try simp only [List.setIfInBounds_toArray, List.set_cons_zero, List.set_cons_succ]
                    refine wpAnyH_take (i := 7 ) (v := ?_) rfl (by kernel_rfl) (by kernel_rfl) (by kernel_rfl) (fun _ _ _ h => h) (Or.inl ⟨by rfl, ?_⟩) (by assumption) ?_; rotate_left; (· (intro w0 hSw; obtain ⟨s0, s1, s2, s3⟩ := hSw; go_simp); first | done | with_reducible rfl); (try simp only [Act.put, List.getElem_toArray, List.getElem_cons_succ, List.getElem_cons_zero, List.setIfInBounds_toArray, List.set_cons_zero, List.set_cons_succ])
                    refine wpAnyH_ready (rs := [8]) (by kernel_rfl) (by simp) ?_
                    refine AllReadyH.cons rfl (fun K hK => ?_) AllReadyH.nil
                    have y0 := MO.out.z4.cell 0
                    have y1 := MO.out.z4.frozen 0
                    go_simp
                    have MO' := Lib.hid (MO.out.set4 0 (.slice (some ⟨g3, 0, none⟩) (p.dies.length + 1) c3'))
                    replace F1 := Lib.hid (F1.out.far (p := ⟨q18, 0, none⟩) (by simp only []; omega) (.slice (some ⟨g3, 0, none⟩) (p.dies.length + 1) c3'))
                    replace F3 := Lib.hid (F3.out.far (p := ⟨q18, 0, none⟩) (by simp only []; omega) (.slice (some ⟨g3, 0, none⟩) (p.dies.length + 1) c3'))
                    refine hK.out _ _ ⟨(HS.out.call MO'.out.lo).bq.cell 0, (HS.out.call MO'.out.lo).bm.cell 0, (HS.out.call MO'.out.lo).bm.cell 1, (HS.out.call MO'.out.lo).bm.cell 2⟩ (fun hH5 => ?_)
                    clear MO y0 y1
                    have MO := MO'
                    clear MO'
                    generalize World.setCell V4 _ _ = V5 at *
                    clear hK K
                    try simp only [List.setIfInBounds_toArray, List.set_cons_zero, List.set_cons_succ]
                    refine wpAnyH_done (by kernel_rfl) ?_ _
                    go_wp2_with fail
                    go_meet
                    exact ⟨g3, c3', MO, F1, F3, by omega, by omega, by omega⟩
                  exact AllReadyH.nil
                exact AllReadyH.nil
              exact AllReadyH.nil
            refine AllReadyH.cons rfl (fun K hK => ?_) ?_
            · go_simp
              have hb := (Below.refl V0.heap.size V0).alloc (Nat.le_refl _) (.cells #[.int .i64 more.wide, .int .i64 more.wear.lo, .int .i64 more.wear.hi] 49)
              have MO' := Lib.hid (MO.out.call hb)
              replace F1 := Lib.hid (F1.out.call hb)
              have K5 := Lib.hid (Blk.new V0 49 #[.int .i64 more.wide, .int .i64 more.wear.lo, .int .i64 more.wear.hi])
              have hsz1 := hb.size
              refine hK.out _ _ ⟨(HS.out.call MO'.out.lo).bq.cell 0, (HS.out.call MO'.out.lo).bm.cell 0, (HS.out.call MO'.out.lo).bm.cell 1, (HS.out.call MO'.out.lo).bm.cell 2⟩ (fun hH1 => ?_)
              clear hb MO
              have MO := MO'
              clear MO'
              generalize V0.heap.size = b5 at K5 ⊢
              generalize World.alloc V0 _ = V1 at *
              clear hK K
              have HSZ1 : Hid (V0.heap.size ≤ V1.heap.size) := Lib.hid (Nat.le_trans HSZ0.out hsz1)
              clear hsz1
              try simp only [List.setIfInBounds_toArray]
              refine wpAnyH_ready (rs := [0]) (by kernel_rfl) (by simp) ?_
              refine AllReadyH.cons rfl (fun K hK => ?_) ?_
              · go_simp
                have hb := (Below.refl V1.heap.size V1).alloc (Nat.le_refl _) (.cells #[] 49)
                have MO' := Lib.hid (MO.out.call hb)
                replace F1 := Lib.hid (F1.out.call hb)
                replace K5 := Lib.hid (K5.out.below hb K5.out.lt)
                skip
                have hsz2 := hb.size
                refine hK.out _ _ ⟨(HS.out.call MO'.out.lo).bq.cell 0, (HS.out.call MO'.out.lo).bm.cell 0, (HS.out.call MO'.out.lo).bm.cell 1, (HS.out.call MO'.out.lo).bm.cell 2⟩ (fun hH2 => ?_)
                clear hb MO
                have MO := MO'
                clear MO'
                generalize World.alloc V1 _ = V2 at *
                clear hK K
                have HSZ2 : Hid (V0.heap.size ≤ V2.heap.size) := Lib.hid (Nat.le_trans HSZ1.out hsz2)
                clear hsz2
                try simp only [List.setIfInBounds_toArray, List.set_cons_zero, List.set_cons_succ]
                refine wpAnyH_ready (rs := [3]) (by kernel_rfl) (by simp) ?_
                refine AllReadyH.cons rfl (fun K hK => ?_) ?_
                · refine step_append_grows (by rfl) _ _ _ (by rfl) 49 i0 _ 3 24 Inp.und_dies hi hz0 hz1 hz2 rfl (by decide) _ 0 0 [] (by rfl) (by simp) rfl (by simp) ⟨bA, oA, none⟩ p.dies.length c (vs3 dieF p.dies) (by rfl) (vs3_len _) (vs3_cells (HDA.out _ MO.out.lo)) (vs3_one _) (by omega) (by unfold maxLen; omega) (by omega) ?_
                  rintro v' V3 hown hgrow
                  rw [List.nil_append, Nat.zero_add] at hown
                  have hb := Below.grown (B := V2.heap.size) (Below.refl _ _) hgrow (Nat.le_refl _) (by simp)
                  have MO' := Lib.hid (MO.out.call hb)
                  replace F1 := Lib.hid (F1.out.call hb)
                  replace K5 := Lib.hid (K5.out.below hb K5.out.lt)
                  obtain ⟨g2, c2, rfl, -, -⟩ := hown.form (by omega)
                  have O2 := Lib.hid (own_mono3 hown HSZ2.out)
                  have hsz3 := hb.size
                  refine hK.out _ _ ⟨(HS.out.call MO'.out.lo).bq.cell 0, (HS.out.call MO'.out.lo).bm.cell 0, (HS.out.call MO'.out.lo).bm.cell 1, (HS.out.call MO'.out.lo).bm.cell 2⟩ (fun hH3 => ?_)
                  clear hb MO hown hgrow
                  have MO := MO'
                  clear MO'
                  clear hK K
                  have HSZ3 : Hid (V0.heap.size ≤ V3.heap.size) := Lib.hid (Nat.le_trans HSZ2.out hsz3)
                  clear hsz3
                  try simp only [List.setIfInBounds_toArray, List.set_cons_zero, List.set_cons_succ]
                  refine wpAnyH_ready (rs := [6]) (by kernel_rfl) (by simp) ?_
                  refine AllReadyH.cons rfl (fun K hK => ?_) ?_
                  · refine step_append_lies _ (by rfl) _ _ _ (by rfl) V0.heap.size 49 i0 _ 3 24 Inp.und_dies hi hz0 hz1 hz2 rfl (by omega) (.slice (some ⟨g2, 0, none⟩) p.dies.length c2) p.dies.length (vs3 dieF p.dies) (by rfl) O2.out ⟨b5, 0, none⟩ 1 1 [.int .i64 more.wide, .int .i64 more.wear.lo, .int .i64 more.wear.hi] (by rfl) (by rfl) (World.news_of_block (cs := #[.int .i64 more.wide, .int .i64 more.wear.lo, .int .i64 more.wear.hi]) (t := 49) (fr := (0, 0)) K5.out) (by simp [Value.oneCell']) (by omega) (by unfold maxLen; omega) (by omega) HSZ3.out V3.heap.size rfl ?_
                    intro g3 c3' V4 hown hgrow hat hlt1
                    have hb : Below V0.heap.size V3 V4 := Below.grown (Below.refl _ _) hgrow HSZ3.out (own_ge3 O2.out)
                    have MO' := Lib.hid (MO.out.low hb hB10.2.2.2 hB10.1 hB10.2.1)
                    replace F1 := Lib.hid (F1.out.low hb hB10.2.2.1)
                    obtain ⟨g3', c3'', e3, hg3, hf3⟩ := fr3_own (f := dieF) (l := p.dies ++ [more]) (by rw [vs3_append]; exact hown) (by simp) (by omega)
                    simp only [Value.slice.injEq, Option.some.injEq, Addr.mk.injEq, true_and, and_true] at e3
                    obtain ⟨rfl, rfl⟩ := e3
                    have F3 := Lib.hid hf3
                    have hsz4 := hb.size
                    refine hK.out _ _ ⟨(HS.out.call MO'.out.lo).bq.cell 0, (HS.out.call MO'.out.lo).bm.cell 0, (HS.out.call MO'.out.lo).bm.cell 1, (HS.out.call MO'.out.lo).bm.cell 2⟩ (fun hH4 => ?_)
                    clear hb MO hown hgrow hat hlt1 hf3 O2 K5
                    have MO := MO'
                    clear MO'
                    clear hK K
                    have HSZ4 : Hid (V0.heap.size ≤ V4.heap.size) := Lib.hid (Nat.le_trans HSZ3.out hsz4)
                    clear hsz4
                    try simp only [List.setIfInBounds_toArray, List.set_cons_zero, List.set_cons_succ]
                    refine wpAnyH_take (i := 7 ) (v := ?_) rfl (by kernel_rfl) (by kernel_rfl) (by kernel_rfl) (fun _ _ _ h => h) (Or.inl ⟨by rfl, ?_⟩) (by assumption) ?_; rotate_left; (· (intro w0 hSw; obtain ⟨s0, s1, s2, s3⟩ := hSw; go_simp); first | done | with_reducible rfl); (try simp only [Act.put, List.getElem_toArray, List.getElem_cons_succ, List.getElem_cons_zero, List.setIfInBounds_toArray, List.set_cons_zero, List.set_cons_succ])
                    refine wpAnyH_ready (rs := [8]) (by kernel_rfl) (by simp) ?_
                    refine AllReadyH.cons rfl (fun K hK => ?_) AllReadyH.nil
                    have y0 := MO.out.z4.cell 0
                    have y1 := MO.out.z4.frozen 0
                    go_simp
                    have MO' := Lib.hid (MO.out.set4 0 (.slice (some ⟨g3, 0, none⟩) (p.dies.length + 1) c3'))
                    replace F1 := Lib.hid (F1.out.far (p := ⟨q18, 0, none⟩) (by simp only []; omega) (.slice (some ⟨g3, 0, none⟩) (p.dies.length + 1) c3'))
                    replace F3 := Lib.hid (F3.out.far (p := ⟨q18, 0, none⟩) (by simp only []; omega) (.slice (some ⟨g3, 0, none⟩) (p.dies.length + 1) c3'))
                    refine hK.out _ _ ⟨(HS.out.call MO'.out.lo).bq.cell 0, (HS.out.call MO'.out.lo).bm.cell 0, (HS.out.call MO'.out.lo).bm.cell 1, (HS.out.call MO'.out.lo).bm.cell 2⟩ (fun hH5 => ?_)
                    clear MO y0 y1
                    have MO := MO'
                    clear MO'
                    generalize World.setCell V4 _ _ = V5 at *
                    clear hK K
                    try simp only [List.setIfInBounds_toArray, List.set_cons_zero, List.set_cons_succ]
                    refine wpAnyH_done (by kernel_rfl) ?_ _
                    go_wp2_with fail
                    go_meet
                    exact ⟨g3, c3', MO, F1, F3, by omega, by omega, by omega⟩
                  exact AllReadyH.nil
                exact AllReadyH.nil
              exact AllReadyH.nil
            exact AllReadyH.nil
          case rest => as_aux_lemma =>
            obtain ⟨g3, c3', MO, F1, F3, hg3⟩ := hcut
            clear hw0 hw9 hj0 hjl h30 h50
            have hg1' : q17 ≠ g1 ∧ q18 ≠ g1 ∧ W4.heap.size ≤ g1 := HG1.out
            have hbs : q17 < wc.heap.size ∧ q18 < wc.heap.size ∧ g1 < wc.heap.size ∧ g3 < wc.heap.size ∧ W4.heap.size ≤ wc.heap.size := ⟨MO.out.z3.lt, MO.out.z4.lt, F1.out.lt, F3.out.lt, MO.out.lo.size⟩
            go_upto_region 11 with fail
            go_cut [20] (fun s20 wx => ∃ (Q : Option Addr) (d : Nat), s20 = .slice Q l.length d ∧ l.length ≤ d ∧ Hid (Mo W4 q17 q18 #[.slice (some ⟨g1, 0, none⟩) p.dies.length c1, .int .i64 p.shrink.lo, .int .i64 sh, .int .i64 p.change] #[.slice (some ⟨g3, 0, none⟩) (p.dies.length + 1) c3', .int .i64 p.shrink.lo, .int .i64 p.shrink.hi, .int .i64 p.change] wx) ∧ Hid (Fr3 dieF wx g1 (p.dies.set j ⟨p.dies[j].wide, ⟨we, p.dies[j].wear.hi⟩⟩)) ∧ Hid (Fr3 dieF wx g3 (p.dies ++ [more])) ∧ Hid (LoS q17 q18 g1 g3 W4.heap.size Q l wx))
            case first => as_aux_lemma =>
              obtain ⟨i0, hi, hz0, hz1, hz2⟩ := info_parts drawInfo3
              cases T with
              | none =>
                have hle : l = [] := Classical.byContradiction fun h => by obtain ⟨b, o, e, -⟩ := HS.out.dr h; cases e
                have hc0 := HTN.out rfl
                have hbz := Lib.hid ((Below.refl wc.heap.size wc).alloc (Nat.le_refl _) (.cells #[] 51))
                have HF := Lib.hid (And.intro (MO.out.call hbz.out) (And.intro (F1.out.call hbz.out) (F3.out.call hbz.out)))
                have HLN := Lib.hid hle
                have hl1 : l.length = 0 := by rw [hle]; rfl
                have HL1 := Lib.hid hl1
                have HC0 := Lib.hid hc0
                clear hle hl1 hc0
                go_wp2_with (at_builtin; refine wpList_append_own_none (by rfl) _ _ 27 rfl wc.heap.size 51 i0 3 Inp.und_draws hi (.slice (some ⟨wc.heap.size, 0, none⟩) 0 0) 0 [] rfl (own_zero wc wc.heap.size (Nat.le_refl _) 3) (show Value.slice none l.length ct = .slice none 0 0 by rw [HL1.out, HC0.out]) ?_)
                go_wp2_with fail
                go_meet
                exact ⟨_, 0, by rw [HL1.out], by rw [HL1.out]; exact Nat.le_refl 0, Lib.hid HF.out.1, Lib.hid HF.out.2.1, Lib.hid HF.out.2.2, Lib.hid fun h => absurd HLN.out h⟩
              | some a =>
                have HAT : Hid (∀ j u, (vs3 drawF l)[j]? = some u → (wc.alloc (.cells #[] 51)).cell? (a.add j) = some u) := Lib.hid (by
                  by_cases hle : l = []
                  · subst hle; intro j u h; simp [vs3] at h
                  · obtain ⟨bT, oT, hTe, hbT, haT⟩ := (HS.out.call MO.out.lo).dr hle
                    cases hTe
                    exact vs3_cells (haT.below ((Below.refl _ wc).alloc (Nat.le_refl _) (.cells #[] 51)) hbT))
                go_wp2_with (at_builtin; refine wpList_append_own _ rfl _ _ 27 rfl wc.heap.size 51 i0 _ 3 24 Inp.und_draws hi hz0 hz1 hz2 rfl (by decide) (.slice (some ⟨wc.heap.size, 0, none⟩) 0 0) 0 [] rfl (own_zero wc wc.heap.size (Nat.le_refl _) 3) a l.length ct (vs3 drawF l) rfl (vs3_len _) HAT.out (vs3_one _) (by unfold maxLen; omega) (by omega) (by simp) ?_)
                intro v' w2 hown hgrow hnn
                have hbz := Below.grown (B := wc.heap.size) ((Below.refl _ wc).alloc (Nat.le_refl _) (.cells #[] 51)) hgrow (by simp) (own_ge3 (own_zero (t := 51) wc wc.heap.size (Nat.le_refl _) 3))
                have HF := Lib.hid (And.intro (MO.out.call hbz) (And.intro (F1.out.call hbz) (F3.out.call hbz)))
                obtain ⟨Q, d, hv, hd, hlo⟩ := lo_own hown hbs.1 hbs.2.1 hbs.2.2.1 hbs.2.2.2.1 hbs.2.2.2.2
                have HLO := Lib.hid hlo
                have HD := Lib.hid hd
                subst hv
                clear hown hgrow hnn hbz hlo hd HAT
                go_wp2_with fail
                go_meet
                exact ⟨Q, d, rfl, HD.out, Lib.hid HF.out.1, Lib.hid HF.out.2.1, Lib.hid HF.out.2.2, HLO⟩
            case rest => as_aux_lemma =>
              obtain ⟨Q, d, rfl, hqd, MO, F1, F3, LO⟩ := hcut
              have hll := Lib.hid (loose_zero y l)
              have hlm : (l.length : Int) ≤ 8 := by omega
              replace LO : Hid (LoS q17 q18 g1 g3 W4.heap.size Q (looseTo y l 0) wc) := by rw [hll.out]; exact LO
              clear hll hbs
              go_wp2_with fail
              go_loopw [21] (fun i wr => ∃ k : Nat, k ≤ l.length ∧ i = .int .i64 k ∧ Hid (Mo W4 q17 q18 #[.slice (some ⟨g1, 0, none⟩) p.dies.length c1, .int .i64 p.shrink.lo, .int .i64 sh, .int .i64 p.change] #[.slice (some ⟨g3, 0, none⟩) (p.dies.length + 1) c3', .int .i64 p.shrink.lo, .int .i64 p.shrink.hi, .int .i64 p.change] wr) ∧ Hid (Fr3 dieF wr g1 (p.dies.set j ⟨p.dies[j].wide, ⟨we, p.dies[j].wear.hi⟩⟩)) ∧ Hid (Fr3 dieF wr g3 (p.dies ++ [more])) ∧ Hid (LoS q17 q18 g1 g3 W4.heap.size Q (looseTo y l k) wr)) (fun i _ => l.length - (intOf i).toNat)
              case atStart => exact ⟨0, by omega, rfl, MO, F1, F3, LO⟩
              case round =>
                clear MO F1 F3 LO
                obtain ⟨k, hk, rfl, MO, F1, F3, LO⟩ := hrel
                by_cases hlt : k < l.length
                · obtain ⟨g4, rfl, LA⟩ := LO.out (by intro e; have := loose_len y l k; rw [e] at this; simp at this; omega)
                  have hkl : k < (looseTo y l k).length := by rw [loose_len]; exact hlt
                  obtain ⟨a0, a1, a2⟩ := LA.fr.cells hkl
                  rw [loose_at hlt hkl] at a0 a1 a2
                  simp only [drawF] at a0 a1 a2
                  have f1 := LA.fr.fr (k * 3 + 1)
                  have f2 := LA.fr.fr (k * 3 + 2)
                  obtain ⟨⟨b1, b2⟩, b3, b4, b5⟩ := HDW.out l[k] (List.getElem_mem hlt)
                  have hk0 : (0 : Int) ≤ k := by omega
                  have hkl' : (k : Int) < l.length := by omega
                  have hw1 : IntKind.i64.wrap (l[k].want.lo - y) = l[k].want.lo - y := IntWalk.i64_in _ ⟨by omega, by omega⟩
                  have hw2 : IntKind.i64.wrap (l[k].want.hi + y) = l[k].want.hi + y := IntWalk.i64_in _ ⟨by omega, by omega⟩
                  have LAH := Lib.hid LA
                  have HN : Hid (∀ V, Fr3 drawF V g4 (looseTo y l k) → Fr3 drawF ((V.setCell ⟨g4, k * 3 + 1, none⟩ (.int .i64 (max 0 (l[k].want.lo - y)))).setCell ⟨g4, k * 3 + 2, none⟩ (.int .i64 (min 20000 (l[k].want.hi + y)))) g4 (looseTo y l (k + 1))) := Lib.hid fun V h => by
                    have e := loose_at hlt hkl
                    have h1 := h.put1 hkl (max 0 (l[k].want.lo - y)) ⟨l[k].len, ⟨max 0 (l[k].want.lo - y), l[k].want.hi⟩⟩ (by rw [e]; rfl)
                    have h2 := h1.put2 (k := k) (by rw [List.length_set]; exact hkl) (min 20000 (l[k].want.hi + y)) (looseD y l[k]) (by rw [List.getElem_set_self]; rfl)
                    rw [List.set_set, loose_next hlt] at h2
                    exact h2
                  clear LA LO
                  generalize l[k] = x at *
                  have MOH := Lib.hid (((MO.out.far (a := ⟨g4, k * 3 + 1, none⟩) LAH.out.n5 LAH.out.n1 LAH.out.n2 (.int .i64 (max 0 (x.want.lo - y)))).far (a := ⟨g4, k * 3 + 2, none⟩) LAH.out.n5 LAH.out.n1 LAH.out.n2 (.int .i64 (min 20000 (x.want.hi + y)))))
                  have F1H := Lib.hid ((F1.out.far (p := ⟨g4, k * 3 + 1, none⟩) LAH.out.n3 (.int .i64 (max 0 (x.want.lo - y)))).far (p := ⟨g4, k * 3 + 2, none⟩) LAH.out.n3 (.int .i64 (min 20000 (x.want.hi + y))))
                  have F3H := Lib.hid ((F3.out.far (p := ⟨g4, k * 3 + 1, none⟩) LAH.out.n4 (.int .i64 (max 0 (x.want.lo - y)))).far (p := ⟨g4, k * 3 + 2, none⟩) LAH.out.n4 (.int .i64 (min 20000 (x.want.hi + y))))
                  have LOH : Hid (LoS q17 q18 g1 g3 W4.heap.size (some ⟨g4, 0, none⟩) (looseTo y l (k + 1)) _) := Lib.hid fun _ => ⟨g4, rfl, HN.out _ LAH.out.fr, LAH.out.n1, LAH.out.n2, LAH.out.n3, LAH.out.n4, LAH.out.n5⟩
                  clear MO F1 F3 HN LAH
                  go_wp2_with fail
                  go_roundw
                  case rel => exact ⟨k + 1, by omega, by go_num, MOH, F1H, F3H, LOH⟩
                  case measure => simp [intOf]; omega
                · obtain rfl : k = l.length := by omega
                  have HSR := Lib.hid (HS.out.call MO.out.lo)
                  have P4R := Lib.hid (P4.out.on MO.out.lo (Nat.le_refl _))
                  rw [loose_all] at LO
                  have LL := Lib.hid LO.out.sl
                  clear LO hlt hk hg3 hg1'
                  by_cases hpe : pe = 0
                  · subst hpe
                    obtain ⟨hm1, hm2, hm3, hm4, hm5⟩ := HMP.out rfl
                    obtain ⟨m1, m2, m3⟩ := hm1 j we sh hjn (by rw [Press.die_eq p hjn]; exact hwb.1) (by rw [Press.die_eq p hjn]; exact hwb.2) hsb.1 hsb.2
                    obtain ⟨n1', n2', n3'⟩ := hm2 y hy0
                    obtain ⟨q1', q2'⟩ := hm4 (l.length - 1)
                    have HM3 := Lib.hid (hm3 more)
                    have HM5 := Lib.hid hm5
                    have F1L : Hid (∀ V, Below wr.heap.size wr V → DieSl V V.heap.size (some ⟨g1, 0, none⟩) (lessP p j we sh).dies) := Lib.hid fun V h => by
                      have := (F1.out.call h).sl
                      simp only [lessP, Press.die_eq p hjn]
                      exact this
                    have F3L : Hid (∀ V, Below wr.heap.size wr V → DieSl V V.heap.size (some ⟨g3, 0, none⟩) (richP p more).dies) := Lib.hid fun V h => (F3.out.call h).sl
                    have e1 : (lessP p j we sh).dies.length = p.dies.length := by simp [lessP]
                    have e3 : (richP p more).dies.length = p.dies.length + 1 := by simp [richP]
                    have e2 : (l.map (looseD y)).length = l.length := List.length_map _
                    have e4 : (l.take (l.length - 1)).length = l.length - 1 := by rw [List.length_take]; omega
                    have HF1 : Hid (∀ V, Below wr.heap.size wr V → Calls Try.prog 16 #[.agg #[.slice (some ⟨g1, 0, none⟩) p.dies.length c1, .int .i64 p.shrink.lo, .int .i64 sh, .int .i64 p.change], .slice T l.length ct, .slice A4 pp.length c4] V (RetFo (followR (lessP p j we sh) l pp) V)) := Lib.hid fun V h => by
                      have h9 := follow_any V (some ⟨g1, 0, none⟩) T A4 c1 ct c4 (lessP p j we sh) l pp (by omega) HLE.out.2 HPL.out (F1L.out V h) (HSR.out.call h).dr (P4R.out.on h (Nat.le_refl _))
                      rw [e1] at h9
                      exact h9
                    have HF2 : Hid (∀ V, Below wr.heap.size wr V → Calls Try.prog 16 #[.agg #[.slice (some ⟨bA, oA, none⟩) p.dies.length c, .int .i64 p.shrink.lo, .int .i64 p.shrink.hi, .int .i64 p.change], .slice Q l.length d, .slice A4 pp.length c4] V (RetFo (followR p (l.map (looseD y)) pp) V)) := Lib.hid fun V h => by
                      have h9 := follow_any V (some ⟨bA, oA, none⟩) Q A4 c d c4 p (l.map (looseD y)) pp HLE.out.1 (by omega) HPL.out (HSR.out.call h).da (LL.out.on h (Nat.le_refl _)) (P4R.out.on h (Nat.le_refl _))
                      rw [e2] at h9
                      exact h9
                    have HP1 : Hid (∀ V, Below wr.heap.size wr V → Calls Try.prog 19 #[.agg #[.slice (some ⟨g1, 0, none⟩) p.dies.length c1, .int .i64 p.shrink.lo, .int .i64 sh, .int .i64 p.change], .slice T l.length ct] V (RetPl (planP (lessP p j we sh) l) (planC (lessP p j we sh) l) (planE (lessP p j we sh) l) V)) := Lib.hid fun V h => by
                      have h9 := plan_any V (some ⟨g1, 0, none⟩) T c1 ct (lessP p j we sh) l (by omega) HLE.out.2 (F1L.out V h) (HSR.out.call h).dr HCT.out
                      rw [e1] at h9
                      exact h9
                    have HP2 : Hid (∀ V, Below wr.heap.size wr V → Calls Try.prog 19 #[.agg #[.slice (some ⟨bA, oA, none⟩) p.dies.length c, .int .i64 p.shrink.lo, .int .i64 p.shrink.hi, .int .i64 p.change], .slice Q l.length d] V (RetPl (planP p (l.map (looseD y))) (planC p (l.map (looseD y))) (planE p (l.map (looseD y))) V)) := Lib.hid fun V h => by
                      have h9 := plan_any V (some ⟨bA, oA, none⟩) Q c d p (l.map (looseD y)) HLE.out.1 (by omega) (HSR.out.call h).da (LL.out.on h (Nat.le_refl _)) (by omega)
                      rw [e2] at h9
                      exact h9
                    have HP3 : Hid (∀ V, Below wr.heap.size wr V → Calls Try.prog 19 #[.agg #[.slice (some ⟨g3, 0, none⟩) (p.dies.length + 1) c3', .int .i64 p.shrink.lo, .int .i64 p.shrink.hi, .int .i64 p.change], .slice T l.length ct] V (RetPl (planP (richP p more) l) (planC (richP p more) l) (planE (richP p more) l) V)) := Lib.hid fun V h => by
                      have h9 := plan_any V (some ⟨g3, 0, none⟩) T c3' ct (richP p more) l (by omega) HLE.out.2 (F3L.out V h) (HSR.out.call h).dr HCT.out
                      rw [e3] at h9
                      exact h9
                    have HR3 : Hid (∀ V, Below wr.heap.size wr V → Calls Try.prog 21 #[.agg #[.slice (some ⟨g3, 0, none⟩) (p.dies.length + 1) c3', .int .i64 p.shrink.lo, .int .i64 p.shrink.hi, .int .i64 p.change]] V (Ret (.bool (pressOk (richP p more))) V)) := Lib.hid fun V h => by
                      have h9 := rpress_any V (some ⟨g3, 0, none⟩) c3' (richP p more) (by omega) (F3L.out V h)
                      rw [e3] at h9
                      exact h9
                    have HP4 : Hid (∀ V, Below wr.heap.size wr V → Calls Try.prog 19 #[.agg #[.slice (some ⟨bA, oA, none⟩) p.dies.length c, .int .i64 p.shrink.lo, .int .i64 p.shrink.hi, .int .i64 p.change], .slice T (l.length - 1) ct] V (RetPl (planP p (l.take (l.length - 1))) (planC p (l.take (l.length - 1))) 0 V)) := Lib.hid fun V h => by
                      have h9 := plan_any V (some ⟨bA, oA, none⟩) T c ct p (l.take (l.length - 1)) HLE.out.1 (by omega) (HSR.out.call h).da (draw_take (HSR.out.call h).dr _) (by have := HCT.out; omega)
                      rw [e4, q1'] at h9
                      exact h9
                    clear hm1 hm2 hm3 hm4 hm5 e1 e2 e3 e4 F1L F3L q1' HMP HE HDI HSH HDW HDA hwb hsb
                    generalize planP (lessP p j we sh) l = pA at *
                    generalize planC (lessP p j we sh) l = cA at *
                    generalize planE (lessP p j we sh) l = eA at *
                    generalize followR (lessP p j we sh) l pp = fA at *
                    generalize planP p (l.map (looseD y)) = pB at *
                    generalize planC p (l.map (looseD y)) = cB at *
                    generalize planE p (l.map (looseD y)) = eB at *
                    generalize followR p (l.map (looseD y)) pp = fB at *
                    generalize planP (richP p more) l = pC at *
                    generalize planC (richP p more) l = cC at *
                    generalize planE (richP p more) l = eC at *
                    generalize pressOk (richP p more) = oC at *
                    generalize planP p (l.take (l.length - 1)) = pD at *
                    generalize planC p (l.take (l.length - 1)) = cD at *
                    subst m2 n2'
                    have k1 : decide (pc < cA) = false := decide_eq_false (by omega)
                    have k2 : decide (pc < cB) = false := decide_eq_false (by omega)
                    have k4 : decide (cD ≤ pc) = true := decide_eq_true (by omega)
                    have HB := Lib.hid (Below.refl wr.heap.size wr)
                    have MOR := MO
                    clear MO F1 F3 LL P4R
                    have MZ := MOR.out.call HB.out; have z0 := MZ.z3.cell 0; have z1 := MZ.z3.cell 1; have z2 := MZ.z3.cell 2; have z3 := MZ.z3.cell 3; clear MZ
                    go_wp2_with fail
                    refine (HF1.out _ HB.out).mono ?_
                    rintro e Va ⟨A5, c5, rfl, -, hb⟩
                    replace HB := Lib.hid (HB.out.trans (hb.mono HB.out.size))
                    clear hb z0 z1 z2 z3 HF1
                    have MZ := HSR.out.call HB.out; have x0 := MZ.bq.cell 0; have x1 := MZ.bq.cell 1; have x2 := MZ.bq.cell 2; have x3 := MZ.bq.cell 3; clear MZ
                    go_wp2_with fail
                    refine (HF2.out _ HB.out).mono ?_
                    rintro e Vb ⟨A6, c6, rfl, -, hb⟩
                    replace HB := Lib.hid (HB.out.trans (hb.mono HB.out.size))
                    clear hb x0 x1 x2 x3 HF2
                    have MZ := MOR.out.call HB.out; have z0 := MZ.z3.cell 0; have z1 := MZ.z3.cell 1; have z2 := MZ.z3.cell 2; have z3 := MZ.z3.cell 3; clear MZ
                    go_wp2_with fail
                    refine (HP1.out _ HB.out).mono ?_
                    rintro e Vc ⟨A7, c7, rfl, -, hb⟩
                    replace HB := Lib.hid (HB.out.trans (hb.mono HB.out.size))
                    clear hb z0 z1 z2 z3 HP1
                    have MZ := HSR.out.call HB.out; have x0 := MZ.bq.cell 0; have x1 := MZ.bq.cell 1; have x2 := MZ.bq.cell 2; have x3 := MZ.bq.cell 3; clear MZ
                    go_wp2_with fail
                    refine (HP2.out _ HB.out).mono ?_
                    rintro e Vd ⟨A8, c8, rfl, -, hb⟩
                    replace HB := Lib.hid (HB.out.trans (hb.mono HB.out.size))
                    clear hb x0 x1 x2 x3 HP2
                    have MZ := MOR.out.call HB.out; have z0 := MZ.z4.cell 0; have z1 := MZ.z4.cell 1; have z2 := MZ.z4.cell 2; have z3 := MZ.z4.cell 3; clear MZ
                    go_wp2_with fail
                    refine (HP3.out _ HB.out).mono ?_
                    rintro e Ve ⟨A9, c9, rfl, -, hb⟩
                    replace HB := Lib.hid (HB.out.trans (hb.mono HB.out.size))
                    clear hb z0 z1 z2 z3 HP3
                    have MZ := MOR.out.call HB.out; have z0 := MZ.z4.cell 0; have z1 := MZ.z4.cell 1; have z2 := MZ.z4.cell 2; have z3 := MZ.z4.cell 3; clear MZ
                    go_wp2_with fail
                    refine (HR3.out _ HB.out).mono ?_
                    rintro e Vf ⟨rfl, hb⟩
                    replace HB := Lib.hid (HB.out.trans (hb.mono HB.out.size))
                    clear hb z0 z1 z2 z3 HR3 k1 k2 m1 n1'
                    cases oC with
                    | true =>
                      obtain ⟨h1, h2⟩ := HM3.out rfl
                      subst h1
                      have k3 : decide (pc < cC) = false := decide_eq_false (by omega)
                      clear HM3 h2
                      by_cases hle : l.length = 0; (have hlI : ((l.length : Int) == 0) = true := (by rw [beq_iff_eq]; omega); have hpc : pc = 0 := HM5.out (List.eq_nil_of_length_eq_zero hle); subst hpc; clear hle; have HS' := HS; clear HS; have HS := Lib.hid (HSR.out.call HB.out); go_wp2_with fail; refine (awake_any _).mono ?_; rintro e w9 ⟨rfl, hb9⟩; have hB := (HS.out.call hb9).below; clear HS hb9; go_wp2_with fail; go_ret; exact ⟨rfl, hB⟩); (have hlI : ((l.length : Int) == 0) = false := (by rw [beq_eq_false_iff_ne]; omega); have HSV := Lib.hid (HSR.out.call HB.out); obtain ⟨bT, oT, hTe, -, -⟩ := HSV.out.dr (by intro e; rw [e] at hle; exact hle rfl); subst hTe; have hctv := HCT.out; obtain ⟨m, hm⟩ : ∃ m, l.length = m + 1 := ⟨l.length - 1, by omega⟩; have hm1 : l.length - 1 = m := (by omega); rw [hm1] at HP4; have hwn : IntKind.i64.wrap ((l.length : Int) - 1) = (m : Int) := (by rw [IntWalk.i64_in _ ⟨by omega, by omega⟩]; omega); have hs1 : (0 : Int) ≤ (m : Int) := (by omega); have hs2 : (m : Int) ≤ ct := (by omega); have hs3 : m ≤ ct := (by omega); clear hm hm1 hctv hle; have x0 := HSV.out.bq.cell 0; have x1 := HSV.out.bq.cell 1; have x2 := HSV.out.bq.cell 2; have x3 := HSV.out.bq.cell 3; have HBD := Lib.hid HB.out.drew; have hS0 : Vf.cell? ⟨w.heap.size, 0, none⟩ = some (.slice (some ⟨bA, oA, none⟩) p.dies.length c) ∧ Vf.cell? ⟨w.heap.size, 1, none⟩ = some (.int .i64 p.shrink.lo) ∧ Vf.cell? ⟨w.heap.size, 2, none⟩ = some (.int .i64 p.shrink.hi) ∧ Vf.cell? ⟨w.heap.size, 3, none⟩ = some (.int .i64 p.change) := ⟨x0, x1, x2, x3⟩; clear x0 x1 x2 x3 HSV; go_wp2_with fail; go_region_held3 (fun W => W.cell? ⟨w.heap.size, 0, none⟩ = some (.slice (some ⟨bA, oA, none⟩) p.dies.length c) ∧ W.cell? ⟨w.heap.size, 1, none⟩ = some (.int .i64 p.shrink.lo) ∧ W.cell? ⟨w.heap.size, 2, none⟩ = some (.int .i64 p.shrink.hi) ∧ W.cell? ⟨w.heap.size, 3, none⟩ = some (.int .i64 p.change)) (first | exact hS0 | exact ⟨HSW.out.bq.cell 0, HSW.out.bq.cell 1, HSW.out.bq.cell 2, HSW.out.bq.cell 3⟩ | assumption | fail "keep") (first | (go_at_call 19; (with_reducible refine (HP4.out _ HBD.out).mono ?_); rintro e Vg ⟨AA, cc, rfl, -, hb⟩; have HBW := Lib.hid (HBD.out.trans (hb.mono HBD.out.size)); have HSW := Lib.hid (HSR.out.call HBW.out); clear hb) | fail "no arm"); clear hS0; have HS' := HS; clear HS; have HS := HSW; go_wp2_with fail; refine (awake_any _).mono ?_; rintro e w9 ⟨rfl, hb9⟩; have hB := (HS.out.call hb9).below; clear HS hb9; go_wp2_with fail; go_ret; exact ⟨rfl, hB⟩)
                    | false =>
                      clear HM3
                      by_cases hle : l.length = 0; (have hlI : ((l.length : Int) == 0) = true := (by rw [beq_iff_eq]; omega); have hpc : pc = 0 := HM5.out (List.eq_nil_of_length_eq_zero hle); subst hpc; clear hle; have HS' := HS; clear HS; have HS := Lib.hid (HSR.out.call HB.out); go_wp2_with fail; refine (awake_any _).mono ?_; rintro e w9 ⟨rfl, hb9⟩; have hB := (HS.out.call hb9).below; clear HS hb9; go_wp2_with fail; go_ret; exact ⟨rfl, hB⟩); (have hlI : ((l.length : Int) == 0) = false := (by rw [beq_eq_false_iff_ne]; omega); have HSV := Lib.hid (HSR.out.call HB.out); obtain ⟨bT, oT, hTe, -, -⟩ := HSV.out.dr (by intro e; rw [e] at hle; exact hle rfl); subst hTe; have hctv := HCT.out; obtain ⟨m, hm⟩ : ∃ m, l.length = m + 1 := ⟨l.length - 1, by omega⟩; have hm1 : l.length - 1 = m := (by omega); rw [hm1] at HP4; have hwn : IntKind.i64.wrap ((l.length : Int) - 1) = (m : Int) := (by rw [IntWalk.i64_in _ ⟨by omega, by omega⟩]; omega); have hs1 : (0 : Int) ≤ (m : Int) := (by omega); have hs2 : (m : Int) ≤ ct := (by omega); have hs3 : m ≤ ct := (by omega); clear hm hm1 hctv hle; have x0 := HSV.out.bq.cell 0; have x1 := HSV.out.bq.cell 1; have x2 := HSV.out.bq.cell 2; have x3 := HSV.out.bq.cell 3; have HBD := Lib.hid HB.out.drew; have hS0 : Vf.cell? ⟨w.heap.size, 0, none⟩ = some (.slice (some ⟨bA, oA, none⟩) p.dies.length c) ∧ Vf.cell? ⟨w.heap.size, 1, none⟩ = some (.int .i64 p.shrink.lo) ∧ Vf.cell? ⟨w.heap.size, 2, none⟩ = some (.int .i64 p.shrink.hi) ∧ Vf.cell? ⟨w.heap.size, 3, none⟩ = some (.int .i64 p.change) := ⟨x0, x1, x2, x3⟩; clear x0 x1 x2 x3 HSV; go_wp2_with fail; go_region_held3 (fun W => W.cell? ⟨w.heap.size, 0, none⟩ = some (.slice (some ⟨bA, oA, none⟩) p.dies.length c) ∧ W.cell? ⟨w.heap.size, 1, none⟩ = some (.int .i64 p.shrink.lo) ∧ W.cell? ⟨w.heap.size, 2, none⟩ = some (.int .i64 p.shrink.hi) ∧ W.cell? ⟨w.heap.size, 3, none⟩ = some (.int .i64 p.change)) (first | exact hS0 | exact ⟨HSW.out.bq.cell 0, HSW.out.bq.cell 1, HSW.out.bq.cell 2, HSW.out.bq.cell 3⟩ | assumption | fail "keep") (first | (go_at_call 19; (with_reducible refine (HP4.out _ HBD.out).mono ?_); rintro e Vg ⟨AA, cc, rfl, -, hb⟩; have HBW := Lib.hid (HBD.out.trans (hb.mono HBD.out.size)); have HSW := Lib.hid (HSR.out.call HBW.out); clear hb) | fail "no arm"); clear hS0; have HS' := HS; clear HS; have HS := HSW; go_wp2_with fail; refine (awake_any _).mono ?_; rintro e w9 ⟨rfl, hb9⟩; have hB := (HS.out.call hb9).below; clear HS hb9; go_wp2_with fail; go_ret; exact ⟨rfl, hB⟩)
                  · have hp4 := HE.out hpe
                    subst hp4
                    have HS' := HS
                    clear HS
                    have HS := HSR
                    clear hpe
                    go_wp2_with fail
                    refine (awake_any _).mono ?_; rintro e w9 ⟨rfl, hb9⟩; have hB := (HS.out.call hb9).below; clear HS hb9; go_wp2_with fail; go_ret; exact ⟨rfl, hB⟩
end Go.Proofs.Ytkokacdaiklfjaa
