/- The law DieEnds: the walk. -/
import Derived.Test.YtkokacdaiklfjaaLe0
import Derived.Deep.DeepCutAuto
namespace Go.Proofs.Ytkokacdaiklfjaa
open Go.RowKit Go.Shelf

set_option maxRecDepth 100000 in
set_option maxHeartbeats 16000000 in
theorem ends_any (w : World) (A : Option Addr) (c : Nat) (p : Press) (n used : Int) (want : Span) (y : Int) (hp : p.dies.length ≤ 9223372036854775807) (hA : DieSl w w.heap.size A p.dies) (hy : 0 ≤ y ∧ y ≤ 65535) :
    Calls Try.prog 6 #[.agg #[.slice A p.dies.length c, .int .i64 p.shrink.lo, .int .i64 p.shrink.hi, .int .i64 p.change], .int .i64 n, .int .i64 used, .agg #[.int .i64 want.lo, .int .i64 want.hi], .int .u16 y] w (Ret (.bool true) w) := by
  have hb0 : Below w.heap.size w (((w.alloc (.cells #[.slice A p.dies.length c, .int .i64 p.shrink.lo, .int .i64 p.shrink.hi, .int .i64 p.change] 26)).alloc (.cells #[.int .i64 n] 3)).alloc (.cells #[.int .i64 want.lo, .int .i64 want.hi] 24)) := by repeat (first | exact Below.refl _ _ | assumption | refine Below.drew ?_ | refine Below.alloc ?_ (by first | omega | (simp only [World.size_alloc]; omega) | simp) _ | refine Below.setCell ?_ (by first | omega | (simp only [World.size_alloc]; omega) | simp) _)
  have hS0 : LeS w p A c n want (((w.alloc (.cells #[.slice A p.dies.length c, .int .i64 p.shrink.lo, .int .i64 p.shrink.hi, .int .i64 p.change] 26)).alloc (.cells #[.int .i64 n] 3)).alloc (.cells #[.int .i64 want.lo, .int .i64 want.hi] 24)) := ⟨hb0, ((Blk.new _ _ _).alloc _).alloc _, (blk_at _ _ (by simp)).alloc _, blk_at _ _ (by simp), hA.below hb0⟩
  have HS := Lib.hid hS0
  have HLE := Lib.hid hp
  have HYB := Lib.hid hy
  have HW1 : Hid (∀ V, LeS w p A c n want V → Calls Try.prog 12 #[.agg #[.slice A p.dies.length c, .int .i64 p.shrink.lo, .int .i64 p.shrink.hi, .int .i64 p.change], .int .i64 n, .int .i64 used] V (Ret (.tuple #[.agg #[.int .i64 (wideS p n used).lo, .int .i64 (wideS p n used).hi], .int .i64 (wideE p n used)]) V)) := Lib.hid fun V h => wide_any V A c p n used hp h.da
  have HPR : Hid (∀ V, LeS w p A c n want V → Calls Try.prog 21 #[.agg #[.slice A p.dies.length c, .int .i64 p.shrink.lo, .int .i64 p.shrink.hi, .int .i64 p.change]] V (Ret (.bool (pressOk p)) V)) := Lib.hid fun V h => rpress_any V A c p hp h.da
  clear hb0 hS0 hA hy
  go_enter Try.func6, Try.ntmps6
  go_wp2_with fail
  generalize World.alloc (World.alloc (World.alloc w _) _) _ = W at HS ⊢
  have x0 := HS.out.bq.cell 0; have x1 := HS.out.bq.cell 1; have x2 := HS.out.bq.cell 2; have x3 := HS.out.bq.cell 3
  go_wp2_with fail
  refine (large_any A none p.dies.length c 0 0 p.shrink.lo p.shrink.hi p.change 8 W HLE.out (by omega)).mono ?_
  rintro e W1 ⟨rfl, hb⟩
  replace HS := Lib.hid (HS.out.call hb)
  clear hb x0 x1 x2 x3
  go_simp
  generalize decide (8 < p.dies.length) = lg
  cases lg with
  | true =>
    go_wp2_with fail
    refine (awake_any _).mono ?_; rintro e w9 ⟨rfl, hb9⟩; have hB := (HS.out.call hb9).below; clear HS hb9; go_wp2_with fail; go_ret; exact ⟨rfl, hB⟩
  | false =>
    have x0 := HS.out.bq.cell 0; have x1 := HS.out.bq.cell 1; have x2 := HS.out.bq.cell 2; have x3 := HS.out.bq.cell 3
    have n0 := HS.out.bn.cell 0
    go_wp2_with fail
    refine (HW1.out _ HS.out).mono ?_
    rintro e W2 ⟨rfl, hb⟩
    replace HS := Lib.hid (HS.out.call hb)
    clear hb x0 x1 x2 x3 n0
    have HBZ := Lib.hid HS.out.bs.lt
    have hba := (Below.refl W2.heap.size W2).alloc (Nat.le_refl _) (.cells #[.int .i64 (wideS p n used).lo, .int .i64 (wideS p n used).hi] 24)
    replace HS := Lib.hid (HS.out.call hba)
    have R1 := Lib.hid (Blk.new W2 24 #[.int .i64 (wideS p n used).lo, .int .i64 (wideS p n used).hi])
    clear hba
    by_cases hE : wideE p n used = 0
    · obtain ⟨hpk, ⟨i0, i1⟩, u0, u1⟩ := wide_err hE
      obtain ⟨k, rfl⟩ := Int.eq_ofNat_of_zero_le i0
      have hk : k < p.dies.length := by omega
      have HPK := Lib.hid hpk
      have HUB := Lib.hid (And.intro u0 u1)
      have HK := Lib.hid hk
      rw [hpk] at HPR
      rw [hE]
      have hkl : (k : Int) < p.dies.length := by omega
      have hk0 : (0 : Int) ≤ k := by omega
      have hkd : decide ((k : Int) < 0) = false := decide_eq_false (by omega)
      have hkd2 : decide ((p.dies.length : Int) ≤ k) = false := decide_eq_false (by omega)
      clear hE i0 i1 HW1
      have hws := wideS_k hpk hk u0 u1
      obtain ⟨tl, th, htl⟩ : ∃ a b, wideS p (k : Int) used = ⟨a, b⟩ := ⟨_, _, rfl⟩
      rw [htl] at hws HS R1 ⊢
      have HT : Hid (tl = thin p.dies[k] p.shrink used / 1000 ∧ th = cdiv (thick p.dies[k] p.shrink used) 1000) := Lib.hid (by simp at hws; exact hws)
      dsimp only at HS R1 ⊢
      clear htl hws
      have x0 := HS.out.bq.cell 0; have x1 := HS.out.bq.cell 1; have x2 := HS.out.bq.cell 2; have x3 := HS.out.bq.cell 3
      have n0 := HS.out.bn.cell 0
      go_wp2_with fail
      generalize World.alloc W2 _ = W3 at HS R1 x0 x1 x2 x3 n0 ⊢
      have HQ1 : Hid (w.heap.size + 2 < W2.heap.size) := Lib.hid HBZ.out
      generalize W2.heap.size = q1 at R1 HQ1 ⊢
      refine (HPR.out _ HS.out).mono ?_
      rintro e W4 ⟨rfl, hb⟩
      replace HS := Lib.hid (HS.out.call hb)
      replace R1 := Lib.hid (R1.out.below hb R1.out.lt)
      clear hb x0 x1 x2 x3 n0 HPR
      have x0 := HS.out.bq.cell 0; have x1 := HS.out.bq.cell 1; have x2 := HS.out.bq.cell 2; have x3 := HS.out.bq.cell 3
      have n0 := HS.out.bn.cell 0
      go_wp2_with fail
      have hq1 : w.heap.size + 2 < q1 := HQ1.out
      go_cut [13, 14] (fun s13 s14 wx => ∃ q13 q14 : Nat, s13 = .pointer (some ⟨q13, 0, none⟩) ∧ s14 = .pointer (some ⟨q14, 0, none⟩) ∧ Hid (Nd w p A c k want q1 tl th q13 q14 #[.slice A p.dies.length c, .int .i64 p.shrink.lo, .int .i64 p.shrink.hi, .int .i64 p.change] #[.slice A p.dies.length c, .int .i64 p.shrink.lo, .int .i64 p.shrink.hi, .int .i64 p.change] wx))
      case first => as_aux_lemma =>
        have hlt0 := HS.out.bq.lt
        have HN2 := Lib.hid (Nd.two HS.out R1.out hq1)
        go_region
        all_goals (go_wp2_with fail)
        all_goals go_meet
        all_goals first
          | exact ⟨_, _, rfl, rfl, Lib.hid HN2.out.1⟩
          | exact ⟨_, _, rfl, rfl, Lib.hid HN2.out.2⟩
          | fail "end"
      case rest => as_aux_lemma =>
        obtain ⟨q13, q14, rfl, rfl, ND⟩ := hcut
        obtain ⟨-, hdi, hsh, hch⟩ := press_parts HPK.out
        have hdk := hdi p.dies[k] (List.getElem_mem hk)
        have HDK := Lib.hid (And.intro hdk hsh)
        have h4 := (press_parts HPK.out).1.2
        obtain ⟨bA, oA, hAe, -, -⟩ := ND.out.hs.dl (by intro e; rw [e] at hk; simp at hk)
        subst hAe
        have HDA : Hid (∀ V, LeS w p (some ⟨bA, oA, none⟩) c k want V → At3 dieF V bA oA p.dies) := Lib.hid fun V h => by
          obtain ⟨b, o, e, -, ha⟩ := h.dl (by intro e; rw [e] at hk; simp at hk)
          cases e
          exact ha
        have HLP : Hid (0 < p.dies.length) := Lib.hid (by omega)
        clear hdi hsh hch hdk x0 x1 x2 x3 n0 HS R1
        go_wp2_with fail
        go_cut [] (fun wx => ∃ g1 c1 g2 c2 : Nat, Hid (Nd w p (some ⟨bA, oA, none⟩) c k want q1 tl th q13 q14 #[.slice (some ⟨g1, 0, none⟩) p.dies.length c1, .int .i64 p.shrink.lo, .int .i64 p.shrink.hi, .int .i64 p.change] #[.slice (some ⟨g2, 0, none⟩) p.dies.length c2, .int .i64 p.shrink.lo, .int .i64 p.shrink.hi, .int .i64 p.change] wx) ∧ Hid (FrD wx g1 p.dies) ∧ Hid (FrD wx g2 p.dies) ∧ (q13 < g1 ∧ q14 < g1) ∧ (q13 < g2 ∧ q14 < g2) ∧ g1 ≠ g2)
        case first => as_aux_lemma =>
          obtain ⟨i0, hi, hz0, hz1, hz2⟩ := info_parts dieInfo
          replace ND := Lib.hid (ND.out.call (Below.refl _ _).drew)
          refine wp_region_held_drew (S := fun W => W.cell? ⟨w.heap.size, 0, none⟩ = some (.slice (some ⟨bA, oA, none⟩) p.dies.length c)) (by kernel_rfl) (ND.out.hs.bq.cell 0) (fun hH0 => ?_)
          generalize World.drew _ = V0 at *
          simp only [List.size_toArray, List.length_cons, List.length_nil, Nat.reduceAdd, Array.replicate_succ, Array.replicate_zero, List.push_toArray, List.nil_append, List.cons_append]
          refine wpAnyH_take (i := 1 ) (v := ?_) rfl (by kernel_rfl) (by kernel_rfl) (by kernel_rfl) (fun _ _ _ h => h) (Or.inl ⟨by rfl, ?_⟩) (by assumption) ?_; rotate_left; (· (intro w0 hSw; have p0 : w0.cell? ⟨w.heap.size, 0, none⟩ = some (.slice (some ⟨bA, oA, none⟩) p.dies.length c) := hSw; clear hSw; go_simp); first | done | with_reducible rfl); (try simp only [Act.put, List.getElem_toArray, List.setIfInBounds_toArray, List.set_cons_zero, List.set_cons_succ])
          refine wpAnyH_take (i := 2 ) (v := ?_) rfl (by kernel_rfl) (by kernel_rfl) (by kernel_rfl) (fun _ _ _ h => h) (Or.inl ⟨by rfl, ?_⟩) (by assumption) ?_; rotate_left; (· (intro w0 hSw; have p0 : w0.cell? ⟨w.heap.size, 0, none⟩ = some (.slice (some ⟨bA, oA, none⟩) p.dies.length c) := hSw; clear hSw; go_simp); first | done | with_reducible rfl); (try simp only [Act.put, List.getElem_toArray, List.getElem_cons_succ, List.getElem_cons_zero, List.setIfInBounds_toArray, List.set_cons_zero, List.set_cons_succ])
          refine wpAnyH_take (i := 5 ) (v := ?_) rfl (by kernel_rfl) (by kernel_rfl) (by kernel_rfl) (fun _ _ _ h => h) (Or.inl ⟨by rfl, ?_⟩) (by assumption) ?_; rotate_left; (· (intro w0 hSw; have p0 : w0.cell? ⟨w.heap.size, 0, none⟩ = some (.slice (some ⟨bA, oA, none⟩) p.dies.length c) := hSw; clear hSw; go_simp); first | done | with_reducible rfl); (try simp only [Act.put, List.getElem_toArray, List.getElem_cons_succ, List.getElem_cons_zero, List.setIfInBounds_toArray, List.set_cons_zero, List.set_cons_succ])
          refine wpAnyH_take (i := 6 ) (v := ?_) rfl (by kernel_rfl) (by kernel_rfl) (by kernel_rfl) (fun _ _ _ h => h) (Or.inl ⟨by rfl, ?_⟩) (by assumption) ?_; rotate_left; (· (intro w0 hSw; have p0 : w0.cell? ⟨w.heap.size, 0, none⟩ = some (.slice (some ⟨bA, oA, none⟩) p.dies.length c) := hSw; clear hSw; go_simp); first | done | with_reducible rfl); (try simp only [Act.put, List.getElem_toArray, List.getElem_cons_succ, List.getElem_cons_zero, List.setIfInBounds_toArray, List.set_cons_zero, List.set_cons_succ])
          refine wpAnyH_ready (rs := [0, 4]) (by kernel_rfl) (by simp) ?_
          refine AllReadyH.cons rfl (fun K hK => ?_) ?_
          · go_simp
            have hb := (Below.refl V0.heap.size V0).alloc (Nat.le_refl _) (.cells #[] 49)
            have ND' := Lib.hid (ND.out.call hb)
            skip
            refine hK.out _ _ (ND'.out.hs.bq.cell 0) (fun hH1 => ?_)
            clear hb ND
            have ND := ND'
            clear ND'
            generalize World.alloc V0 _ = V1 at *
            clear hK K
            try simp only [List.setIfInBounds_toArray, List.set_cons_zero]
            refine wpAnyH_ready (rs := [3, 4]) (by kernel_rfl) (by simp) ?_
            refine AllReadyH.cons rfl (fun K hK => ?_) ?_
            · refine step_append_grows (by rfl) _ _ _ (by rfl) 49 i0 _ 3 24 Inp.und_dies hi hz0 hz1 hz2 rfl (by decide) _ 0 0 [] (by rfl) (by simp) rfl (by simp) ⟨bA, oA, none⟩ p.dies.length c (dieVs p.dies) (by rfl) (dieVs_len _) (dieVs_cells (HDA.out _ ND.out.hs)) (dieVs_one _) (by omega) (by unfold maxLen; omega) (by omega) ?_
              rintro v' V2 hown hgrow
              rw [List.nil_append, Nat.zero_add] at hown
              obtain ⟨g1, c1, rfl, hg1, hfr⟩ := frD_own hown HLP.out
              skip
              have hb := Below.grown (B := V1.heap.size) (Below.refl _ _) hgrow (Nat.le_refl _) (by simp)
              have ND' := Lib.hid (ND.out.call hb)
              skip
              have D1 := Lib.hid hfr
              have hG1 := ND.out.z3.lt; have hH1 := ND.out.z4.lt; have hI1 := ND.out.hs.bs.lt; have hJ1 := ND.out.r1.lt
              refine hK.out _ _ (ND'.out.hs.bq.cell 0) (fun hH2 => ?_)
              clear hb ND hown hgrow hfr
              have ND := ND'
              clear ND'
              clear hK K
              try simp only [List.setIfInBounds_toArray, List.set_cons_zero, List.set_cons_succ]
              refine wpAnyH_take (i := 8 ) (v := ?_) rfl (by kernel_rfl) (by kernel_rfl) (by kernel_rfl) (fun _ _ _ h => h) (Or.inl ⟨by rfl, ?_⟩) (by assumption) ?_; rotate_left; (· (intro w0 hSw; have p0 : w0.cell? ⟨w.heap.size, 0, none⟩ = some (.slice (some ⟨bA, oA, none⟩) p.dies.length c) := hSw; clear hSw; go_simp); first | done | with_reducible rfl); (try simp only [Act.put, List.getElem_toArray, List.getElem_cons_succ, List.getElem_cons_zero, List.setIfInBounds_toArray, List.set_cons_zero, List.set_cons_succ])
              refine wpAnyH_ready (rs := [4]) (by kernel_rfl) (by simp) ?_
              refine AllReadyH.cons rfl (fun K hK => ?_) ?_
              · go_simp
                have hb := (Below.refl V2.heap.size V2).alloc (Nat.le_refl _) (.cells #[] 49)
                have ND' := Lib.hid (ND.out.call hb)
                replace D1 := Lib.hid (D1.out.call hb)
                refine hK.out _ _ (ND'.out.hs.bq.cell 0) (fun hH3 => ?_)
                clear hb ND
                have ND := ND'
                clear ND'
                generalize World.alloc V2 _ = V3 at *
                clear hK K
                try simp only [List.setIfInBounds_toArray, List.set_cons_zero, List.set_cons_succ]
                refine wpAnyH_ready (rs := [7]) (by kernel_rfl) (by simp) ?_
                refine AllReadyH.cons rfl (fun K hK => ?_) ?_
                · refine step_append_grows (by rfl) _ _ _ (by rfl) 49 i0 _ 3 24 Inp.und_dies hi hz0 hz1 hz2 rfl (by decide) _ 0 0 [] (by rfl) (by simp) rfl (by simp) ⟨bA, oA, none⟩ p.dies.length c (dieVs p.dies) (by rfl) (dieVs_len _) (dieVs_cells (HDA.out _ ND.out.hs)) (dieVs_one _) (by omega) (by unfold maxLen; omega) (by omega) ?_
                  rintro v' V4 hown hgrow
                  rw [List.nil_append, Nat.zero_add] at hown
                  obtain ⟨g2, c2, rfl, hg2, hfr⟩ := frD_own hown HLP.out
                  have hgg := D1.out.lt
                  have hb := Below.grown (B := V3.heap.size) (Below.refl _ _) hgrow (Nat.le_refl _) (by simp)
                  have ND' := Lib.hid (ND.out.call hb)
                  replace D1 := Lib.hid (D1.out.call hb)
                  have D2 := Lib.hid hfr
                  have hG2 := ND.out.z3.lt; have hH2 := ND.out.z4.lt; have hI2 := ND.out.hs.bs.lt; have hJ2 := ND.out.r1.lt
                  refine hK.out _ _ (ND'.out.hs.bq.cell 0) (fun hH4 => ?_)
                  clear hb ND hown hgrow hfr
                  have ND := ND'
                  clear ND'
                  clear hK K
                  try simp only [List.setIfInBounds_toArray, List.set_cons_zero, List.set_cons_succ]
                  refine wpAnyH_ready (rs := [9]) (by kernel_rfl) (by simp) ?_
                  refine AllReadyH.cons rfl (fun K hK => ?_) AllReadyH.nil
                  have y0 := ND.out.z3.cell 0
                  have y1 := ND.out.z3.frozen 0
                  go_simp
                  have ND' := Lib.hid (ND.out.set3 0 (.slice (some ⟨g1, 0, none⟩) p.dies.length c1))
                  replace D1 := Lib.hid (D1.out.far (p := ⟨q13, 0, none⟩) (by simp only []; omega) (.slice (some ⟨g1, 0, none⟩) p.dies.length c1))
                  replace D2 := Lib.hid (D2.out.far (p := ⟨q13, 0, none⟩) (by simp only []; omega) (.slice (some ⟨g1, 0, none⟩) p.dies.length c1))
                  refine hK.out _ _ (ND'.out.hs.bq.cell 0) (fun hH5 => ?_)
                  clear ND y0 y1
                  have ND := ND'
                  clear ND'
                  generalize World.setCell V4 _ _ = V5 at *
                  clear hK K
                  try simp only [List.setIfInBounds_toArray, List.set_cons_zero, List.set_cons_succ]
                  refine wpAnyH_take (i := 10 ) (v := ?_) rfl (by kernel_rfl) (by kernel_rfl) (by kernel_rfl) (fun _ _ _ h => h) (Or.inl ⟨by rfl, ?_⟩) (by assumption) ?_; rotate_left; (· (intro w0 hSw; have p0 : w0.cell? ⟨w.heap.size, 0, none⟩ = some (.slice (some ⟨bA, oA, none⟩) p.dies.length c) := hSw; clear hSw; go_simp); first | done | with_reducible rfl); (try simp only [Act.put, List.getElem_toArray, List.getElem_cons_succ, List.getElem_cons_zero, List.setIfInBounds_toArray, List.set_cons_zero, List.set_cons_succ])
                  refine wpAnyH_ready (rs := [11]) (by kernel_rfl) (by simp) ?_
                  refine AllReadyH.cons rfl (fun K hK => ?_) AllReadyH.nil
                  have y0 := ND.out.z4.cell 0
                  have y1 := ND.out.z4.frozen 0
                  go_simp
                  have ND' := Lib.hid (ND.out.set4 0 (.slice (some ⟨g2, 0, none⟩) p.dies.length c2))
                  replace D1 := Lib.hid (D1.out.far (p := ⟨q14, 0, none⟩) (by simp only []; omega) (.slice (some ⟨g2, 0, none⟩) p.dies.length c2))
                  replace D2 := Lib.hid (D2.out.far (p := ⟨q14, 0, none⟩) (by simp only []; omega) (.slice (some ⟨g2, 0, none⟩) p.dies.length c2))
                  refine hK.out _ _ (ND'.out.hs.bq.cell 0) (fun hH6 => ?_)
                  clear ND y0 y1
                  have ND := ND'
                  clear ND'
                  generalize World.setCell V5 _ _ = V6 at *
                  clear hK K
                  try simp only [List.setIfInBounds_toArray, List.set_cons_zero, List.set_cons_succ]
                  refine wpAnyH_done (by kernel_rfl) ?_ _
                  go_wp2_with fail
                  go_meet
                  exact ⟨g1, c1, g2, c2, ND, D1, D2, by omega, by omega, by omega⟩
                exact AllReadyH.nil
              exact AllReadyH.nil
            refine AllReadyH.cons rfl (fun K hK => ?_) ?_
            · go_simp
              have hb := (Below.refl V1.heap.size V1).alloc (Nat.le_refl _) (.cells #[] 49)
              have ND' := Lib.hid (ND.out.call hb)
              skip
              refine hK.out _ _ (ND'.out.hs.bq.cell 0) (fun hH2 => ?_)
              clear hb ND
              have ND := ND'
              clear ND'
              generalize World.alloc V1 _ = V2 at *
              clear hK K
              try simp only [List.setIfInBounds_toArray, List.set_cons_zero, List.set_cons_succ]
              refine wpAnyH_ready (rs := [3]) (by kernel_rfl) (by simp) ?_
              refine AllReadyH.cons rfl (fun K hK => ?_) ?_
              · refine step_append_grows (by rfl) _ _ _ (by rfl) 49 i0 _ 3 24 Inp.und_dies hi hz0 hz1 hz2 rfl (by decide) _ 0 0 [] (by rfl) (by simp) rfl (by simp) ⟨bA, oA, none⟩ p.dies.length c (dieVs p.dies) (by rfl) (dieVs_len _) (dieVs_cells (HDA.out _ ND.out.hs)) (dieVs_one _) (by omega) (by unfold maxLen; omega) (by omega) ?_
                rintro v' V3 hown hgrow
                rw [List.nil_append, Nat.zero_add] at hown
                obtain ⟨g1, c1, rfl, hg1, hfr⟩ := frD_own hown HLP.out
                skip
                have hb := Below.grown (B := V2.heap.size) (Below.refl _ _) hgrow (Nat.le_refl _) (by simp)
                have ND' := Lib.hid (ND.out.call hb)
                skip
                have D1 := Lib.hid hfr
                have hG1 := ND.out.z3.lt; have hH1 := ND.out.z4.lt; have hI1 := ND.out.hs.bs.lt; have hJ1 := ND.out.r1.lt
                refine hK.out _ _ (ND'.out.hs.bq.cell 0) (fun hH3 => ?_)
                clear hb ND hown hgrow hfr
                have ND := ND'
                clear ND'
                clear hK K
                try simp only [List.setIfInBounds_toArray, List.set_cons_zero, List.set_cons_succ]
                refine wpAnyH_take (i := 8 ) (v := ?_) rfl (by kernel_rfl) (by kernel_rfl) (by kernel_rfl) (fun _ _ _ h => h) (Or.inl ⟨by rfl, ?_⟩) (by assumption) ?_; rotate_left; (· (intro w0 hSw; have p0 : w0.cell? ⟨w.heap.size, 0, none⟩ = some (.slice (some ⟨bA, oA, none⟩) p.dies.length c) := hSw; clear hSw; go_simp); first | done | with_reducible rfl); (try simp only [Act.put, List.getElem_toArray, List.getElem_cons_succ, List.getElem_cons_zero, List.setIfInBounds_toArray, List.set_cons_zero, List.set_cons_succ])
                refine wpAnyH_ready (rs := [7]) (by kernel_rfl) (by simp) ?_
                refine AllReadyH.cons rfl (fun K hK => ?_) ?_
                · refine step_append_grows (by rfl) _ _ _ (by rfl) 49 i0 _ 3 24 Inp.und_dies hi hz0 hz1 hz2 rfl (by decide) _ 0 0 [] (by rfl) (by simp) rfl (by simp) ⟨bA, oA, none⟩ p.dies.length c (dieVs p.dies) (by rfl) (dieVs_len _) (dieVs_cells (HDA.out _ ND.out.hs)) (dieVs_one _) (by omega) (by unfold maxLen; omega) (by omega) ?_
                  rintro v' V4 hown hgrow
                  rw [List.nil_append, Nat.zero_add] at hown
                  obtain ⟨g2, c2, rfl, hg2, hfr⟩ := frD_own hown HLP.out
                  have hgg := D1.out.lt
                  have hb := Below.grown (B := V3.heap.size) (Below.refl _ _) hgrow (Nat.le_refl _) (by simp)
                  have ND' := Lib.hid (ND.out.call hb)
                  replace D1 := Lib.hid (D1.out.call hb)
                  have D2 := Lib.hid hfr
                  have hG2 := ND.out.z3.lt; have hH2 := ND.out.z4.lt; have hI2 := ND.out.hs.bs.lt; have hJ2 := ND.out.r1.lt
                  refine hK.out _ _ (ND'.out.hs.bq.cell 0) (fun hH4 => ?_)
                  clear hb ND hown hgrow hfr
                  have ND := ND'
                  clear ND'
                  clear hK K
                  try simp only [List.setIfInBounds_toArray, List.set_cons_zero, List.set_cons_succ]
                  refine wpAnyH_ready (rs := [9]) (by kernel_rfl) (by simp) ?_
                  refine AllReadyH.cons rfl (fun K hK => ?_) AllReadyH.nil
                  have y0 := ND.out.z3.cell 0
                  have y1 := ND.out.z3.frozen 0
                  go_simp
                  have ND' := Lib.hid (ND.out.set3 0 (.slice (some ⟨g1, 0, none⟩) p.dies.length c1))
                  replace D1 := Lib.hid (D1.out.far (p := ⟨q13, 0, none⟩) (by simp only []; omega) (.slice (some ⟨g1, 0, none⟩) p.dies.length c1))
                  replace D2 := Lib.hid (D2.out.far (p := ⟨q13, 0, none⟩) (by simp only []; omega) (.slice (some ⟨g1, 0, none⟩) p.dies.length c1))
                  refine hK.out _ _ (ND'.out.hs.bq.cell 0) (fun hH5 => ?_)
                  clear ND y0 y1
                  have ND := ND'
                  clear ND'
                  generalize World.setCell V4 _ _ = V5 at *
                  clear hK K
                  try simp only [List.setIfInBounds_toArray, List.set_cons_zero, List.set_cons_succ]
                  refine wpAnyH_take (i := 10 ) (v := ?_) rfl (by kernel_rfl) (by kernel_rfl) (by kernel_rfl) (fun _ _ _ h => h) (Or.inl ⟨by rfl, ?_⟩) (by assumption) ?_; rotate_left; (· (intro w0 hSw; have p0 : w0.cell? ⟨w.heap.size, 0, none⟩ = some (.slice (some ⟨bA, oA, none⟩) p.dies.length c) := hSw; clear hSw; go_simp); first | done | with_reducible rfl); (try simp only [Act.put, List.getElem_toArray, List.getElem_cons_succ, List.getElem_cons_zero, List.setIfInBounds_toArray, List.set_cons_zero, List.set_cons_succ])
                  refine wpAnyH_ready (rs := [11]) (by kernel_rfl) (by simp) ?_
                  refine AllReadyH.cons rfl (fun K hK => ?_) AllReadyH.nil
                  have y0 := ND.out.z4.cell 0
                  have y1 := ND.out.z4.frozen 0
                  go_simp
                  have ND' := Lib.hid (ND.out.set4 0 (.slice (some ⟨g2, 0, none⟩) p.dies.length c2))
                  replace D1 := Lib.hid (D1.out.far (p := ⟨q14, 0, none⟩) (by simp only []; omega) (.slice (some ⟨g2, 0, none⟩) p.dies.length c2))
                  replace D2 := Lib.hid (D2.out.far (p := ⟨q14, 0, none⟩) (by simp only []; omega) (.slice (some ⟨g2, 0, none⟩) p.dies.length c2))
                  refine hK.out _ _ (ND'.out.hs.bq.cell 0) (fun hH6 => ?_)
                  clear ND y0 y1
                  have ND := ND'
                  clear ND'
                  generalize World.setCell V5 _ _ = V6 at *
                  clear hK K
                  try simp only [List.setIfInBounds_toArray, List.set_cons_zero, List.set_cons_succ]
                  refine wpAnyH_done (by kernel_rfl) ?_ _
                  go_wp2_with fail
                  go_meet
                  exact ⟨g1, c1, g2, c2, ND, D1, D2, by omega, by omega, by omega⟩
                exact AllReadyH.nil
              exact AllReadyH.nil
            exact AllReadyH.nil
          refine AllReadyH.cons rfl (fun K hK => ?_) ?_
          · go_simp
            have hb := (Below.refl V0.heap.size V0).alloc (Nat.le_refl _) (.cells #[] 49)
            have ND' := Lib.hid (ND.out.call hb)
            skip
            refine hK.out _ _ (ND'.out.hs.bq.cell 0) (fun hH1 => ?_)
            clear hb ND
            have ND := ND'
            clear ND'
            generalize World.alloc V0 _ = V1 at *
            clear hK K
            try simp only [List.setIfInBounds_toArray]
            refine wpAnyH_ready (rs := [0]) (by kernel_rfl) (by simp) ?_
            refine AllReadyH.cons rfl (fun K hK => ?_) ?_
            · go_simp
              have hb := (Below.refl V1.heap.size V1).alloc (Nat.le_refl _) (.cells #[] 49)
              have ND' := Lib.hid (ND.out.call hb)
              skip
              refine hK.out _ _ (ND'.out.hs.bq.cell 0) (fun hH2 => ?_)
              clear hb ND
              have ND := ND'
              clear ND'
              generalize World.alloc V1 _ = V2 at *
              clear hK K
              try simp only [List.setIfInBounds_toArray, List.set_cons_zero, List.set_cons_succ]
              refine wpAnyH_ready (rs := [3]) (by kernel_rfl) (by simp) ?_
              refine AllReadyH.cons rfl (fun K hK => ?_) ?_
              · refine step_append_grows (by rfl) _ _ _ (by rfl) 49 i0 _ 3 24 Inp.und_dies hi hz0 hz1 hz2 rfl (by decide) _ 0 0 [] (by rfl) (by simp) rfl (by simp) ⟨bA, oA, none⟩ p.dies.length c (dieVs p.dies) (by rfl) (dieVs_len _) (dieVs_cells (HDA.out _ ND.out.hs)) (dieVs_one _) (by omega) (by unfold maxLen; omega) (by omega) ?_
                rintro v' V3 hown hgrow
                rw [List.nil_append, Nat.zero_add] at hown
                obtain ⟨g1, c1, rfl, hg1, hfr⟩ := frD_own hown HLP.out
                skip
                have hb := Below.grown (B := V2.heap.size) (Below.refl _ _) hgrow (Nat.le_refl _) (by simp)
                have ND' := Lib.hid (ND.out.call hb)
                skip
                have D1 := Lib.hid hfr
                have hG1 := ND.out.z3.lt; have hH1 := ND.out.z4.lt; have hI1 := ND.out.hs.bs.lt; have hJ1 := ND.out.r1.lt
                refine hK.out _ _ (ND'.out.hs.bq.cell 0) (fun hH3 => ?_)
                clear hb ND hown hgrow hfr
                have ND := ND'
                clear ND'
                clear hK K
                try simp only [List.setIfInBounds_toArray, List.set_cons_zero, List.set_cons_succ]
                refine wpAnyH_take (i := 8 ) (v := ?_) rfl (by kernel_rfl) (by kernel_rfl) (by kernel_rfl) (fun _ _ _ h => h) (Or.inl ⟨by rfl, ?_⟩) (by assumption) ?_; rotate_left; (· (intro w0 hSw; have p0 : w0.cell? ⟨w.heap.size, 0, none⟩ = some (.slice (some ⟨bA, oA, none⟩) p.dies.length c) := hSw; clear hSw; go_simp); first | done | with_reducible rfl); (try simp only [Act.put, List.getElem_toArray, List.getElem_cons_succ, List.getElem_cons_zero, List.setIfInBounds_toArray, List.set_cons_zero, List.set_cons_succ])
                refine wpAnyH_ready (rs := [7]) (by kernel_rfl) (by simp) ?_
                refine AllReadyH.cons rfl (fun K hK => ?_) ?_
                · refine step_append_grows (by rfl) _ _ _ (by rfl) 49 i0 _ 3 24 Inp.und_dies hi hz0 hz1 hz2 rfl (by decide) _ 0 0 [] (by rfl) (by simp) rfl (by simp) ⟨bA, oA, none⟩ p.dies.length c (dieVs p.dies) (by rfl) (dieVs_len _) (dieVs_cells (HDA.out _ ND.out.hs)) (dieVs_one _) (by omega) (by unfold maxLen; omega) (by omega) ?_
                  rintro v' V4 hown hgrow
                  rw [List.nil_append, Nat.zero_add] at hown
                  obtain ⟨g2, c2, rfl, hg2, hfr⟩ := frD_own hown HLP.out
                  have hgg := D1.out.lt
                  have hb := Below.grown (B := V3.heap.size) (Below.refl _ _) hgrow (Nat.le_refl _) (by simp)
                  have ND' := Lib.hid (ND.out.call hb)
                  replace D1 := Lib.hid (D1.out.call hb)
                  have D2 := Lib.hid hfr
                  have hG2 := ND.out.z3.lt; have hH2 := ND.out.z4.lt; have hI2 := ND.out.hs.bs.lt; have hJ2 := ND.out.r1.lt
                  refine hK.out _ _ (ND'.out.hs.bq.cell 0) (fun hH4 => ?_)
                  clear hb ND hown hgrow hfr
                  have ND := ND'
                  clear ND'
                  clear hK K
                  try simp only [List.setIfInBounds_toArray, List.set_cons_zero, List.set_cons_succ]
                  refine wpAnyH_ready (rs := [9]) (by kernel_rfl) (by simp) ?_
                  refine AllReadyH.cons rfl (fun K hK => ?_) AllReadyH.nil
                  have y0 := ND.out.z3.cell 0
                  have y1 := ND.out.z3.frozen 0
                  go_simp
                  have ND' := Lib.hid (ND.out.set3 0 (.slice (some ⟨g1, 0, none⟩) p.dies.length c1))
                  replace D1 := Lib.hid (D1.out.far (p := ⟨q13, 0, none⟩) (by simp only []; omega) (.slice (some ⟨g1, 0, none⟩) p.dies.length c1))
                  replace D2 := Lib.hid (D2.out.far (p := ⟨q13, 0, none⟩) (by simp only []; omega) (.slice (some ⟨g1, 0, none⟩) p.dies.length c1))
                  refine hK.out _ _ (ND'.out.hs.bq.cell 0) (fun hH5 => ?_)
                  clear ND y0 y1
                  have ND := ND'
                  clear ND'
                  generalize World.setCell V4 _ _ = V5 at *
                  clear hK K
                  try simp only [List.setIfInBounds_toArray, List.set_cons_zero, List.set_cons_succ]
                  refine wpAnyH_take (i := 10 ) (v := ?_) rfl (by kernel_rfl) (by kernel_rfl) (by kernel_rfl) (fun _ _ _ h => h) (Or.inl ⟨by rfl, ?_⟩) (by assumption) ?_; rotate_left; (· (intro w0 hSw; have p0 : w0.cell? ⟨w.heap.size, 0, none⟩ = some (.slice (some ⟨bA, oA, none⟩) p.dies.length c) := hSw; clear hSw; go_simp); first | done | with_reducible rfl); (try simp only [Act.put, List.getElem_toArray, List.getElem_cons_succ, List.getElem_cons_zero, List.setIfInBounds_toArray, List.set_cons_zero, List.set_cons_succ])
                  refine wpAnyH_ready (rs := [11]) (by kernel_rfl) (by simp) ?_
                  refine AllReadyH.cons rfl (fun K hK => ?_) AllReadyH.nil
                  have y0 := ND.out.z4.cell 0
                  have y1 := ND.out.z4.frozen 0
                  go_simp
                  have ND' := Lib.hid (ND.out.set4 0 (.slice (some ⟨g2, 0, none⟩) p.dies.length c2))
                  replace D1 := Lib.hid (D1.out.far (p := ⟨q14, 0, none⟩) (by simp only []; omega) (.slice (some ⟨g2, 0, none⟩) p.dies.length c2))
                  replace D2 := Lib.hid (D2.out.far (p := ⟨q14, 0, none⟩) (by simp only []; omega) (.slice (some ⟨g2, 0, none⟩) p.dies.length c2))
                  refine hK.out _ _ (ND'.out.hs.bq.cell 0) (fun hH6 => ?_)
                  clear ND y0 y1
                  have ND := ND'
                  clear ND'
                  generalize World.setCell V5 _ _ = V6 at *
                  clear hK K
                  try simp only [List.setIfInBounds_toArray, List.set_cons_zero, List.set_cons_succ]
                  refine wpAnyH_done (by kernel_rfl) ?_ _
                  go_wp2_with fail
                  go_meet
                  exact ⟨g1, c1, g2, c2, ND, D1, D2, by omega, by omega, by omega⟩
                exact AllReadyH.nil
              exact AllReadyH.nil
            exact AllReadyH.nil
          exact AllReadyH.nil
        case rest => as_aux_lemma =>
          obtain ⟨g1, c1, g2, c2, ND, D1, D2, hg1, hg2, hg12⟩ := hcut
          obtain ⟨a0, a1, a2⟩ := HDA.out _ ND.out.hs k hk
          simp only [dieF] at a0 a1 a2
          have x0 := ND.out.hs.bq.cell 0
          have n0 := ND.out.hs.bn.cell 0
          go_wp2_with fail
          have HBD := Lib.hid (show Nd w p (some ⟨bA, oA, none⟩) c k want q1 tl th q13 q14 #[.slice (some ⟨g1, 0, none⟩) p.dies.length c1, .int .i64 p.shrink.lo, .int .i64 p.shrink.hi, .int .i64 p.change] #[.slice (some ⟨g2, 0, none⟩) p.dies.length c2, .int .i64 p.shrink.lo, .int .i64 p.shrink.hi, .int .i64 p.change] wc from ND.out)
          have hdrew : Below wc.heap.size wc (World.drew (wc.alloc (.cells #[.int .i64 p.dies[k].wide, .int .i64 p.dies[k].wear.lo, .int .i64 p.dies[k].wear.hi] 49))) := ((Below.refl _ _).alloc (Nat.le_refl _) _).drew
          have NE : Hid (Ne w p (some ⟨bA, oA, none⟩) c k want q1 tl th q13 q14 #[.slice (some ⟨g1, 0, none⟩) p.dies.length c1, .int .i64 p.shrink.lo, .int .i64 p.shrink.hi, .int .i64 p.change] #[.slice (some ⟨g2, 0, none⟩) p.dies.length c2, .int .i64 p.shrink.lo, .int .i64 p.shrink.hi, .int .i64 p.change] g1 g2 wc.heap.size p.dies p.dies p.dies[k] (World.drew (wc.alloc (.cells #[.int .i64 p.dies[k].wide, .int .i64 p.dies[k].wear.lo, .int .i64 p.dies[k].wear.hi] 49)))) := Lib.hid ⟨ND.out.call hdrew, D1.out.call hdrew, D2.out.call hdrew, (Blk.new _ _ _).drew, hg1.1, hg1.2, hg2.1, hg2.2, hg12, D1.out.lt, D2.out.lt⟩
          clear ND D1 D2 HBD hdrew a0 a1 a2 x0 n0
          refine wp_region_held_drew (S := Se11 w k q13 q14 wc.heap.size p.dies.length g1 c1 g2 c2 p.dies[k]) (by kernel_rfl) NE.out.s11 (fun hH0 => ?_)
          generalize World.drew _ = V0 at *
          generalize wc.heap.size = q15 at *
          simp only [List.size_toArray, List.length_cons, List.length_nil, Nat.reduceAdd, Array.replicate_succ, Array.replicate_zero, List.push_toArray, List.nil_append, List.cons_append]
          refine wpAnyH_take (i := 0 ) (v := ?_) rfl (by kernel_rfl) (by kernel_rfl) (by kernel_rfl) (fun _ _ _ h => h) (Or.inl ⟨by rfl, ?_⟩) (by assumption) ?_; rotate_left; (· (intro w0 hSw; obtain ⟨s0, s1, s2, s3, s4⟩ := hSw; go_simp); first | done | with_reducible rfl); (try simp only [Act.put, List.getElem_toArray, List.getElem_cons_zero, List.setIfInBounds_toArray, List.set_cons_zero, List.set_cons_succ])
          refine wpAnyH_take (i := 1 ) (v := ?_) rfl (by kernel_rfl) (by kernel_rfl) (by kernel_rfl) (fun _ _ _ h => h) (Or.inl ⟨by rfl, ?_⟩) (by assumption) ?_; rotate_left; (· (intro w0 hSw; obtain ⟨s0, s1, s2, s3, s4⟩ := hSw; go_simp); first | done | with_reducible rfl); (try simp only [Act.put, List.getElem_toArray, List.getElem_cons_succ, List.getElem_cons_zero, List.setIfInBounds_toArray, List.set_cons_zero, List.set_cons_succ])
          refine wpAnyH_take (i := 2 ) (v := ?_) rfl (by kernel_rfl) (by kernel_rfl) (by kernel_rfl) (fun _ _ _ h => h) (Or.inl ⟨by rfl, ?_⟩) (by assumption) ?_; rotate_left; (· (intro w0 hSw; obtain ⟨s0, s1, s2, s3, s4⟩ := hSw; go_simp); first | done | with_reducible rfl); (try simp only [Act.put, List.getElem_toArray, List.getElem_cons_succ, List.getElem_cons_zero, List.setIfInBounds_toArray, List.set_cons_zero, List.set_cons_succ])
          refine wpAnyH_take (i := 3 ) (v := ?_) rfl (by kernel_rfl) (by kernel_rfl) (by kernel_rfl) (fun _ _ _ h => h) (Or.inl ⟨by rfl, ?_⟩) (by assumption) ?_; rotate_left; (· (intro w0 hSw; obtain ⟨s0, s1, s2, s3, s4⟩ := hSw; go_simp); first | done | with_reducible rfl); (try simp only [Act.put, List.getElem_toArray, List.getElem_cons_succ, List.getElem_cons_zero, List.setIfInBounds_toArray, List.set_cons_zero, List.set_cons_succ])
          refine wpAnyH_take (i := 4 ) (v := ?_) rfl (by kernel_rfl) (by kernel_rfl) (by kernel_rfl) (fun _ _ _ h => h) (Or.inl ⟨by rfl, ?_⟩) (by assumption) ?_; rotate_left; (· (intro w0 hSw; obtain ⟨s0, s1, s2, s3, s4⟩ := hSw; go_simp); first | done | with_reducible rfl); (try simp only [Act.put, List.getElem_toArray, List.getElem_cons_succ, List.getElem_cons_zero, List.setIfInBounds_toArray, List.set_cons_zero, List.set_cons_succ])
          refine wpAnyH_take (i := 5 ) (v := ?_) rfl (by kernel_rfl) (by kernel_rfl) (by kernel_rfl) (fun _ _ _ h => h) (Or.inl ⟨by rfl, ?_⟩) (by assumption) ?_; rotate_left; (· (intro w0 hSw; obtain ⟨s0, s1, s2, s3, s4⟩ := hSw; go_simp); first | done | with_reducible rfl); (try simp only [Act.put, List.getElem_toArray, List.getElem_cons_succ, List.getElem_cons_zero, List.setIfInBounds_toArray, List.set_cons_zero, List.set_cons_succ])
          refine wpAnyH_take (i := 6 ) (v := ?_) rfl (by kernel_rfl) (by kernel_rfl) (by kernel_rfl) (fun _ _ _ h => h) (Or.inl ⟨by rfl, ?_⟩) (by assumption) ?_; rotate_left; (· (intro w0 hSw; obtain ⟨s0, s1, s2, s3, s4⟩ := hSw; go_simp); first | done | with_reducible rfl); (try simp only [Act.put, List.getElem_toArray, List.getElem_cons_succ, List.getElem_cons_zero, List.setIfInBounds_toArray, List.set_cons_zero, List.set_cons_succ])
          refine wpAnyH_take (i := 7 ) (v := ?_) rfl (by kernel_rfl) (by kernel_rfl) (by kernel_rfl) (fun _ _ _ h => h) (Or.inl ⟨by rfl, ?_⟩) (by assumption) ?_; rotate_left; (· (intro w0 hSw; obtain ⟨s0, s1, s2, s3, s4⟩ := hSw; go_simp); first | done | with_reducible rfl); (try simp only [Act.put, List.getElem_toArray, List.getElem_cons_succ, List.getElem_cons_zero, List.setIfInBounds_toArray, List.set_cons_zero, List.set_cons_succ])
          refine wpAnyH_take (i := 8 ) (v := ?_) rfl (by kernel_rfl) (by kernel_rfl) (by kernel_rfl) (fun _ _ _ h => h) (Or.inl ⟨by rfl, ?_⟩) (by assumption) ?_; rotate_left; (· (intro w0 hSw; obtain ⟨s0, s1, s2, s3, s4⟩ := hSw; go_simp); first | done | with_reducible rfl); (try simp only [Act.put, List.getElem_toArray, List.getElem_cons_succ, List.getElem_cons_zero, List.setIfInBounds_toArray, List.set_cons_zero, List.set_cons_succ])
          refine wpAnyH_take (i := 9 ) (v := ?_) rfl (by kernel_rfl) (by kernel_rfl) (by kernel_rfl) (fun _ _ _ h => h) (Or.inl ⟨by rfl, ?_⟩) (by assumption) ?_; rotate_left; (· (intro w0 hSw; obtain ⟨s0, s1, s2, s3, s4⟩ := hSw; go_simp); first | done | with_reducible rfl); (try simp only [Act.put, List.getElem_toArray, List.getElem_cons_succ, List.getElem_cons_zero, List.setIfInBounds_toArray, List.set_cons_zero, List.set_cons_succ])
          refine wpAnyH_take (i := 10 ) (v := ?_) rfl (by kernel_rfl) (by kernel_rfl) (by kernel_rfl) (fun _ _ _ h => h) (Or.inl ⟨by rfl, ?_⟩) (by assumption) ?_; rotate_left; (· (intro w0 hSw; obtain ⟨s0, s1, s2, s3, s4⟩ := hSw; go_simp); first | done | with_reducible rfl); (try simp only [Act.put, List.getElem_toArray, List.getElem_cons_succ, List.getElem_cons_zero, List.setIfInBounds_toArray, List.set_cons_zero, List.set_cons_succ])
          refine wpAnyH_take (i := 11 ) (v := ?_) rfl (by kernel_rfl) (by kernel_rfl) (by kernel_rfl) (fun _ _ _ h => h) (Or.inl ⟨by rfl, ?_⟩) (by assumption) ?_; rotate_left; (· (intro w0 hSw; obtain ⟨s0, s1, s2, s3, s4⟩ := hSw; go_simp); first | done | with_reducible rfl); (try simp only [Act.put, List.getElem_toArray, List.getElem_cons_succ, List.getElem_cons_zero, List.setIfInBounds_toArray, List.set_cons_zero, List.set_cons_succ])
          refine wpAnyH_take (i := 13 ) (v := ?_) rfl (by kernel_rfl) (by kernel_rfl) (by kernel_rfl) (fun _ _ _ h => h) (Or.inl ⟨by rfl, ?_⟩) (by assumption) ?_; rotate_left; (· (intro w0 hSw; obtain ⟨s0, s1, s2, s3, s4⟩ := hSw; go_simp); first | done | with_reducible rfl); (try simp only [Act.put, List.getElem_toArray, List.getElem_cons_succ, List.getElem_cons_zero, List.setIfInBounds_toArray, List.set_cons_zero, List.set_cons_succ])
          refine wpAnyH_take (i := 14 ) (v := ?_) rfl (by kernel_rfl) (by kernel_rfl) (by kernel_rfl) (fun _ _ _ h => h) (Or.inl ⟨by rfl, ?_⟩) (by assumption) ?_; rotate_left; (· (intro w0 hSw; obtain ⟨s0, s1, s2, s3, s4⟩ := hSw; go_simp); first | done | with_reducible rfl); (try simp only [Act.put, List.getElem_toArray, List.getElem_cons_succ, List.getElem_cons_zero, List.setIfInBounds_toArray, List.set_cons_zero, List.set_cons_succ])
          refine wpAnyH_take (i := 15 ) (v := ?_) rfl (by kernel_rfl) (by kernel_rfl) (by kernel_rfl) (fun _ _ _ h => h) (Or.inl ⟨by rfl, ?_⟩) (by assumption) ?_; rotate_left; (· (intro w0 hSw; obtain ⟨s0, s1, s2, s3, s4⟩ := hSw; go_simp); first | done | with_reducible rfl); (try simp only [Act.put, List.getElem_toArray, List.getElem_cons_succ, List.getElem_cons_zero, List.setIfInBounds_toArray, List.set_cons_zero, List.set_cons_succ])
          refine wpAnyH_take (i := 16 ) (v := ?_) rfl (by kernel_rfl) (by kernel_rfl) (by kernel_rfl) (fun _ _ _ h => h) (Or.inl ⟨by rfl, ?_⟩) (by assumption) ?_; rotate_left; (· (intro w0 hSw; obtain ⟨s0, s1, s2, s3, s4⟩ := hSw; go_simp); first | done | with_reducible rfl); (try simp only [Act.put, List.getElem_toArray, List.getElem_cons_succ, List.getElem_cons_zero, List.setIfInBounds_toArray, List.set_cons_zero, List.set_cons_succ])
          refine wpAnyH_take (i := 17 ) (v := ?_) rfl (by kernel_rfl) (by kernel_rfl) (by kernel_rfl) (fun _ _ _ h => h) (Or.inl ⟨by rfl, ?_⟩) (by assumption) ?_; rotate_left; (· (intro w0 hSw; obtain ⟨s0, s1, s2, s3, s4⟩ := hSw; go_simp); first | done | with_reducible rfl); (try simp only [Act.put, List.getElem_toArray, List.getElem_cons_succ, List.getElem_cons_zero, List.setIfInBounds_toArray, List.set_cons_zero, List.set_cons_succ])
          refine wpAnyH_take (i := 18 ) (v := ?_) rfl (by kernel_rfl) (by kernel_rfl) (by kernel_rfl) (fun _ _ _ h => h) (Or.inl ⟨by rfl, ?_⟩) (by assumption) ?_; rotate_left; (· (intro w0 hSw; obtain ⟨s0, s1, s2, s3, s4⟩ := hSw; go_simp); first | done | with_reducible rfl); (try simp only [Act.put, List.getElem_toArray, List.getElem_cons_succ, List.getElem_cons_zero, List.setIfInBounds_toArray, List.set_cons_zero, List.set_cons_succ])
          refine wpAnyH_ready (rs := [12]) (by kernel_rfl) (by simp) ?_
          refine AllReadyH.cons rfl (fun K hK => ?_) AllReadyH.nil
          go_simp
          refine (span_any p.dies[k].wear.lo p.dies[k].wear.lo _).mono ?_
          rintro e V1 ⟨rfl, hb⟩
          have NE' := Lib.hid (NE.out.call hb)
          refine hK.out _ _ NE'.out.s11 (fun hH1 => ?_)
          clear hb NE
          have NE := NE'
          clear NE'
          clear hK K
          try simp only [List.setIfInBounds_toArray, List.set_cons_zero, List.set_cons_succ]
          refine wpAnyH_ready (rs := [19]) (by kernel_rfl) (by simp) ?_
          refine AllReadyH.cons rfl (fun K hK => ?_) AllReadyH.nil
          go_simp
          refine (span_any p.dies[k].wear.hi p.dies[k].wear.hi _).mono ?_
          rintro e V2 ⟨rfl, hb⟩
          have NE' := Lib.hid (NE.out.call hb)
          refine hK.out _ _ NE'.out.s11 (fun hH2 => ?_)
          clear hb NE
          have NE := NE'
          clear NE'
          clear hK K
          try simp only [List.setIfInBounds_toArray, List.set_cons_zero, List.set_cons_succ]
          refine wpAnyH_take (i := 20 ) (v := ?_) rfl (by kernel_rfl) (by kernel_rfl) (by kernel_rfl) (fun _ _ _ h => h) (Or.inl ⟨by rfl, ?_⟩) (by assumption) ?_; rotate_left; (· (intro w0 hSw; obtain ⟨s0, s1, s2, s3, s4⟩ := hSw; go_simp); first | done | with_reducible rfl); (try simp only [Act.put, List.getElem_toArray, List.getElem_cons_succ, List.getElem_cons_zero, List.setIfInBounds_toArray, List.set_cons_zero, List.set_cons_succ])
          refine wpAnyH_take (i := 21 ) (v := ?_) rfl (by kernel_rfl) (by kernel_rfl) (by kernel_rfl) (fun _ _ _ h => h) (Or.inl ⟨by rfl, ?_⟩) (by assumption) ?_; rotate_left; (· (intro w0 hSw; obtain ⟨s0, s1, s2, s3, s4⟩ := hSw; go_simp); first | done | with_reducible rfl); (try simp only [Act.put, List.getElem_toArray, List.getElem_cons_succ, List.getElem_cons_zero, List.setIfInBounds_toArray, List.set_cons_zero, List.set_cons_succ])
          refine wpAnyH_ready (rs := [22]) (by kernel_rfl) (by simp) ?_
          refine AllReadyH.cons rfl (fun K hK => ?_) AllReadyH.nil
          obtain ⟨y0, y1, y2, y3⟩ := NE.out.d1.two hk
          go_simp
          have NE' := Lib.hid (NE.out.put1 hk p.dies[k].wear.lo p.dies[k].wear.lo)
          refine hK.out _ _ NE'.out.s11 (fun hH3 => ?_)
          clear NE y0 y1 y2 y3
          have NE := NE'
          clear NE'
          generalize World.setCell (World.setCell V2 _ _) _ _ = V3 at *
          clear hK K
          try simp only [List.setIfInBounds_toArray, List.set_cons_zero, List.set_cons_succ]
          refine wpAnyH_take (i := 23 ) (v := ?_) rfl (by kernel_rfl) (by kernel_rfl) (by kernel_rfl) (fun _ _ _ h => h) (Or.inl ⟨by rfl, ?_⟩) (by assumption) ?_; rotate_left; (· (intro w0 hSw; obtain ⟨s0, s1, s2, s3, s4⟩ := hSw; go_simp); first | done | with_reducible rfl); (try simp only [Act.put, List.getElem_toArray, List.getElem_cons_succ, List.getElem_cons_zero, List.setIfInBounds_toArray, List.set_cons_zero, List.set_cons_succ])
          refine wpAnyH_take (i := 24 ) (v := ?_) rfl (by kernel_rfl) (by kernel_rfl) (by kernel_rfl) (fun _ _ _ h => h) (Or.inl ⟨by rfl, ?_⟩) (by assumption) ?_; rotate_left; (· (intro w0 hSw; obtain ⟨s0, s1, s2, s3, s4⟩ := hSw; go_simp); first | done | with_reducible rfl); (try simp only [Act.put, List.getElem_toArray, List.getElem_cons_succ, List.getElem_cons_zero, List.setIfInBounds_toArray, List.set_cons_zero, List.set_cons_succ])
          refine wpAnyH_ready (rs := [25]) (by kernel_rfl) (by simp) ?_
          refine AllReadyH.cons rfl (fun K hK => ?_) AllReadyH.nil
          obtain ⟨y0, y1, y2, y3⟩ := NE.out.d2.two hk
          go_simp
          have NE' := Lib.hid (NE.out.put2 hk p.dies[k].wear.hi p.dies[k].wear.hi)
          refine hK.out _ _ NE'.out.s11 (fun hH4 => ?_)
          clear NE y0 y1 y2 y3
          have NE := NE'
          clear NE'
          generalize World.setCell (World.setCell V3 _ _) _ _ = V4 at *
          clear hK K
          try simp only [List.setIfInBounds_toArray, List.set_cons_zero, List.set_cons_succ]
          refine wpAnyH_done (by kernel_rfl) ?_ _
          go_wp2_with fail
          replace NE := Lib.hid (NE.out.call (Below.refl _ _).drew)
          refine wp_region_held_drew (S := Se12 w p) (by kernel_rfl) NE.out.s12 (fun hI0 => ?_)
          generalize World.drew _ = V0 at *
          simp only [List.size_toArray, List.length_cons, List.length_nil, Nat.reduceAdd, Array.replicate_succ, Array.replicate_zero, List.push_toArray, List.nil_append, List.cons_append]
          refine wpAnyH_take (i := 0 ) (v := ?_) rfl (by kernel_rfl) (by kernel_rfl) (by kernel_rfl) (fun _ _ _ h => h) (Or.inl ⟨by rfl, ?_⟩) (by assumption) ?_; rotate_left; (· (intro w0 hSw; obtain ⟨s0, s1⟩ := hSw; go_simp); first | done | with_reducible rfl); (try simp only [Act.put, List.getElem_toArray, List.getElem_cons_zero, List.setIfInBounds_toArray, List.set_cons_zero, List.set_cons_succ])
          refine wpAnyH_take (i := 1 ) (v := ?_) rfl (by kernel_rfl) (by kernel_rfl) (by kernel_rfl) (fun _ _ _ h => h) (Or.inl ⟨by rfl, ?_⟩) (by assumption) ?_; rotate_left; (· (intro w0 hSw; obtain ⟨s0, s1⟩ := hSw; go_simp); first | done | with_reducible rfl); (try simp only [Act.put, List.getElem_toArray, List.getElem_cons_succ, List.getElem_cons_zero, List.setIfInBounds_toArray, List.set_cons_zero, List.set_cons_succ])
          refine wpAnyH_take (i := 2 ) (v := ?_) rfl (by kernel_rfl) (by kernel_rfl) (by kernel_rfl) (fun _ _ _ h => h) (Or.inl ⟨by rfl, ?_⟩) (by assumption) ?_; rotate_left; (· (intro w0 hSw; obtain ⟨s0, s1⟩ := hSw; go_simp); first | done | with_reducible rfl); (try simp only [Act.put, List.getElem_toArray, List.getElem_cons_succ, List.getElem_cons_zero, List.setIfInBounds_toArray, List.set_cons_zero, List.set_cons_succ])
          refine wpAnyH_take (i := 3 ) (v := ?_) rfl (by kernel_rfl) (by kernel_rfl) (by kernel_rfl) (fun _ _ _ h => h) (Or.inl ⟨by rfl, ?_⟩) (by assumption) ?_; rotate_left; (· (intro w0 hSw; obtain ⟨s0, s1⟩ := hSw; go_simp); first | done | with_reducible rfl); (try simp only [Act.put, List.getElem_toArray, List.getElem_cons_succ, List.getElem_cons_zero, List.setIfInBounds_toArray, List.set_cons_zero, List.set_cons_succ])
          refine wpAnyH_take (i := 4 ) (v := ?_) rfl (by kernel_rfl) (by kernel_rfl) (by kernel_rfl) (fun _ _ _ h => h) (Or.inl ⟨by rfl, ?_⟩) (by assumption) ?_; rotate_left; (· (intro w0 hSw; obtain ⟨s0, s1⟩ := hSw; go_simp); first | done | with_reducible rfl); (try simp only [Act.put, List.getElem_toArray, List.getElem_cons_succ, List.getElem_cons_zero, List.setIfInBounds_toArray, List.set_cons_zero, List.set_cons_succ])
          refine wpAnyH_take (i := 5 ) (v := ?_) rfl (by kernel_rfl) (by kernel_rfl) (by kernel_rfl) (fun _ _ _ h => h) (Or.inl ⟨by rfl, ?_⟩) (by assumption) ?_; rotate_left; (· (intro w0 hSw; obtain ⟨s0, s1⟩ := hSw; go_simp); first | done | with_reducible rfl); (try simp only [Act.put, List.getElem_toArray, List.getElem_cons_succ, List.getElem_cons_zero, List.setIfInBounds_toArray, List.set_cons_zero, List.set_cons_succ])
          refine wpAnyH_take (i := 7 ) (v := ?_) rfl (by kernel_rfl) (by kernel_rfl) (by kernel_rfl) (fun _ _ _ h => h) (Or.inl ⟨by rfl, ?_⟩) (by assumption) ?_; rotate_left; (· (intro w0 hSw; obtain ⟨s0, s1⟩ := hSw; go_simp); first | done | with_reducible rfl); (try simp only [Act.put, List.getElem_toArray, List.getElem_cons_succ, List.getElem_cons_zero, List.setIfInBounds_toArray, List.set_cons_zero, List.set_cons_succ])
          refine wpAnyH_take (i := 8 ) (v := ?_) rfl (by kernel_rfl) (by kernel_rfl) (by kernel_rfl) (fun _ _ _ h => h) (Or.inl ⟨by rfl, ?_⟩) (by assumption) ?_; rotate_left; (· (intro w0 hSw; obtain ⟨s0, s1⟩ := hSw; go_simp); first | done | with_reducible rfl); (try simp only [Act.put, List.getElem_toArray, List.getElem_cons_succ, List.getElem_cons_zero, List.setIfInBounds_toArray, List.set_cons_zero, List.set_cons_succ])
          refine wpAnyH_take (i := 9 ) (v := ?_) rfl (by kernel_rfl) (by kernel_rfl) (by kernel_rfl) (fun _ _ _ h => h) (Or.inl ⟨by rfl, ?_⟩) (by assumption) ?_; rotate_left; (· (intro w0 hSw; obtain ⟨s0, s1⟩ := hSw; go_simp); first | done | with_reducible rfl); (try simp only [Act.put, List.getElem_toArray, List.getElem_cons_succ, List.getElem_cons_zero, List.setIfInBounds_toArray, List.set_cons_zero, List.set_cons_succ])
          refine wpAnyH_take (i := 10 ) (v := ?_) rfl (by kernel_rfl) (by kernel_rfl) (by kernel_rfl) (fun _ _ _ h => h) (Or.inl ⟨by rfl, ?_⟩) (by assumption) ?_; rotate_left; (· (intro w0 hSw; obtain ⟨s0, s1⟩ := hSw; go_simp); first | done | with_reducible rfl); (try simp only [Act.put, List.getElem_toArray, List.getElem_cons_succ, List.getElem_cons_zero, List.setIfInBounds_toArray, List.set_cons_zero, List.set_cons_succ])
          refine wpAnyH_take (i := 11 ) (v := ?_) rfl (by kernel_rfl) (by kernel_rfl) (by kernel_rfl) (fun _ _ _ h => h) (Or.inl ⟨by rfl, ?_⟩) (by assumption) ?_; rotate_left; (· (intro w0 hSw; obtain ⟨s0, s1⟩ := hSw; go_simp); first | done | with_reducible rfl); (try simp only [Act.put, List.getElem_toArray, List.getElem_cons_succ, List.getElem_cons_zero, List.setIfInBounds_toArray, List.set_cons_zero, List.set_cons_succ])
          refine wpAnyH_take (i := 12 ) (v := ?_) rfl (by kernel_rfl) (by kernel_rfl) (by kernel_rfl) (fun _ _ _ h => h) (Or.inl ⟨by rfl, ?_⟩) (by assumption) ?_; rotate_left; (· (intro w0 hSw; obtain ⟨s0, s1⟩ := hSw; go_simp); first | done | with_reducible rfl); (try simp only [Act.put, List.getElem_toArray, List.getElem_cons_succ, List.getElem_cons_zero, List.setIfInBounds_toArray, List.set_cons_zero, List.set_cons_succ])
          refine wpAnyH_ready (rs := [6]) (by kernel_rfl) (by simp) ?_
          refine AllReadyH.cons rfl (fun K hK => ?_) AllReadyH.nil
          go_simp
          refine (span_any p.shrink.hi p.shrink.hi _).mono ?_
          rintro e V1 ⟨rfl, hb⟩
          have NE' := Lib.hid (NE.out.call hb)
          refine hK.out _ _ NE'.out.s12 (fun hH1 => ?_)
          clear hb NE
          have NE := NE'
          clear NE'
          clear hK K
          try simp only [List.setIfInBounds_toArray, List.set_cons_zero, List.set_cons_succ]
          refine wpAnyH_take (i := 14 ) (v := ?_) rfl (by kernel_rfl) (by kernel_rfl) (by kernel_rfl) (fun _ _ _ h => h) (Or.inl ⟨by rfl, ?_⟩) (by assumption) ?_; rotate_left; (· (intro w0 hSw; obtain ⟨s0, s1⟩ := hSw; go_simp); first | done | with_reducible rfl); (try simp only [Act.put, List.getElem_toArray, List.getElem_cons_succ, List.getElem_cons_zero, List.setIfInBounds_toArray, List.set_cons_zero, List.set_cons_succ])
          refine wpAnyH_ready (rs := [13]) (by kernel_rfl) (by simp) ?_
          refine AllReadyH.cons rfl (fun K hK => ?_) AllReadyH.nil
          go_simp
          refine (span_any p.shrink.lo p.shrink.lo _).mono ?_
          rintro e V2 ⟨rfl, hb⟩
          have NE' := Lib.hid (NE.out.call hb)
          refine hK.out _ _ NE'.out.s12 (fun hH2 => ?_)
          clear hb NE
          have NE := NE'
          clear NE'
          clear hK K
          try simp only [List.setIfInBounds_toArray, List.set_cons_zero, List.set_cons_succ]
          refine wpAnyH_ready (rs := [15]) (by kernel_rfl) (by simp) ?_
          refine AllReadyH.cons rfl (fun K hK => ?_) AllReadyH.nil
          have y0 := NE.out.nd.z3.cell 1
          have y1 := NE.out.nd.z3.frozen 1
          have y2 := NE.out.nd.z3.cell 2
          have y3 := NE.out.nd.z3.frozen 2
          go_simp
          have NE' := Lib.hid (NE.out.shr3 p.shrink.hi p.shrink.hi)
          refine hK.out _ _ NE'.out.s12 (fun hH3 => ?_)
          clear NE y0 y1 y2 y3
          have NE := NE'
          clear NE'
          generalize World.setCell (World.setCell V2 _ _) _ _ = V3 at *
          clear hK K
          try simp only [List.setIfInBounds_toArray, List.set_cons_zero, List.set_cons_succ]
          refine wpAnyH_take (i := 16 ) (v := ?_) rfl (by kernel_rfl) (by kernel_rfl) (by kernel_rfl) (fun _ _ _ h => h) (Or.inl ⟨by rfl, ?_⟩) (by assumption) ?_; rotate_left; (· (intro w0 hSw; obtain ⟨s0, s1⟩ := hSw; go_simp); first | done | with_reducible rfl); (try simp only [Act.put, List.getElem_toArray, List.getElem_cons_succ, List.getElem_cons_zero, List.setIfInBounds_toArray, List.set_cons_zero, List.set_cons_succ])
          refine wpAnyH_ready (rs := [17]) (by kernel_rfl) (by simp) ?_
          refine AllReadyH.cons rfl (fun K hK => ?_) AllReadyH.nil
          have y0 := NE.out.nd.z4.cell 1
          have y1 := NE.out.nd.z4.frozen 1
          have y2 := NE.out.nd.z4.cell 2
          have y3 := NE.out.nd.z4.frozen 2
          go_simp
          have NE' := Lib.hid (NE.out.shr4 p.shrink.lo p.shrink.lo)
          refine hK.out _ _ NE'.out.s12 (fun hH4 => ?_)
          clear NE y0 y1 y2 y3
          have NE := NE'
          clear NE'
          generalize World.setCell (World.setCell V3 _ _) _ _ = V4 at *
          clear hK K
          try simp only [List.setIfInBounds_toArray, List.set_cons_zero, List.set_cons_succ]
          refine wpAnyH_done (by kernel_rfl) ?_ _
          have HDL : Hid (∀ V, Ne w p (some ⟨bA, oA, none⟩) c k want q1 tl th q13 q14 #[.slice (some ⟨g1, 0, none⟩) p.dies.length c1, .int .i64 p.shrink.hi, .int .i64 p.shrink.hi, .int .i64 p.change] #[.slice (some ⟨g2, 0, none⟩) p.dies.length c2, .int .i64 p.shrink.lo, .int .i64 p.shrink.lo, .int .i64 p.change] g1 g2 q15 (p.dies.set k ⟨p.dies[k].wide, ⟨p.dies[k].wear.lo, p.dies[k].wear.lo⟩⟩) (p.dies.set k ⟨p.dies[k].wide, ⟨p.dies[k].wear.hi, p.dies[k].wear.hi⟩⟩) p.dies[k] V →
              Calls Try.prog 12 #[.agg #[.slice (some ⟨g1, 0, none⟩) p.dies.length c1, .int .i64 p.shrink.hi, .int .i64 p.shrink.hi, .int .i64 p.change], .int .i64 (k : Int), .int .i64 used] V (Ret (.tuple #[.agg #[.int .i64 (thin p.dies[k] p.shrink used / 1000), .int .i64 (cdiv (thin p.dies[k] p.shrink used) 1000)], .int .i64 0]) V) ∧
              Calls Try.prog 12 #[.agg #[.slice (some ⟨g2, 0, none⟩) p.dies.length c2, .int .i64 p.shrink.lo, .int .i64 p.shrink.lo, .int .i64 p.change], .int .i64 (k : Int), .int .i64 used] V (Ret (.tuple #[.agg #[.int .i64 (thick p.dies[k] p.shrink used / 1000), .int .i64 (cdiv (thick p.dies[k] p.shrink used) 1000)], .int .i64 0]) V)) := Lib.hid fun V h => by
            obtain ⟨⟨-, -, d3, d4, d5⟩, s1, s2, s3⟩ := HDK.out
            exact ⟨low_any V g1 c1 p k used _ _ HPK.out hk d3 (by omega) (by omega) s3 HUB.out.1 HUB.out.2 h.d1.sl, low_any V g2 c2 p k used _ _ HPK.out hk (by omega) d5 s1 (by omega) HUB.out.1 HUB.out.2 h.d2.sl⟩
          replace NE : Hid (Ne w p (some ⟨bA, oA, none⟩) c k want q1 tl th q13 q14 #[.slice (some ⟨g1, 0, none⟩) p.dies.length c1, .int .i64 p.shrink.hi, .int .i64 p.shrink.hi, .int .i64 p.change] #[.slice (some ⟨g2, 0, none⟩) p.dies.length c2, .int .i64 p.shrink.lo, .int .i64 p.shrink.lo, .int .i64 p.change] g1 g2 q15 (p.dies.set k ⟨p.dies[k].wide, ⟨p.dies[k].wear.lo, p.dies[k].wear.lo⟩⟩) (p.dies.set k ⟨p.dies[k].wide, ⟨p.dies[k].wear.hi, p.dies[k].wear.hi⟩⟩) p.dies[k] V4) := NE
          have HWF : Hid (∀ V u, LeS w p (some ⟨bA, oA, none⟩) c k want V → 0 ≤ u → u ≤ 8000 → Calls Try.prog 12 #[.agg #[.slice (some ⟨bA, oA, none⟩) p.dies.length c, .int .i64 p.shrink.lo, .int .i64 p.shrink.hi, .int .i64 p.change], .int .i64 (k : Int), .int .i64 u] V (Ret (.tuple #[.agg #[.int .i64 (thin p.dies[k] p.shrink u / 1000), .int .i64 (cdiv (thick p.dies[k] p.shrink u) 1000)], .int .i64 0]) V)) := Lib.hid fun V u h u0 u1 => by
            have h9 := wide_any V (some ⟨bA, oA, none⟩) c p k u HLE.out h.da
            rw [wideE_k HPK.out hk u0 u1, wideS_k HPK.out hk u0 u1] at h9
            exact h9
          have HLA : Hid (∀ V, LeS w p (some ⟨bA, oA, none⟩) c k want V → Calls Try.prog 14 #[.agg #[.slice (some ⟨bA, oA, none⟩) p.dies.length c, .int .i64 p.shrink.lo, .int .i64 p.shrink.hi, .int .i64 p.change], .int .i64 (k : Int), .agg #[.int .i64 want.lo, .int .i64 want.hi]] V (Ret (.tuple #[.int .i64 (lastR p k want).a, .int .i64 (lastR p k want).b, .int .i64 (lastR p k want).e]) V)) := Lib.hid fun V h => last_any V (some ⟨bA, oA, none⟩) c p k want HLE.out h.da
          have HGD : Hid (∀ V u, LeS w p (some ⟨bA, oA, none⟩) c k want V → 0 ≤ want.lo ∧ want.lo ≤ 20000 ∧ 0 ≤ want.hi ∧ want.hi ≤ 20000 → 0 ≤ u → u ≤ 8000 → Calls Try.prog 26 #[.int .i64 u, .pointer (some ⟨w.heap.size, 0, none⟩), .pointer (some ⟨w.heap.size + 1, 0, none⟩), .pointer (some ⟨w.heap.size + 1 + 1, 0, none⟩)] V (Ret (.bool (goodB p.dies[k] p.shrink want u)) V)) := Lib.hid fun V u h hw u0 u1 => goodc_any V (some ⟨bA, oA, none⟩) c _ _ _ p k u want hk h.bq h.bn h.bs h.da HDK.out.1 HDK.out.2 hw.1 hw.2.1 hw.2.2.1 hw.2.2.2 u0 u1
          have HEN := Lib.hid (ends_last want HPK.out hk)
          have HMO : Hid (∀ u v, u ≤ v → thin p.dies[k] p.shrink u / 1000 ≤ thin p.dies[k] p.shrink v / 1000 ∧ cdiv (thick p.dies[k] p.shrink u) 1000 ≤ cdiv (thick p.dies[k] p.shrink v) 1000) := Lib.hid fun u v h => ends_mono HDK.out.1 HDK.out.2 h
          have HTN : Hid (∀ u, 0 ≤ u → u ≤ 8000 → 0 ≤ thin p.dies[k] p.shrink u ∧ thin p.dies[k] p.shrink u ≤ 1820000000 ∧ 0 ≤ thick p.dies[k] p.shrink u ∧ thick p.dies[k] p.shrink u ≤ 1820000000) := Lib.hid fun u h0 h1 => by
            have := thin_bd HDK.out.1 HDK.out.2 (u := u) h0 (by omega)
            have := thick_bd HDK.out.1 HDK.out.2 (u := u) h0 (by omega)
            omega
          generalize p.dies[k] = dk at *
          generalize hl1 : p.dies.set k ⟨dk.wide, ⟨dk.wear.lo, dk.wear.lo⟩⟩ = l1 at *
          generalize hl2 : p.dies.set k ⟨dk.wide, ⟨dk.wear.hi, dk.wear.hi⟩⟩ = l2 at *
          clear hl1 hl2 HPK HDK
          have z0 := NE.out.nd.z3.cell 0
          have z1 := NE.out.nd.z3.cell 1
          have z2 := NE.out.nd.z3.cell 2
          have z3 := NE.out.nd.z3.cell 3
          have n0 := NE.out.nd.hs.bn.cell 0
          go_wp2_with fail
          refine ((HDL.out _ NE.out).1).mono ?_
          rintro e W5 ⟨rfl, hb⟩
          replace NE := Lib.hid (NE.out.call hb)
          have hba := (Below.refl W5.heap.size W5).alloc (Nat.le_refl _) (.cells #[.int .i64 (thin dk p.shrink used / 1000), .int .i64 (cdiv (thin dk p.shrink used) 1000)] 24)
          replace NE := Lib.hid (NE.out.call hba)
          have R2 := Lib.hid (Blk.new W5 24 #[.int .i64 (thin dk p.shrink used / 1000), .int .i64 (cdiv (thin dk p.shrink used) 1000)])
          clear hb hba z0 z1 z2 z3 n0
          have z0 := NE.out.nd.z4.cell 0
          have z1 := NE.out.nd.z4.cell 1
          have z2 := NE.out.nd.z4.cell 2
          have z3 := NE.out.nd.z4.cell 3
          have n0 := NE.out.nd.hs.bn.cell 0
          go_wp2_with fail
          generalize World.alloc W5 _ = W6 at NE R2 z0 z1 z2 z3 n0 ⊢
          generalize W5.heap.size = q16 at R2 ⊢
          refine ((HDL.out _ NE.out).2).mono ?_
          rintro e W7 ⟨rfl, hb⟩
          have HS := Lib.hid (NE.out.nd.hs.call hb)
          have R1 := Lib.hid (NE.out.nd.r1.below hb NE.out.nd.r1.lt)
          replace R2 := Lib.hid (R2.out.below hb R2.out.lt)
          have hba := (Below.refl W7.heap.size W7).alloc (Nat.le_refl _) (.cells #[.int .i64 (thick dk p.shrink used / 1000), .int .i64 (cdiv (thick dk p.shrink used) 1000)] 24)
          replace HS := Lib.hid (HS.out.call hba)
          replace R1 := Lib.hid (R1.out.below hba R1.out.lt)
          replace R2 := Lib.hid (R2.out.below hba R2.out.lt)
          have R3 := Lib.hid (Blk.new W7 24 #[.int .i64 (thick dk p.shrink used / 1000), .int .i64 (cdiv (thick dk p.shrink used) 1000)])
          clear hb hba z0 z1 z2 z3 n0 NE HDL
          have x0 := HS.out.bq.cell 0
          have x1 := HS.out.bq.cell 1
          have x2 := HS.out.bq.cell 2
          have x3 := HS.out.bq.cell 3
          have n0 := HS.out.bn.cell 0
          have hyr : y.tmod 100 = y % 100 := Int.tmod_eq_emod_of_nonneg HYB.out.1
          have hy0 := Int.emod_nonneg y (show (100 : Int) ≠ 0 by omega)
          have hy1 := Int.emod_lt_of_pos y (show (0 : Int) < 100 by omega)
          have hu0 := HUB.out.1
          have hu1 := HUB.out.2
          have hwy : IntKind.i64.wrap y = y := wr (by have := HYB.out.1; omega) (by have := HYB.out.2; omega)
          generalize y % 100 = r at *
          have hwr1 : IntKind.i64.wrap r = r := wr (by omega) (by omega)
          have hwr2 : IntKind.i64.wrap (used + r) = used + r := wr (by omega) (by omega)
          obtain ⟨far, hfar⟩ : ∃ z : Int, min 8000 (used + r) = z := ⟨_, rfl⟩
          have hf0 : 0 ≤ far ∧ used ≤ far ∧ far ≤ 8000 := by omega
          go_wp2_with fail
          refine (HWF.out _ far HS.out hf0.1 hf0.2.2).mono ?_
          rintro e W8 ⟨rfl, hb⟩
          obtain ⟨m1, m2⟩ := HMO.out used far hf0.2.1
          obtain ⟨b1, b2, b3, b4⟩ := HTN.out used hu0 hu1
          obtain ⟨b5, b6, b7, b8⟩ := HTN.out far hf0.1 hf0.2.2
          obtain ⟨rfl, rfl⟩ := HT.out
          have c1 := cdiv_le (thin dk p.shrink used)
          have c2 := cdiv_le (thick dk p.shrink used)
          have b9 : 0 ≤ cdiv (thin dk p.shrink used) 1000 := by unfold cdiv; omega
          have b10 : 0 ≤ cdiv (thick dk p.shrink used) 1000 ∧ cdiv (thick dk p.shrink used) 1000 ≤ 2000000 := by unfold cdiv; omega
          have b11 : 0 ≤ thin dk p.shrink used / 1000 ∧ thin dk p.shrink used / 1000 ≤ 2000000 := by omega
          have b12 : 0 ≤ thick dk p.shrink used / 1000 ∧ thick dk p.shrink used / 1000 ≤ 2000000 := by omega
          replace HS := Lib.hid (HS.out.call hb)
          replace R1 := Lib.hid (R1.out.below hb R1.out.lt)
          replace R2 := Lib.hid (R2.out.below hb R2.out.lt)
          replace R3 := Lib.hid (R3.out.below hb R3.out.lt)
          clear x0 x1 x2 x3 n0 hb HMO HT HTN hfar hyr hwy hwr1 hwr2 b1 b2 b3 b4 b5 b6 b7 b8
          generalize thin dk p.shrink used / 1000 = tl at *
          generalize cdiv (thick dk p.shrink used) 1000 = th at *
          generalize thick dk p.shrink used / 1000 = tk at *
          generalize cdiv (thin dk p.shrink used) 1000 = tc at *
          generalize thin dk p.shrink far / 1000 = cl at *
          generalize cdiv (thick dk p.shrink far) 1000 = ch at *
          have hba := (Below.refl W8.heap.size W8).alloc (Nat.le_refl _) (.cells #[.int .i64 cl, .int .i64 ch] 24)
          replace HS := Lib.hid (HS.out.call hba)
          replace R1 := Lib.hid (R1.out.below hba R1.out.lt)
          replace R2 := Lib.hid (R2.out.below hba R2.out.lt)
          replace R3 := Lib.hid (R3.out.below hba R3.out.lt)
          have R4 := Lib.hid (Blk.new W8 24 #[.int .i64 cl, .int .i64 ch])
          have r10 := R1.out.cell 0
          have r11 := R1.out.cell 1
          have r20 := R2.out.cell 0
          have r21 := R2.out.cell 1
          have r30 := R3.out.cell 0
          have r31 := R3.out.cell 1
          have r40 := R4.out.cell 0
          have r41 := R4.out.cell 1
          have x0 := HS.out.bq.cell 0
          have x1 := HS.out.bq.cell 1
          have x2 := HS.out.bq.cell 2
          have x3 := HS.out.bq.cell 3
          have n0 := HS.out.bn.cell 0
          have y0 := HS.out.bs.cell 0
          have y1 := HS.out.bs.cell 1
          have w1 : IntKind.i64.wrap (tl + 1) = tl + 1 := wr (by omega) (by omega)
          have w2 : IntKind.i64.wrap (tk + 1) = tk + 1 := wr (by omega) (by omega)
          have d1 : decide (tl + 1 < tc) = false := decide_eq_false (by omega)
          have d2 : decide (tk + 1 < th) = false := decide_eq_false (by omega)
          have d3 : decide (cl < tl) = false := decide_eq_false (by omega)
          have d4 : decide (ch < th) = false := decide_eq_false (by omega)
          clear hba R1 R2 R3 R4
          go_wp2_with fail
          refine (HLA.out _ HS.out).mono ?_
          rintro e W9 ⟨rfl, hb⟩
          replace HS := Lib.hid (HS.out.call hb)
          clear hb r10 r11 r20 r21 r30 r31 r40 r41 x0 x1 x2 x3 n0 y0 y1 w1 w2 d1 d2 d3 d4 m1 m2 b9 b10 b11 b12 c1 c2 HWF HLA
          rcases HEN.out with ⟨f, t, hla, f0, ft, t8, v0, v1, v2, v3, hg⟩ | hla | ⟨hla, v0, v1, v2, v3, hg⟩
          · rw [hla]
            have HG := Lib.hid hg
            have HV := Lib.hid (And.intro v0 (And.intro v1 (And.intro v2 v3)))
            clear hg hla HEN v0 v1 v2 v3
            have e1 : decide (f < 0) = false := decide_eq_false (by omega)
            have e2 : decide (t < f) = false := decide_eq_false (by omega)
            have e3 : decide (8000 < t) = false := decide_eq_false (by omega)
            have w1 : IntKind.i64.wrap (f - 1) = f - 1 := wr (by omega) (by omega)
            have w2 : IntKind.i64.wrap (t + 1) = t + 1 := wr (by omega) (by omega)
            go_upto_region 24 with fail
            go_cut [285] (fun s285 wx => s285 = .bool false ∧ Hid (LeS w p (some ⟨bA, oA, none⟩) c k want wx))
            case first => as_aux_lemma =>
              go_wp2_with fail
              have HC1 := HGD.out _ f HS.out HV.out f0 (by omega)
              rw [HG.out f f0 (by omega), decide_eq_true (show f ≤ f ∧ f ≤ t by omega)] at HC1
              refine HC1.mono ?_
              rintro e WA ⟨rfl, hb⟩
              replace HS := Lib.hid (HS.out.call hb)
              clear hb HC1
              go_wp2_with fail
              have HC1 := HGD.out _ t HS.out HV.out (by omega) t8
              rw [HG.out t (by omega) t8, decide_eq_true (show f ≤ t ∧ t ≤ t by omega)] at HC1
              refine HC1.mono ?_
              rintro e WB ⟨rfl, hb⟩
              replace HS := Lib.hid (HS.out.call hb)
              clear hb HC1
              by_cases hf : 0 < f
              · have e4 : decide (0 < f) = true := decide_eq_true hf
                go_wp2_with fail
                have HC1 := HGD.out _ (f - 1) HS.out HV.out (by omega) (by omega)
                rw [HG.out (f - 1) (by omega) (by omega), decide_eq_false (show ¬ (f ≤ f - 1 ∧ f - 1 ≤ t) by omega)] at HC1
                refine HC1.mono ?_
                rintro e WC ⟨rfl, hb⟩
                replace HS := Lib.hid (HS.out.call hb)
                clear hb HC1
                by_cases ht : t < 8000; (have e5 : decide (t < 8000) = true := decide_eq_true ht; go_wp2_with fail; (have HC1 := HGD.out _ (t + 1) HS.out HV.out (by omega) (by omega)); rw [HG.out (t + 1) (by omega) (by omega), decide_eq_false (show ¬ (f ≤ t + 1 ∧ t + 1 ≤ t) by omega)] at HC1; (refine HC1.mono ?_); rintro e WD ⟨rfl, hb⟩; replace HS := Lib.hid (HS.out.call hb); clear hb HC1; go_wp2_with fail; go_meet; exact ⟨rfl, HS⟩); (have e5 : decide (t < 8000) = false := decide_eq_false (by omega); clear ht; go_wp2_with fail; go_meet; exact ⟨rfl, HS⟩)
              · have e4 : decide (0 < f) = false := decide_eq_false hf
                have HF0 := Lib.hid hf
                clear hf
                by_cases ht : t < 8000; (have e5 : decide (t < 8000) = true := decide_eq_true ht; go_wp2_with fail; (have HC1 := HGD.out _ (t + 1) HS.out HV.out (by omega) (by omega)); rw [HG.out (t + 1) (by omega) (by omega), decide_eq_false (show ¬ (f ≤ t + 1 ∧ t + 1 ≤ t) by omega)] at HC1; (refine HC1.mono ?_); rintro e WD ⟨rfl, hb⟩; replace HS := Lib.hid (HS.out.call hb); clear hb HC1; go_wp2_with fail; go_meet; exact ⟨rfl, HS⟩); (have e5 : decide (t < 8000) = false := decide_eq_false (by omega); clear ht; go_wp2_with fail; go_meet; exact ⟨rfl, HS⟩)
            case rest => as_aux_lemma =>
              obtain ⟨rfl, HS⟩ := hcut
              by_cases g1' : f ≤ used; (have e6 : decide (f ≤ used) = true := decide_eq_true g1'; by_cases g2' : used ≤ t; (have e7 : decide (used ≤ t) = true := decide_eq_true g2'; have HC1 := HGD.out _ used HS.out HV.out hu0 hu1; rw [HG.out used hu0 hu1] at HC1; rw [decide_eq_true (show f ≤ used ∧ used ≤ t from ⟨g1', g2'⟩)] at HC1; (go_wp2_with fail; (refine HC1.mono ?_); rintro e WE ⟨rfl, hb⟩; replace HS := Lib.hid (HS.out.call hb); clear hb HC1; go_wp2_with fail; refine (awake_any _).mono ?_; rintro e w9 ⟨rfl, hb9⟩; have hB := (HS.out.call hb9).below; clear HS hb9; go_wp2_with fail; go_ret; exact ⟨rfl, hB⟩)); (have e7 : decide (used ≤ t) = false := decide_eq_false (by omega); have HC1 := HGD.out _ used HS.out HV.out hu0 hu1; rw [HG.out used hu0 hu1] at HC1; rw [decide_eq_false (show ¬ (f ≤ used ∧ used ≤ t) by omega)] at HC1; clear g2'; (go_wp2_with fail; (refine HC1.mono ?_); rintro e WE ⟨rfl, hb⟩; replace HS := Lib.hid (HS.out.call hb); clear hb HC1; go_wp2_with fail; refine (awake_any _).mono ?_; rintro e w9 ⟨rfl, hb9⟩; have hB := (HS.out.call hb9).below; clear HS hb9; go_wp2_with fail; go_ret; exact ⟨rfl, hB⟩))); (have e6 : decide (f ≤ used) = false := decide_eq_false (by omega); have HC1 := HGD.out _ used HS.out HV.out hu0 hu1; rw [HG.out used hu0 hu1] at HC1; rw [decide_eq_false (show ¬ (f ≤ used ∧ used ≤ t) by omega)] at HC1; clear g1'; (go_wp2_with fail; (refine HC1.mono ?_); rintro e WE ⟨rfl, hb⟩; replace HS := Lib.hid (HS.out.call hb); clear hb HC1; go_wp2_with fail; refine (awake_any _).mono ?_; rintro e w9 ⟨rfl, hb9⟩; have hB := (HS.out.call hb9).below; clear HS hb9; go_wp2_with fail; go_ret; exact ⟨rfl, hB⟩))
          · rw [hla]
            go_wp2_with fail
            refine (awake_any _).mono ?_; rintro e w9 ⟨rfl, hb9⟩; have hB := (HS.out.call hb9).below; clear HS hb9; go_wp2_with fail; go_ret; exact ⟨rfl, hB⟩
          · rw [hla]
            have HC1 := HGD.out _ used HS.out ⟨v0, v1, v2, v3⟩ hu0 hu1
            rw [hg used hu0 hu1] at HC1
            clear hg hla HEN
            go_wp2_with fail
            refine HC1.mono ?_
            rintro e WA ⟨rfl, hb⟩
            replace HS := Lib.hid (HS.out.call hb)
            clear hb HC1
            go_wp2_with fail
            refine (awake_any _).mono ?_; rintro e w9 ⟨rfl, hb9⟩; have hB := (HS.out.call hb9).below; clear HS hb9; go_wp2_with fail; go_ret; exact ⟨rfl, hB⟩
    · have hE' : (wideE p n used == 0) = false := by rw [beq_eq_false_iff_ne]; exact hE
      have hS0 : wideS p n used = ⟨0, 0⟩ := by unfold wideS; rw [if_neg hE]
      obtain ⟨o1, ho1⟩ : ∃ x, pressOk p = x := ⟨_, rfl⟩
      have hE1 : (wideE p n used == 1) = !o1 := by
        cases o1 with
        | false => rw [wideE_press ho1]; rfl
        | true =>
          rw [wideE_ok ho1] at hE ⊢
          split at hE
          · exact absurd rfl hE
          · rename_i h; rw [if_neg h]; rfl
      rw [ho1] at HPR
      rw [hS0] at HS R1 ⊢
      generalize wideE p n used = we at *
      clear hE hS0
      have x0 := HS.out.bq.cell 0; have x1 := HS.out.bq.cell 1; have x2 := HS.out.bq.cell 2; have x3 := HS.out.bq.cell 3
      have r0 := R1.out.cell 0
      have r1 := R1.out.cell 1
      clear HW1 ho1
      cases o1 with
      | false =>
        go_wp2_with fail
        refine (HPR.out _ HS.out).mono ?_
        rintro e W3 ⟨rfl, hb⟩
        replace HS := Lib.hid (HS.out.call hb)
        clear hb x0 x1 x2 x3 r0 r1
        go_wp2_with fail
        refine (awake_any _).mono ?_; rintro e w9 ⟨rfl, hb9⟩; have hB := (HS.out.call hb9).below; clear HS hb9; go_wp2_with fail; go_ret; exact ⟨rfl, hB⟩
      | true =>
        go_wp2_with fail
        refine (HPR.out _ HS.out).mono ?_
        rintro e W3 ⟨rfl, hb⟩
        replace HS := Lib.hid (HS.out.call hb)
        clear hb x0 x1 x2 x3 r0 r1
        go_wp2_with fail
        refine (awake_any _).mono ?_; rintro e w9 ⟨rfl, hb9⟩; have hB := (HS.out.call hb9).below; clear HS hb9; go_wp2_with fail; go_ret; exact ⟨rfl, hB⟩
end Go.Proofs.Ytkokacdaiklfjaa
