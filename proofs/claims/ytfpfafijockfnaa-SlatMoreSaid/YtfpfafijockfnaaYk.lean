/- The law's own slats. -/
import Derived.Test.YtfpfafijockfnaaYj
namespace Go.Proofs.Ytfpfafijockfnaa
open Go.RowKit Go.Shelf

theorem blk_rowfar {W : World} {g k : Nat} {t : TypeId} {cs r : Array Value} (hne : k ≠ g) (h : Blk W k t cs) : Blk (W.setRow g r) k t cs := (setRow_other W g k r hne).trans h
theorem results_blk4 {P : Program} {fn : Func} {ty : TypeId} (h : fn.results = #[.cell 0 ty, .cell 1 ty, .cell 2 ty, .cell 3 ty]) (tmps : Array Value) {w : World} {g0 g1 g2 g3 : Nat} {t : TypeId} {c0 c1 c2 c3 : Array Value}
    (h0 : tmps.getD 0 undef = .pointer (some ⟨g0, 0, none⟩)) (h1 : tmps.getD 1 undef = .pointer (some ⟨g1, 0, none⟩)) (h2 : tmps.getD 2 undef = .pointer (some ⟨g2, 0, none⟩)) (h3 : tmps.getD 3 undef = .pointer (some ⟨g3, 0, none⟩))
    (k0 : Blk w g0 t c0) (k1 : Blk w g1 t c1) (k2 : Blk w g2 t c2) (k3 : Blk w g3 t c3) (hd : rowType P ty = true) (i0 : (P.info? ty).map (·.size) = some c0.size) (i1 : (P.info? ty).map (·.size) = some c1.size) (i2 : (P.info? ty).map (·.size) = some c2.size) (i3 : (P.info? ty).map (·.size) = some c3.size) :
    (results fn tmps).run P w = .ok (.tuple #[.agg c0, .agg c1, .agg c2, .agg c3]) w := by
  have e0 : tmps[0]?.getD undef = .pointer (some ⟨g0, 0, none⟩) := by simpa using h0
  have e1 : tmps[1]?.getD undef = .pointer (some ⟨g1, 0, none⟩) := by simpa using h1
  have e2 : tmps[2]?.getD undef = .pointer (some ⟨g2, 0, none⟩) := by simpa using h2
  have e3 : tmps[3]?.getD undef = .pointer (some ⟨g3, 0, none⟩) := by simpa using h3
  simp [results, h, e0, e1, e2, e3, asAddr, run_load_blk k0 hd i0, run_load_blk k1 hd i1, run_load_blk k2 hd i2, run_load_blk k3 hd i3, Result.andThen]
structure SlS (w : World) (a b c d : Array Value) (V : World) : Prop where
  hb : Below w.heap.size w V
  k0 : Blk V w.heap.size 37 a
  k1 : Blk V (w.heap.size + 1) 37 b
  k2 : Blk V (w.heap.size + 1 + 1) 37 c
  k3 : Blk V (w.heap.size + 1 + 1 + 1) 37 d
section
variable {w V V' : World} {a b c d x : Array Value}
theorem SlS.call (h : SlS w a b c d V) (hb : Below V.heap.size V V') : SlS w a b c d V' := ⟨h.hb.trans (hb.mono h.hb.size), h.k0.below hb h.k0.lt, h.k1.below hb h.k1.lt, h.k2.below hb h.k2.lt, h.k3.below hb h.k3.lt⟩
theorem SlS.row0 (h : SlS w a b c d V) (x : Array Value) : SlS w x b c d (V.setRow w.heap.size x) := ⟨below_setRow h.hb (by omega) x, h.k0.row x, blk_rowfar (by omega) h.k1, blk_rowfar (by omega) h.k2, blk_rowfar (by omega) h.k3⟩
theorem SlS.row1 (h : SlS w a b c d V) (x : Array Value) : SlS w a x c d (V.setRow (w.heap.size + 1) x) := ⟨below_setRow h.hb (by omega) x, blk_rowfar (by omega) h.k0, h.k1.row x, blk_rowfar (by omega) h.k2, blk_rowfar (by omega) h.k3⟩
theorem SlS.row2 (h : SlS w a b c d V) (x : Array Value) : SlS w a b x d (V.setRow (w.heap.size + 1 + 1) x) := ⟨below_setRow h.hb (by omega) x, blk_rowfar (by omega) h.k0, blk_rowfar (by omega) h.k1, h.k2.row x, blk_rowfar (by omega) h.k3⟩
theorem SlS.row3 (h : SlS w a b c d V) (x : Array Value) : SlS w a b c x (V.setRow (w.heap.size + 1 + 1 + 1) x) := ⟨below_setRow h.hb (by omega) x, blk_rowfar (by omega) h.k0, blk_rowfar (by omega) h.k1, blk_rowfar (by omega) h.k2, h.k3.row x⟩
theorem SlS.two2 (h : SlS w a b c d V) (x y : Value) : SlS w a b ((c.setIfInBounds 0 x).setIfInBounds 1 y) d (V.setCells (w.heap.size + 1 + 1) 0 [x, y]) := ⟨below_set2 h.hb (by omega), far2 (by omega) h.k0, far2 (by omega) h.k1, set2_blk h.k2, far2 (by omega) h.k3⟩
theorem SlS.two3 (h : SlS w a b c d V) (x y : Value) : SlS w a b c ((d.setIfInBounds 0 x).setIfInBounds 1 y) (V.setCells (w.heap.size + 1 + 1 + 1) 0 [x, y]) := ⟨below_set2 h.hb (by omega), far2 (by omega) h.k0, far2 (by omega) h.k1, far2 (by omega) h.k2, set2_blk h.k3⟩
end
set_option maxRecDepth 100000 in
set_option maxHeartbeats 4000000 in
theorem slats43_any (w : World) : Calls Try.prog 18 #[] w (Ret (.tuple #[.agg #[.int .i64 5000, .int .i64 5010, .int .i64 1010, .int .i64 1020, .int .i64 0, .int .i64 4, .int .i64 1, .int .i64 2], .agg #[.int .i64 4980, .int .i64 4990, .int .i64 1000, .int .i64 1010, .int .i64 (-2), .int .i64 2, .int .i64 0, .int .i64 1], .agg #[.int .i64 4900, .int .i64 4910, .int .i64 1010, .int .i64 1020, .int .i64 0, .int .i64 4, .int .i64 1, .int .i64 2], .agg #[.int .i64 4880, .int .i64 4890, .int .i64 1000, .int .i64 1010, .int .i64 (-2), .int .i64 2, .int .i64 0, .int .i64 1]]) w) := by
  have HS : Hid (SlS w #[.int .i64 0, .int .i64 0, .int .i64 0, .int .i64 0, .int .i64 0, .int .i64 0, .int .i64 0, .int .i64 0] #[.int .i64 0, .int .i64 0, .int .i64 0, .int .i64 0, .int .i64 0, .int .i64 0, .int .i64 0, .int .i64 0] #[.int .i64 0, .int .i64 0, .int .i64 0, .int .i64 0, .int .i64 0, .int .i64 0, .int .i64 0, .int .i64 0] #[.int .i64 0, .int .i64 0, .int .i64 0, .int .i64 0, .int .i64 0, .int .i64 0, .int .i64 0, .int .i64 0] ((((w.alloc (.cells #[.int .i64 0, .int .i64 0, .int .i64 0, .int .i64 0, .int .i64 0, .int .i64 0, .int .i64 0, .int .i64 0] 37)).alloc (.cells #[.int .i64 0, .int .i64 0, .int .i64 0, .int .i64 0, .int .i64 0, .int .i64 0, .int .i64 0, .int .i64 0] 37)).alloc (.cells #[.int .i64 0, .int .i64 0, .int .i64 0, .int .i64 0, .int .i64 0, .int .i64 0, .int .i64 0, .int .i64 0] 37)).alloc (.cells #[.int .i64 0, .int .i64 0, .int .i64 0, .int .i64 0, .int .i64 0, .int .i64 0, .int .i64 0, .int .i64 0] 37))) :=
    Lib.hid ⟨by repeat (first | exact Below.refl _ _ | assumption | refine Below.drew ?_ | refine Below.alloc ?_ (by first | omega | (simp only [World.size_alloc]; omega) | simp) _ | refine Below.setCell ?_ (by first | omega | (simp only [World.size_alloc]; omega) | simp) _), (((Blk.new _ _ _).alloc _).alloc _).alloc _, ((blk5 _ _ (by simp) rfl).alloc _).alloc _, (blk5 _ _ (by simp) rfl).alloc _, blk5 _ _ (by simp) rfl⟩
  go_enter Try.func18, Try.ntmps18
  go_upto_region 1 with fail
  generalize World.alloc (World.alloc (World.alloc (World.alloc w _) _) _) _ = V at HS ⊢
  go_wp2_with fail
  refine (span46_any _ _ _).mono ?_
  rintro e X1 ⟨rfl, hb⟩
  replace HS := Lib.hid (HS.out.call hb)
  clear hb
  go_wp2_with fail
  refine (span46_any _ _ _).mono ?_
  rintro e X2 ⟨rfl, hb⟩
  replace HS := Lib.hid (HS.out.call hb)
  clear hb
  go_wp2_with fail
  refine (span46_any _ _ _).mono ?_
  rintro e X3 ⟨rfl, hb⟩
  replace HS := Lib.hid (HS.out.call hb)
  clear hb
  go_wp2_with fail
  refine (span46_any _ _ _).mono ?_
  rintro e X4 ⟨rfl, hb⟩
  replace HS := Lib.hid (HS.out.call hb)
  clear hb
  go_upto_region 2 with (refine wpList_store_row (by rfl) 37 (.tmp 0) (.tmp 8) (by rfl) (w.heap.size) #[.int .i64 5000, .int .i64 5010, .int .i64 1010, .int .i64 1020, .int .i64 0, .int .i64 4, .int .i64 1, .int .i64 2] (by rfl) (by rfl) 37 _ HS.out.k0 (by kernel_rfl) (by rfl) (by kernel_rfl) ?_)
  replace HS := Lib.hid (HS.out.row0 #[.int .i64 5000, .int .i64 5010, .int .i64 1010, .int .i64 1020, .int .i64 0, .int .i64 4, .int .i64 1, .int .i64 2])
  generalize World.setRow _ _ _ = Z1 at HS ⊢
  go_wp2_with fail
  refine (span46_any _ _ _).mono ?_
  rintro e X5 ⟨rfl, hb⟩
  replace HS := Lib.hid (HS.out.call hb)
  clear hb
  go_wp2_with fail
  refine (span46_any _ _ _).mono ?_
  rintro e X6 ⟨rfl, hb⟩
  replace HS := Lib.hid (HS.out.call hb)
  clear hb
  go_wp2_with fail
  refine (span46_any _ _ _).mono ?_
  rintro e X7 ⟨rfl, hb⟩
  replace HS := Lib.hid (HS.out.call hb)
  clear hb
  go_wp2_with fail
  refine (span46_any _ _ _).mono ?_
  rintro e X8 ⟨rfl, hb⟩
  replace HS := Lib.hid (HS.out.call hb)
  clear hb
  go_upto_region 3 with (refine wpList_store_row (by rfl) 37 (.tmp 1) (.tmp 13) (by rfl) (w.heap.size + 1) #[.int .i64 4980, .int .i64 4990, .int .i64 1000, .int .i64 1010, .int .i64 (-2), .int .i64 2, .int .i64 0, .int .i64 1] (by rfl) (by rfl) 37 _ HS.out.k1 (by kernel_rfl) (by rfl) (by kernel_rfl) ?_)
  replace HS := Lib.hid (HS.out.row1 #[.int .i64 4980, .int .i64 4990, .int .i64 1000, .int .i64 1010, .int .i64 (-2), .int .i64 2, .int .i64 0, .int .i64 1])
  generalize World.setRow _ _ _ = Z2 at HS ⊢
  replace HS := Lib.hid (HS.out.call (Below.refl _ _).drew)
  refine wp_region_held_drew (S := fun W9 => Blk W9 w.heap.size 37 #[.int .i64 5000, .int .i64 5010, .int .i64 1010, .int .i64 1020, .int .i64 0, .int .i64 4, .int .i64 1, .int .i64 2] ∧ Blk W9 (w.heap.size + 1) 37 #[.int .i64 4980, .int .i64 4990, .int .i64 1000, .int .i64 1010, .int .i64 (-2), .int .i64 2, .int .i64 0, .int .i64 1]) (by kernel_rfl) ⟨HS.out.k0, HS.out.k1⟩ (fun hH0 => ?_)
  generalize World.drew _ = V0 at *
  simp only [List.size_toArray, List.length_cons, List.length_nil, Nat.reduceAdd, Array.replicate_succ, Array.replicate_zero, List.push_toArray, List.nil_append, List.cons_append]
  refine wpAnyH_take (i := 0) (v := _) rfl (by kernel_rfl) (by kernel_rfl) (by kernel_rfl) (fun _ _ _ h => h) (yieldsIf_load_mid (by rfl) _ _ rfl _ _ rfl [.int .i64 5000, .int .i64 5010, .int .i64 1010, .int .i64 1020, .int .i64 0, .int .i64 4, .int .i64 1, .int .i64 2] _ (fun w0 h0 => h0.1.range) (by rfl) (by rfl) (by kernel_rfl)) (by assumption) ?_
  (try simp only [Act.put, List.getElem_toArray, List.getElem_cons_zero, List.setIfInBounds_toArray, List.set_cons_zero, List.set_cons_succ])
  refine wpAnyH_take (i := 1) (v := _) rfl (by kernel_rfl) (by kernel_rfl) (by kernel_rfl) (fun _ _ _ h => h) (yieldsIf_load_mid (by rfl) _ _ rfl _ _ rfl [.int .i64 4980, .int .i64 4990, .int .i64 1000, .int .i64 1010, .int .i64 (-2), .int .i64 2, .int .i64 0, .int .i64 1] _ (fun w0 h0 => h0.2.range) (by rfl) (by rfl) (by kernel_rfl)) (by assumption) ?_
  (try simp only [Act.put, List.getElem_toArray, List.getElem_cons_succ, List.getElem_cons_zero, List.setIfInBounds_toArray, List.set_cons_zero, List.set_cons_succ])
  refine wpAnyH_ready (rs := [2]) (by kernel_rfl) (by simp) ?_
  refine AllReadyH.cons (by simp only [List.getElem?_toArray, List.getElem?_cons_succ, List.getElem?_cons_zero]; rfl) (fun K hK => ?_) AllReadyH.nil
  rw [if_pos (by rfl)]
  refine wp_store_row 37 (.tmp 2) (.tmp 14) (by rfl) (w.heap.size + 1 + 1) #[.int .i64 5000, .int .i64 5010, .int .i64 1010, .int .i64 1020, .int .i64 0, .int .i64 4, .int .i64 1, .int .i64 2] (by rfl) (by rfl) 37 _ HS.out.k2 (by kernel_rfl) (by rfl) (by kernel_rfl) ?_
  replace HS := Lib.hid (HS.out.row2 #[.int .i64 5000, .int .i64 5010, .int .i64 1010, .int .i64 1020, .int .i64 0, .int .i64 4, .int .i64 1, .int .i64 2])
  refine hK.out _ _ ⟨HS.out.k0, HS.out.k1⟩ (fun hH1 => ?_)
  clear hK K
  try simp only [List.setIfInBounds_toArray, List.set_cons_zero, List.set_cons_succ]
  refine wpAnyH_ready (rs := [3]) (by kernel_rfl) (by simp) ?_
  refine AllReadyH.cons (by simp only [List.getElem?_toArray, List.getElem?_cons_succ, List.getElem?_cons_zero]; rfl) (fun K hK => ?_) AllReadyH.nil
  rw [if_pos (by rfl)]
  refine wp_store_row 37 (.tmp 3) (.tmp 15) (by rfl) (w.heap.size + 1 + 1 + 1) #[.int .i64 4980, .int .i64 4990, .int .i64 1000, .int .i64 1010, .int .i64 (-2), .int .i64 2, .int .i64 0, .int .i64 1] (by rfl) (by rfl) 37 _ HS.out.k3 (by kernel_rfl) (by rfl) (by kernel_rfl) ?_
  replace HS := Lib.hid (HS.out.row3 #[.int .i64 4980, .int .i64 4990, .int .i64 1000, .int .i64 1010, .int .i64 (-2), .int .i64 2, .int .i64 0, .int .i64 1])
  refine hK.out _ _ ⟨HS.out.k0, HS.out.k1⟩ (fun hH2 => ?_)
  clear hK K
  try simp only [List.setIfInBounds_toArray, List.set_cons_zero, List.set_cons_succ]
  refine wpAnyH_done (by kernel_rfl) ?_ _
  generalize World.setRow (World.setRow _ _ _) _ _ = Z3 at HS ⊢
  go_wp2_with fail
  refine (span46_any _ _ _).mono ?_
  rintro e X9 ⟨rfl, hb⟩
  replace HS := Lib.hid (HS.out.call hb)
  clear hb
  go_wp2_with fail
  refine (span46_any _ _ _).mono ?_
  rintro e X10 ⟨rfl, hb⟩
  replace HS := Lib.hid (HS.out.call hb)
  clear hb
  have HT2 := Lib.hid (there_mid (o := 0) HS.out.k2 (by simp))
  have HS2 := Lib.hid (HS.out.two2 (.int .i64 4900) (.int .i64 4910))
  have HT3 := Lib.hid (there_mid (o := 0) HS2.out.k3 (by simp))
  have HS4 : Hid (SlS w #[.int .i64 5000, .int .i64 5010, .int .i64 1010, .int .i64 1020, .int .i64 0, .int .i64 4, .int .i64 1, .int .i64 2] #[.int .i64 4980, .int .i64 4990, .int .i64 1000, .int .i64 1010, .int .i64 (-2), .int .i64 2, .int .i64 0, .int .i64 1] #[.int .i64 4900, .int .i64 4910, .int .i64 1010, .int .i64 1020, .int .i64 0, .int .i64 4, .int .i64 1, .int .i64 2] #[.int .i64 4880, .int .i64 4890, .int .i64 1000, .int .i64 1010, .int .i64 (-2), .int .i64 2, .int .i64 0, .int .i64 1] _) := Lib.hid (HS2.out.two3 (.int .i64 4880) (.int .i64 4890))
  clear HS HS2
  go_upto_region 5 with (first | (refine wpList_store_mid (by rfl) 23 (.tmp 18) (.tmp 16) (by rfl) (w.heap.size + 1 + 1) 0 #[.int .i64 4900, .int .i64 4910] (by rfl) (by rfl) HT2.out (by kernel_rfl) (by simp [Value.oneCell']) ?_) | (refine wpList_store_mid (by rfl) 23 (.tmp 19) (.tmp 17) (by rfl) (w.heap.size + 1 + 1 + 1) 0 #[.int .i64 4880, .int .i64 4890] (by rfl) (by rfl) HT3.out (by kernel_rfl) (by simp [Value.oneCell']) ?_))
  have HS := HS4
  clear HS4 HT2 HT3
  generalize World.setCells (World.setCells _ _ _ _) _ _ _ = Z4 at HS ⊢
  replace HS := Lib.hid (HS.out.call (Below.refl _ _).drew)
  refine wp_region_held_drew (S := fun W9 => (Blk W9 w.heap.size 37 #[.int .i64 5000, .int .i64 5010, .int .i64 1010, .int .i64 1020, .int .i64 0, .int .i64 4, .int .i64 1, .int .i64 2] ∧ Blk W9 (w.heap.size + 1) 37 #[.int .i64 4980, .int .i64 4990, .int .i64 1000, .int .i64 1010, .int .i64 (-2), .int .i64 2, .int .i64 0, .int .i64 1]) ∧ Blk W9 (w.heap.size + 1 + 1) 37 #[.int .i64 4900, .int .i64 4910, .int .i64 1010, .int .i64 1020, .int .i64 0, .int .i64 4, .int .i64 1, .int .i64 2] ∧ Blk W9 (w.heap.size + 1 + 1 + 1) 37 #[.int .i64 4880, .int .i64 4890, .int .i64 1000, .int .i64 1010, .int .i64 (-2), .int .i64 2, .int .i64 0, .int .i64 1]) (by kernel_rfl) ⟨⟨HS.out.k0, HS.out.k1⟩, HS.out.k2, HS.out.k3⟩ (fun hH0 => ?_)
  generalize World.drew _ = V0 at *
  simp only [List.size_toArray, List.length_cons, List.length_nil, Nat.reduceAdd, Array.replicate_succ, Array.replicate_zero, List.push_toArray, List.nil_append, List.cons_append]
  refine wpAnyH_take (i := 0) (v := _) rfl (by kernel_rfl) (by kernel_rfl) (by kernel_rfl) (fun _ _ _ h => h) (yieldsIf_load_mid (by rfl) _ _ rfl _ _ rfl [.int .i64 5000, .int .i64 5010, .int .i64 1010, .int .i64 1020, .int .i64 0, .int .i64 4, .int .i64 1, .int .i64 2] _ (fun w0 h0 => h0.1.1.range) (by rfl) (by rfl) (by kernel_rfl)) (by assumption) ?_
  (try simp only [Act.put, List.getElem_toArray, List.getElem_cons_zero, List.setIfInBounds_toArray, List.set_cons_zero, List.set_cons_succ])
  refine wpAnyH_take (i := 1) (v := _) rfl (by kernel_rfl) (by kernel_rfl) (by kernel_rfl) (fun _ _ _ h => h) (yieldsIf_load_mid (by rfl) _ _ rfl _ _ rfl [.int .i64 4980, .int .i64 4990, .int .i64 1000, .int .i64 1010, .int .i64 (-2), .int .i64 2, .int .i64 0, .int .i64 1] _ (fun w0 h0 => h0.1.2.range) (by rfl) (by rfl) (by kernel_rfl)) (by assumption) ?_
  (try simp only [Act.put, List.getElem_toArray, List.getElem_cons_succ, List.getElem_cons_zero, List.setIfInBounds_toArray, List.set_cons_zero, List.set_cons_succ])
  refine wpAnyH_take (i := 2) (v := _) rfl (by kernel_rfl) (by kernel_rfl) (by kernel_rfl) (fun _ _ _ h => h) (yieldsIf_load_mid (by rfl) _ _ rfl _ _ rfl [.int .i64 4900, .int .i64 4910, .int .i64 1010, .int .i64 1020, .int .i64 0, .int .i64 4, .int .i64 1, .int .i64 2] _ (fun w0 h0 => h0.2.1.range) (by rfl) (by rfl) (by kernel_rfl)) (by assumption) ?_
  (try simp only [Act.put, List.getElem_toArray, List.getElem_cons_succ, List.getElem_cons_zero, List.setIfInBounds_toArray, List.set_cons_zero, List.set_cons_succ])
  refine wpAnyH_take (i := 3) (v := _) rfl (by kernel_rfl) (by kernel_rfl) (by kernel_rfl) (fun _ _ _ h => h) (yieldsIf_load_mid (by rfl) _ _ rfl _ _ rfl [.int .i64 4880, .int .i64 4890, .int .i64 1000, .int .i64 1010, .int .i64 (-2), .int .i64 2, .int .i64 0, .int .i64 1] _ (fun w0 h0 => h0.2.2.range) (by rfl) (by rfl) (by kernel_rfl)) (by assumption) ?_
  (try simp only [Act.put, List.getElem_toArray, List.getElem_cons_succ, List.getElem_cons_zero, List.setIfInBounds_toArray, List.set_cons_zero, List.set_cons_succ])
  refine wpAnyH_ready (rs := [4]) (by kernel_rfl) (by simp) ?_
  refine AllReadyH.cons (by simp only [List.getElem?_toArray, List.getElem?_cons_succ, List.getElem?_cons_zero]; rfl) (fun K hK => ?_) AllReadyH.nil
  rw [if_pos (by rfl)]
  refine wp_store_row 37 (.tmp 0) (.tmp 20) (by rfl) (w.heap.size) #[.int .i64 5000, .int .i64 5010, .int .i64 1010, .int .i64 1020, .int .i64 0, .int .i64 4, .int .i64 1, .int .i64 2] (by rfl) (by rfl) 37 _ HS.out.k0 (by kernel_rfl) (by rfl) (by kernel_rfl) ?_
  replace HS := Lib.hid (HS.out.row0 #[.int .i64 5000, .int .i64 5010, .int .i64 1010, .int .i64 1020, .int .i64 0, .int .i64 4, .int .i64 1, .int .i64 2])
  refine hK.out _ _ ⟨⟨HS.out.k0, HS.out.k1⟩, HS.out.k2, HS.out.k3⟩ (fun hH1 => ?_)
  clear hK K
  try simp only [List.setIfInBounds_toArray, List.set_cons_zero, List.set_cons_succ]
  refine wpAnyH_ready (rs := [5]) (by kernel_rfl) (by simp) ?_
  refine AllReadyH.cons (by simp only [List.getElem?_toArray, List.getElem?_cons_succ, List.getElem?_cons_zero]; rfl) (fun K hK => ?_) AllReadyH.nil
  rw [if_pos (by rfl)]
  refine wp_store_row 37 (.tmp 1) (.tmp 21) (by rfl) (w.heap.size + 1) #[.int .i64 4980, .int .i64 4990, .int .i64 1000, .int .i64 1010, .int .i64 (-2), .int .i64 2, .int .i64 0, .int .i64 1] (by rfl) (by rfl) 37 _ HS.out.k1 (by kernel_rfl) (by rfl) (by kernel_rfl) ?_
  replace HS := Lib.hid (HS.out.row1 #[.int .i64 4980, .int .i64 4990, .int .i64 1000, .int .i64 1010, .int .i64 (-2), .int .i64 2, .int .i64 0, .int .i64 1])
  refine hK.out _ _ ⟨⟨HS.out.k0, HS.out.k1⟩, HS.out.k2, HS.out.k3⟩ (fun hH2 => ?_)
  clear hK K
  try simp only [List.setIfInBounds_toArray, List.set_cons_zero, List.set_cons_succ]
  refine wpAnyH_ready (rs := [6]) (by kernel_rfl) (by simp) ?_
  refine AllReadyH.cons (by simp only [List.getElem?_toArray, List.getElem?_cons_succ, List.getElem?_cons_zero]; rfl) (fun K hK => ?_) AllReadyH.nil
  rw [if_pos (by rfl)]
  refine wp_store_row 37 (.tmp 2) (.tmp 22) (by rfl) (w.heap.size + 1 + 1) #[.int .i64 4900, .int .i64 4910, .int .i64 1010, .int .i64 1020, .int .i64 0, .int .i64 4, .int .i64 1, .int .i64 2] (by rfl) (by rfl) 37 _ HS.out.k2 (by kernel_rfl) (by rfl) (by kernel_rfl) ?_
  replace HS := Lib.hid (HS.out.row2 #[.int .i64 4900, .int .i64 4910, .int .i64 1010, .int .i64 1020, .int .i64 0, .int .i64 4, .int .i64 1, .int .i64 2])
  refine hK.out _ _ ⟨⟨HS.out.k0, HS.out.k1⟩, HS.out.k2, HS.out.k3⟩ (fun hH3 => ?_)
  clear hK K
  try simp only [List.setIfInBounds_toArray, List.set_cons_zero, List.set_cons_succ]
  refine wpAnyH_ready (rs := [7]) (by kernel_rfl) (by simp) ?_
  refine AllReadyH.cons (by simp only [List.getElem?_toArray, List.getElem?_cons_succ, List.getElem?_cons_zero]; rfl) (fun K hK => ?_) AllReadyH.nil
  rw [if_pos (by rfl)]
  refine wp_store_row 37 (.tmp 3) (.tmp 23) (by rfl) (w.heap.size + 1 + 1 + 1) #[.int .i64 4880, .int .i64 4890, .int .i64 1000, .int .i64 1010, .int .i64 (-2), .int .i64 2, .int .i64 0, .int .i64 1] (by rfl) (by rfl) 37 _ HS.out.k3 (by kernel_rfl) (by rfl) (by kernel_rfl) ?_
  replace HS := Lib.hid (HS.out.row3 #[.int .i64 4880, .int .i64 4890, .int .i64 1000, .int .i64 1010, .int .i64 (-2), .int .i64 2, .int .i64 0, .int .i64 1])
  refine hK.out _ _ ⟨⟨HS.out.k0, HS.out.k1⟩, HS.out.k2, HS.out.k3⟩ (fun hH4 => ?_)
  clear hK K
  try simp only [List.setIfInBounds_toArray, List.set_cons_zero, List.set_cons_succ]
  refine wpAnyH_done (by kernel_rfl) ?_ _
  go_wp2_with fail
  exact bodyPost_ret (results_blk4 rfl _ rfl rfl rfl rfl HS.out.k0 HS.out.k1 HS.out.k2 HS.out.k3 (by kernel_rfl) (by kernel_rfl) (by kernel_rfl) (by kernel_rfl) (by kernel_rfl)) rfl ⟨rfl, HS.out.hb⟩
end Go.Proofs.Ytfpfafijockfnaa