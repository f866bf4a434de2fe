/- turn.next. -/
import Derived.Test.YtfpfafijockfnaaYb
namespace Go.Proofs.Ytfpfafijockfnaa
open Go.RowKit Go.Shelf

/-- The next set of slats that are taken. -/
def nextT (t : Nat) (u : Int) : Nat := if u = -1 then t else t ||| 2 ^ u.toNat
theorem or_bits : ∀ t < 128, ∀ k < 7, bits .or .i64 ((t : Nat) : Int) ((2 ^ k : Nat) : Int) = ((t ||| 2 ^ k : Nat) : Int) := by decide +kernel
theorem sh_bits : ∀ k < 7, IntKind.i64.wrap ((2 ^ k : Nat) : Int) = ((2 ^ k : Nat) : Int) := by decide +kernel
theorem and_bits : ∀ t < 128, ∀ k < 7, bits .and .i64 ((t / 2 ^ k : Nat) : Int) 1 = if Nat.testBit t k then 1 else 0 := by decide +kernel
theorem or_small : ∀ t < 128, ∀ k < 7, t ||| 2 ^ k < 128 := by decide +kernel
theorem below_set2 {B g : Nat} {w W : World} {x y : Value} (h : Below B w W) (hg : B ≤ g) : Below B w (W.setCells g 0 [x, y]) := (h.setCell (p := ⟨g, 0, none⟩) hg x).setCell (p := ⟨g, 1, none⟩) hg y
theorem set2_blk {W : World} {g : Nat} {x y : Value} {t : TypeId} {cs : Array Value} (h : Blk W g t cs) : Blk (W.setCells g 0 [x, y]) g t ((cs.setIfInBounds 0 x).setIfInBounds 1 y) := (h.set_ 0 x).set_ 1 y
structure NxS (w : World) (i t : Int) (W : World) : Prop where
  hb : Below w.heap.size w W
  kt : Blk W w.heap.size 126 #[.int .i64 i, .int .i64 t]
  kr : Blk W (w.heap.size + 1) 126 #[.int .i64 0, .int .i64 0]
theorem NxS.call {w : World} {i t : Int} {W W' : World} (h : NxS w i t W) (hb : Below W.heap.size W W') : NxS w i t W' := ⟨h.hb.trans (hb.mono h.hb.size), h.kt.below hb h.kt.lt, h.kr.below hb h.kr.lt⟩
theorem NxS.seti {w : World} {i t : Int} {W : World} (h : NxS w i t W) (x : Int) : NxS w x t (W.setCell ⟨w.heap.size, 0, none⟩ (.int .i64 x)) := ⟨h.hb.setCell (by simp) _, by simpa using h.kt.set_ 0 (.int .i64 x), h.kr.far (by simp) _⟩
theorem NxS.sett {w : World} {i t : Int} {W : World} (h : NxS w i t W) (x : Int) : NxS w i x (W.setCell ⟨w.heap.size, 1, none⟩ (.int .i64 x)) := ⟨h.hb.setCell (by simp) _, by simpa using h.kt.set_ 1 (.int .i64 x), h.kr.far (by simp) _⟩
set_option maxRecDepth 100000 in
set_option maxHeartbeats 4000000 in
theorem next5_any (i : Int) (t : Nat) (u : Int) (w : World) (hi0 : 0 ≤ i) (hi1 : i ≤ 7) (ht : t < 128) (hu : -1 ≤ u) (hu1 : u ≤ 6) :
    Calls Try.prog 65 #[.agg #[.int .i64 i, .int .i64 t], .int .i64 u] w (Ret (.agg #[.int .i64 (i + 1), .int .i64 (nextT t u)]) w) := by
  have HS : Hid (NxS w i t ((w.alloc (.cells #[.int .i64 i, .int .i64 t] 126)).alloc (.cells #[.int .i64 0, .int .i64 0] 126))) := Lib.hid ⟨((Below.refl _ _).alloc (Nat.le_refl _) _).alloc (by simp) _, (Blk.new _ _ _).below ((Below.refl _ _).alloc (Nat.le_refl _) _) (by simp), blk5 _ _ (by simp) rfl⟩
  have wi : IntKind.i64.wrap (i + 1) = i + 1 := IntWalk.i64_in _ ⟨by omega, by omega⟩
  by_cases hm : u = -1
  · subst hm
    go_enter Try.func65, Try.ntmps65
    go_upto_region 3 with fail
    generalize World.alloc (World.alloc w _) _ = V at HS ⊢
    have x0 := HS.out.kt.cell 0
    have x1 := HS.out.kt.cell 1
    have y0 := HS.out.kt.frozen 0
    have HS2 := Lib.hid (HS.out.seti (i + 1))
    go_upto_region 4 with fail
    clear HS x0 x1 y0
    generalize World.setCell V _ _ = V2 at HS2 ⊢
    have x0 := HS2.out.kt.cell 0
    have x1 := HS2.out.kt.cell 1
    have HT := Lib.hid (there_mid (o := 0) HS2.out.kr (by simp))
    have HB := Lib.hid (below_set2 (x := .int .i64 (i + 1)) (y := .int .i64 t) HS2.out.hb (g := w.heap.size + 1) (by omega))
    have HK := Lib.hid (set2_blk (x := .int .i64 (i + 1)) (y := .int .i64 t) HS2.out.kr)
    go_wp2_with (refine wpList_store_mid (by rfl) 126 (.tmp 4) (.tmp 17) (by rfl) (w.heap.size + 1) 0 #[.int .i64 (i + 1), .int .i64 t] (by rfl) (by rfl) HT.out (by kernel_rfl) (by simp [Value.oneCell']) ?_)
    exact bodyPost_ret (results_blk rfl _ rfl HK.out (by kernel_rfl) (by kernel_rfl)) rfl ⟨rfl, HB.out⟩
  · obtain ⟨k, rfl⟩ := Int.eq_ofNat_of_zero_le (show 0 ≤ u by omega)
    have hk : k < 7 := by omega
    have HO := Lib.hid (or_bits t ht k hk)
    have HSH := Lib.hid (sh_bits k hk)
    have HN : Hid (nextT t (k : Int) = t ||| 2 ^ k) := Lib.hid (by unfold nextT; rw [if_neg hm]; rfl)
    have hm' : ((k : Int) == -1) = false := by rw [beq_eq_false_iff_ne]; exact hm
    have hk0 : (0 : Int) ≤ k := by omega
    have hk64 : (k : Int) ≤ 64 := by omega
    have e1 : IntKind.i64.wrap (2 ^ k) = ((2 ^ k : Nat) : Int) := by rw [← HSH.out]; rw [Int.natCast_pow]; rfl
    have e2 : bits .or .i64 (t : Int) ((2 ^ k : Nat) : Int) = ((t ||| 2 ^ k : Nat) : Int) := HO.out
    rw [HN.out]
    generalize ((2 ^ k : Nat) : Int) = P at e1 e2
    generalize t ||| 2 ^ k = t2 at *
    go_enter Try.func65, Try.ntmps65
    go_upto_region 2 with fail
    generalize World.alloc (World.alloc w _) _ = V at HS ⊢
    replace HS := Lib.hid (HS.out.call (Below.refl _ _).drew)
    have x1 := HS.out.kt.cell 1
    have fr := HS.out.kt.frozen 1
    refine wp_region_held_drew (S := fun _ => True) (by kernel_rfl) trivial (fun hH0 => ?_)
    generalize World.drew _ = V0 at *
    simp only [List.size_toArray, List.length_cons, List.length_nil, Nat.reduceAdd, Array.replicate_succ, Array.replicate_zero, List.push_toArray, List.nil_append, List.cons_append]
    refine wpAnyH_take (i := 0 ) (v := ?_) rfl (by kernel_rfl) (by kernel_rfl) (by kernel_rfl) (fun _ _ _ h => h) (Or.inl ⟨by rfl, ?_⟩) (by assumption) ?_; rotate_left; (· (intro w0 hSw; clear hSw; go_simp); first | done | with_reducible rfl); (try simp only [Act.put, List.getElem_toArray, List.getElem_cons_zero, List.setIfInBounds_toArray, List.set_cons_zero, List.set_cons_succ])
    refine wpAnyH_take (i := 2 ) (v := ?_) rfl (by kernel_rfl) (by kernel_rfl) (by kernel_rfl) (fun _ _ _ h => h) (Or.inl ⟨by rfl, ?_⟩) (by assumption) ?_; rotate_left; (· (intro w0 hSw; clear hSw; go_simp); first | done | with_reducible rfl); (try simp only [Act.put, List.getElem_toArray, List.getElem_cons_succ, List.getElem_cons_zero, List.setIfInBounds_toArray, List.set_cons_zero, List.set_cons_succ])
    refine wpAnyH_take (i := 3 ) (v := ?_) rfl (by kernel_rfl) (by kernel_rfl) (by kernel_rfl) (fun _ _ _ h => h) (Or.inl ⟨by rfl, ?_⟩) (by assumption) ?_; rotate_left; (· (intro w0 hSw; clear hSw; go_simp); first | done | with_reducible rfl); (try simp only [Act.put, List.getElem_toArray, List.getElem_cons_succ, List.getElem_cons_zero, List.setIfInBounds_toArray, List.set_cons_zero, List.set_cons_succ])
    refine wpAnyH_ready (rs := [1]) (by kernel_rfl) (by simp) ?_
    refine AllReadyH.cons (by simp only [List.getElem?_toArray, List.getElem?_cons_succ, List.getElem?_cons_zero]; rfl) (fun K hK => ?_) AllReadyH.nil
    go_simp
    skip
    refine hK.out _ _ trivial (fun hH1 => ?_)
    clear hK K
    try simp only [List.setIfInBounds_toArray, List.set_cons_zero, List.set_cons_succ]
    refine wpAnyH_take (i := 4 ) (v := ?_) rfl (by kernel_rfl) (by kernel_rfl) (by kernel_rfl) (fun _ _ _ h => h) (Or.inl ⟨by rfl, ?_⟩) (by assumption) ?_; rotate_left; (· (intro w0 hSw; clear hSw; go_simp); first | done | with_reducible rfl); (try simp only [Act.put, List.getElem_toArray, List.getElem_cons_succ, List.getElem_cons_zero, List.setIfInBounds_toArray, List.set_cons_zero, List.set_cons_succ])
    refine wpAnyH_take (i := 5 ) (v := ?_) rfl (by kernel_rfl) (by kernel_rfl) (by kernel_rfl) (fun _ _ _ h => h) (Or.inl ⟨by rfl, ?_⟩) (by assumption) ?_; rotate_left; (· (intro w0 hSw; clear hSw; go_simp); first | done | with_reducible rfl); (try simp only [Act.put, List.getElem_toArray, List.getElem_cons_succ, List.getElem_cons_zero, List.setIfInBounds_toArray, List.set_cons_zero, List.set_cons_succ])
    refine wpAnyH_ready (rs := [6]) (by kernel_rfl) (by simp) ?_
    refine AllReadyH.cons (by simp only [List.getElem?_toArray, List.getElem?_cons_succ, List.getElem?_cons_zero]; rfl) (fun K hK => ?_) AllReadyH.nil
    go_simp
    have HS3 := Lib.hid (HS.out.sett (t2 : Int))
    refine hK.out _ _ trivial (fun hH2 => ?_)
    clear hK K
    try simp only [List.setIfInBounds_toArray, List.set_cons_zero, List.set_cons_succ]
    refine wpAnyH_done (by kernel_rfl) ?_ _
    clear x1 fr HS
    generalize World.setCell V0 _ _ = V1 at HS3 ⊢
    have x0 := HS3.out.kt.cell 0
    have x1 := HS3.out.kt.frozen 0
    have HS2 := Lib.hid (HS3.out.seti (i + 1))
    go_upto_region 4 with fail
    clear HS3 x0 x1
    generalize World.setCell V1 _ _ = V2 at HS2 ⊢
    have x0 := HS2.out.kt.cell 0
    have x1 := HS2.out.kt.cell 1
    have HT := Lib.hid (there_mid (o := 0) HS2.out.kr (by simp))
    have HB := Lib.hid (below_set2 (x := .int .i64 (i + 1)) (y := .int .i64 (t2 : Int)) HS2.out.hb (g := w.heap.size + 1) (by omega))
    have HK := Lib.hid (set2_blk (x := .int .i64 (i + 1)) (y := .int .i64 (t2 : Int)) HS2.out.kr)
    go_wp2_with (refine wpList_store_mid (by rfl) 126 (.tmp 4) (.tmp 17) (by rfl) (w.heap.size + 1) 0 #[.int .i64 (i + 1), .int .i64 (t2 : Int)] (by rfl) (by rfl) HT.out (by kernel_rfl) (by simp [Value.oneCell']) ?_)
    exact bodyPost_ret (results_blk rfl _ rfl HK.out (by kernel_rfl) (by kernel_rfl)) rfl ⟨rfl, HB.out⟩
end Go.Proofs.Ytfpfafijockfnaa