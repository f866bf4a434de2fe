/- Walks: how far off a lead lies with a setting. -/
import Derived.Test.YtfpfafijockfnaaXk
import Derived.Test.YtfpfafijockfnaaSi
import Derived.Test.YtfpfafijockfnaaSp
namespace Go.Proofs.Ytfpfafijockfnaa
open Go.RowKit Go.Shelf

set_option maxHeartbeats 2000000 in
theorem exactly5_any (n : Int) (w : World) : Calls Try.prog 105 #[.int .i64 n] w (Ret (.agg #[.int .i64 n, .int .i64 n]) w) := by
  have hb1 : Below w.heap.size w (w.alloc (.cells #[.int .i64 n, .int .i64 n] 99)) := (Below.refl _ _).alloc (Nat.le_refl _) _
  go_enter Try.func105, Try.ntmps105
  go_wp2_with fail
  exact bodyPost_ret (results_blk rfl _ rfl (blk5 _ _ (by simp) rfl) (by kernel_rfl) (by kernel_rfl)) rfl ⟨rfl, hb1⟩
def aftL (l : Lead) (s : Setg) : Lead := ⟨addS l.side ⟨-2 * s.side, -2 * s.side⟩, addS l.height ⟨-2 * s.height, -2 * s.height⟩⟩
def LeadFar (l : Lead) : Prop := (SpanBd l.side 90000 ∧ l.side.lo ≤ l.side.hi) ∧ SpanBd l.height 90000 ∧ l.height.lo ≤ l.height.hi
theorem aftL_bd {l : Lead} {s : Setg} (hl : LeadFar l) (hs : InSet s) : LeadBd (aftL l s) := by
  obtain ⟨⟨h1, h2⟩, h3, h4⟩ := hl
  obtain ⟨⟨h5, h6⟩, h7, h8⟩ := hs
  unfold LeadBd SpanBd aftL addS
  unfold SpanBd at h1 h3
  dsimp only
  omega
theorem sets4 {W : World} {g : Nat} {x y z u : Value} {t : TypeId} {cs : Array Value} (h : Blk W g t cs) : Blk (W.setCells g 0 [x, y, z, u]) g t ((((cs.setIfInBounds 0 x).setIfInBounds 1 y).setIfInBounds 2 z).setIfInBounds 3 u) := (((h.set_ 0 x).set_ 1 y).set_ 2 z).set_ 3 u
theorem sets4_far {W : World} {g k : Nat} {x y z u : Value} {t : TypeId} {cs : Array Value} (hne : k ≠ g) (h : Blk W k t cs) : Blk (W.setCells g 0 [x, y, z, u]) k t cs := (((h.far (p := ⟨g, 0, none⟩) hne x).far (p := ⟨g, 1, none⟩) hne y).far (p := ⟨g, 2, none⟩) hne z).far (p := ⟨g, 3, none⟩) hne u
theorem sets4_below {B g : Nat} {w W : World} {x y z u : Value} (h : Below B w W) (hg : B ≤ g) : Below B w (W.setCells g 0 [x, y, z, u]) := (((h.setCell (p := ⟨g, 0, none⟩) hg x).setCell (p := ⟨g, 1, none⟩) hg y).setCell (p := ⟨g, 2, none⟩) hg z).setCell (p := ⟨g, 3, none⟩) hg u
theorem there4 {W : World} {g : Nat} {t : TypeId} {a b c d : Value} (h : Blk W g t #[a, b, c, d]) : W.there g 0 4 := fun j hj => by
  rw [h.cell, h.frozen]
  refine ⟨?_, rfl⟩
  match j, hj with
  | 0, _ => rfl
  | 1, _ => rfl
  | 2, _ => rfl
  | 3, _ => rfl
/-- What lies in the boxes. -/
structure AfS (w : World) (l : Lead) (s : Setg) (W : World) : Prop where
  hb : Below w.heap.size w W
  k2 : Blk W w.heap.size 109 #[.int .i64 l.side.lo, .int .i64 l.side.hi, .int .i64 l.height.lo, .int .i64 l.height.hi]
  k3 : Blk W (w.heap.size + 1) 102 #[.int .i64 s.side, .int .i64 s.height]
  k4 : Blk W (w.heap.size + 1 + 1) 109 #[.int .i64 0, .int .i64 0, .int .i64 0, .int .i64 0]
theorem AfS.call {w : World} {l : Lead} {s : Setg} {W W' : World} (h : AfS w l s W) (hb : Below W.heap.size W W') : AfS w l s W' :=
  ⟨h.hb.trans (hb.mono h.hb.size), h.k2.below hb h.k2.lt, h.k3.below hb h.k3.lt, h.k4.below hb h.k4.lt⟩
set_option maxRecDepth 100000 in
set_option maxHeartbeats 2000000 in
theorem aft5_any (l : Lead) (s : Setg) (w : World) (hl : LeadFar l) (hs : InSet s) : Calls Try.prog 85 #[.agg #[.int .i64 l.side.lo, .int .i64 l.side.hi, .int .i64 l.height.lo, .int .i64 l.height.hi], .agg #[.int .i64 s.side, .int .i64 s.height]] w (Ret (.agg #[.int .i64 (aftL l s).side.lo, .int .i64 (aftL l s).side.hi, .int .i64 (aftL l s).height.lo, .int .i64 (aftL l s).height.hi]) w) := by
  have HS : Hid (AfS w l s (((w.alloc (.cells #[.int .i64 l.side.lo, .int .i64 l.side.hi, .int .i64 l.height.lo, .int .i64 l.height.hi] 109)).alloc (.cells #[.int .i64 s.side, .int .i64 s.height] 102)).alloc (.cells #[.int .i64 0, .int .i64 0, .int .i64 0, .int .i64 0] 109))) := Lib.hid ⟨by repeat (first | exact Below.refl _ _ | assumption | refine Below.drew ?_ | refine Below.alloc ?_ (by first | omega | (simp only [World.size_alloc]; omega) | simp) _ | refine Below.setCell ?_ (by first | omega | (simp only [World.size_alloc]; omega) | simp) _), ((Blk.new _ _ _).alloc _).alloc _, (blk5 _ _ (by simp) rfl : Blk ((w.alloc (.cells #[.int .i64 l.side.lo, .int .i64 l.side.hi, .int .i64 l.height.lo, .int .i64 l.height.hi] 109)).alloc (.cells #[.int .i64 s.side, .int .i64 s.height] 102)) (w.heap.size + 1) _ _).alloc _, blk5 _ _ (by simp) rfl⟩
  obtain ⟨⟨a1, a2⟩, a3, a4⟩ := hl
  obtain ⟨⟨b1, b2⟩, b3, b4⟩ := hs
  unfold SpanBd at a1 a3
  have w1 : IntKind.i64.wrap (-2 * s.side) = -2 * s.side := IntWalk.i64_in _ ⟨by omega, by omega⟩
  have w2 : IntKind.i64.wrap (-2 * s.height) = -2 * s.height := IntWalk.i64_in _ ⟨by omega, by omega⟩
  have HU1 : Hid (∀ (W : World) (g : Nat), Blk W g 99 #[.int .i64 l.side.lo, .int .i64 l.side.hi, .int .i64 (-2 * s.side), .int .i64 (-2 * s.side)] → Calls Try.prog 80 #[.slice (some ⟨g, 0, none⟩) 2 2] W (Ret (.agg #[.int .i64 (aftL l s).side.lo, .int .i64 (aftL l s).side.hi]) W)) := Lib.hid fun W g h => by
    have h9 := sum5_any W g 0 2 [l.side, ⟨-2 * s.side, -2 * s.side⟩] h.lt (two_spans h) (by simp) (by
      intro x hx
      simp only [List.mem_cons, List.not_mem_nil, or_false] at hx
      rcases hx with rfl | rfl <;> (unfold Far; (try dsimp only); omega))
    have e : sumS [l.side, ⟨-2 * s.side, -2 * s.side⟩] = (aftL l s).side := by simp [sumS, addS, aftL]
    rw [e] at h9
    exact h9
  have HU2 : Hid (∀ (W : World) (g : Nat), Blk W g 99 #[.int .i64 l.height.lo, .int .i64 l.height.hi, .int .i64 (-2 * s.height), .int .i64 (-2 * s.height)] → Calls Try.prog 80 #[.slice (some ⟨g, 0, none⟩) 2 2] W (Ret (.agg #[.int .i64 (aftL l s).height.lo, .int .i64 (aftL l s).height.hi]) W)) := Lib.hid fun W g h => by
    have h9 := sum5_any W g 0 2 [l.height, ⟨-2 * s.height, -2 * s.height⟩] h.lt (two_spans h) (by simp) (by
      intro x hx
      simp only [List.mem_cons, List.not_mem_nil, or_false] at hx
      rcases hx with rfl | rfl <;> (unfold Far; (try dsimp only); omega))
    have e : sumS [l.height, ⟨-2 * s.height, -2 * s.height⟩] = (aftL l s).height := by simp [sumS, addS, aftL]
    rw [e] at h9
    exact h9
  generalize (aftL l s).side.lo = r0 at *
  generalize (aftL l s).side.hi = r1 at *
  generalize (aftL l s).height.lo = r2 at *
  generalize (aftL l s).height.hi = r3 at *
  clear a1 a2 a3 a4 b1 b2 b3 b4
  go_enter Try.func85, Try.ntmps85
  go_wp2_with fail
  generalize World.alloc (World.alloc (World.alloc w _) _) _ = V at HS ⊢
  replace HS := Lib.hid (HS.out.call (Below.refl _ _).drew)
  refine wp_region_held_drew (S := fun W => Blk W w.heap.size 109 #[.int .i64 l.side.lo, .int .i64 l.side.hi, .int .i64 l.height.lo, .int .i64 l.height.hi] ∧ Blk W (w.heap.size + 1) 102 #[.int .i64 s.side, .int .i64 s.height]) (by kernel_rfl) ⟨HS.out.k2, HS.out.k3⟩ (fun hH0 => ?_)
  generalize World.drew _ = V0 at *
  simp only [List.size_toArray, List.length_cons, List.length_nil, Nat.reduceAdd, Array.replicate_succ, Array.replicate_zero, List.push_toArray, List.nil_append, List.cons_append]
  refine wpAnyH_take (i := 0 ) (v := ?_) rfl (by kernel_rfl) (by kernel_rfl) (by kernel_rfl) (fun _ _ _ h => h) (Or.inl ⟨by rfl, ?_⟩) (by assumption) ?_; rotate_left; (· (intro w0 hSw; obtain ⟨k2, k3⟩ := hSw; have s0 := k2.cell 0; have s1 := k2.cell 1; have s2 := k2.cell 2; have s3 := k2.cell 3; have t0 := k3.cell 0; have t1 := k3.cell 1; clear k2 k3; go_simp); first | done | with_reducible rfl); (try simp only [Act.put, List.getElem_toArray, List.getElem_cons_zero, List.setIfInBounds_toArray, List.set_cons_zero, List.set_cons_succ])
  refine wpAnyH_take (i := 1 ) (v := ?_) rfl (by kernel_rfl) (by kernel_rfl) (by kernel_rfl) (fun _ _ _ h => h) (Or.inl ⟨by rfl, ?_⟩) (by assumption) ?_; rotate_left; (· (intro w0 hSw; obtain ⟨k2, k3⟩ := hSw; have s0 := k2.cell 0; have s1 := k2.cell 1; have s2 := k2.cell 2; have s3 := k2.cell 3; have t0 := k3.cell 0; have t1 := k3.cell 1; clear k2 k3; go_simp); first | done | with_reducible rfl); (try simp only [Act.put, List.getElem_toArray, List.getElem_cons_succ, List.getElem_cons_zero, List.setIfInBounds_toArray, List.set_cons_zero, List.set_cons_succ])
  refine wpAnyH_take (i := 2 ) (v := ?_) rfl (by kernel_rfl) (by kernel_rfl) (by kernel_rfl) (fun _ _ _ h => h) (Or.inl ⟨by rfl, ?_⟩) (by assumption) ?_; rotate_left; (· (intro w0 hSw; obtain ⟨k2, k3⟩ := hSw; have s0 := k2.cell 0; have s1 := k2.cell 1; have s2 := k2.cell 2; have s3 := k2.cell 3; have t0 := k3.cell 0; have t1 := k3.cell 1; clear k2 k3; go_simp); first | done | with_reducible rfl); (try simp only [Act.put, List.getElem_toArray, List.getElem_cons_succ, List.getElem_cons_zero, List.setIfInBounds_toArray, List.set_cons_zero, List.set_cons_succ])
  refine wpAnyH_take (i := 3 ) (v := ?_) rfl (by kernel_rfl) (by kernel_rfl) (by kernel_rfl) (fun _ _ _ h => h) (Or.inl ⟨by rfl, ?_⟩) (by assumption) ?_; rotate_left; (· (intro w0 hSw; obtain ⟨k2, k3⟩ := hSw; have s0 := k2.cell 0; have s1 := k2.cell 1; have s2 := k2.cell 2; have s3 := k2.cell 3; have t0 := k3.cell 0; have t1 := k3.cell 1; clear k2 k3; go_simp); first | done | with_reducible rfl); (try simp only [Act.put, List.getElem_toArray, List.getElem_cons_succ, List.getElem_cons_zero, List.setIfInBounds_toArray, List.set_cons_zero, List.set_cons_succ])
  refine wpAnyH_take (i := 4 ) (v := ?_) rfl (by kernel_rfl) (by kernel_rfl) (by kernel_rfl) (fun _ _ _ h => h) (Or.inl ⟨by rfl, ?_⟩) (by assumption) ?_; rotate_left; (· (intro w0 hSw; obtain ⟨k2, k3⟩ := hSw; have s0 := k2.cell 0; have s1 := k2.cell 1; have s2 := k2.cell 2; have s3 := k2.cell 3; have t0 := k3.cell 0; have t1 := k3.cell 1; clear k2 k3; go_simp); first | done | with_reducible rfl); (try simp only [Act.put, List.getElem_toArray, List.getElem_cons_succ, List.getElem_cons_zero, List.setIfInBounds_toArray, List.set_cons_zero, List.set_cons_succ])
  refine wpAnyH_take (i := 8 ) (v := ?_) rfl (by kernel_rfl) (by kernel_rfl) (by kernel_rfl) (fun _ _ _ h => h) (Or.inl ⟨by rfl, ?_⟩) (by assumption) ?_; rotate_left; (· (intro w0 hSw; obtain ⟨k2, k3⟩ := hSw; have s0 := k2.cell 0; have s1 := k2.cell 1; have s2 := k2.cell 2; have s3 := k2.cell 3; have t0 := k3.cell 0; have t1 := k3.cell 1; clear k2 k3; go_simp); first | done | with_reducible rfl); (try simp only [Act.put, List.getElem_toArray, List.getElem_cons_succ, List.getElem_cons_zero, List.setIfInBounds_toArray, List.set_cons_zero, List.set_cons_succ])
  refine wpAnyH_take (i := 9 ) (v := ?_) rfl (by kernel_rfl) (by kernel_rfl) (by kernel_rfl) (fun _ _ _ h => h) (Or.inl ⟨by rfl, ?_⟩) (by assumption) ?_; rotate_left; (· (intro w0 hSw; obtain ⟨k2, k3⟩ := hSw; have s0 := k2.cell 0; have s1 := k2.cell 1; have s2 := k2.cell 2; have s3 := k2.cell 3; have t0 := k3.cell 0; have t1 := k3.cell 1; clear k2 k3; go_simp); first | done | with_reducible rfl); (try simp only [Act.put, List.getElem_toArray, List.getElem_cons_succ, List.getElem_cons_zero, List.setIfInBounds_toArray, List.set_cons_zero, List.set_cons_succ])
  refine wpAnyH_take (i := 10 ) (v := ?_) rfl (by kernel_rfl) (by kernel_rfl) (by kernel_rfl) (fun _ _ _ h => h) (Or.inl ⟨by rfl, ?_⟩) (by assumption) ?_; rotate_left; (· (intro w0 hSw; obtain ⟨k2, k3⟩ := hSw; have s0 := k2.cell 0; have s1 := k2.cell 1; have s2 := k2.cell 2; have s3 := k2.cell 3; have t0 := k3.cell 0; have t1 := k3.cell 1; clear k2 k3; go_simp); first | done | with_reducible rfl); (try simp only [Act.put, List.getElem_toArray, List.getElem_cons_succ, List.getElem_cons_zero, List.setIfInBounds_toArray, List.set_cons_zero, List.set_cons_succ])
  refine wpAnyH_take (i := 11 ) (v := ?_) rfl (by kernel_rfl) (by kernel_rfl) (by kernel_rfl) (fun _ _ _ h => h) (Or.inl ⟨by rfl, ?_⟩) (by assumption) ?_; rotate_left; (· (intro w0 hSw; obtain ⟨k2, k3⟩ := hSw; have s0 := k2.cell 0; have s1 := k2.cell 1; have s2 := k2.cell 2; have s3 := k2.cell 3; have t0 := k3.cell 0; have t1 := k3.cell 1; clear k2 k3; go_simp); first | done | with_reducible rfl); (try simp only [Act.put, List.getElem_toArray, List.getElem_cons_succ, List.getElem_cons_zero, List.setIfInBounds_toArray, List.set_cons_zero, List.set_cons_succ])
  refine wpAnyH_take (i := 12 ) (v := ?_) rfl (by kernel_rfl) (by kernel_rfl) (by kernel_rfl) (fun _ _ _ h => h) (Or.inl ⟨by rfl, ?_⟩) (by assumption) ?_; rotate_left; (· (intro w0 hSw; obtain ⟨k2, k3⟩ := hSw; have s0 := k2.cell 0; have s1 := k2.cell 1; have s2 := k2.cell 2; have s3 := k2.cell 3; have t0 := k3.cell 0; have t1 := k3.cell 1; clear k2 k3; go_simp); first | done | with_reducible rfl); (try simp only [Act.put, List.getElem_toArray, List.getElem_cons_succ, List.getElem_cons_zero, List.setIfInBounds_toArray, List.set_cons_zero, List.set_cons_succ])
  refine wpAnyH_ready (rs := [5]) (by kernel_rfl) (by simp) ?_
  refine AllReadyH.cons (by simp only [List.getElem?_toArray, List.getElem?_cons_succ, List.getElem?_cons_zero]; rfl) (fun K hK => ?_) AllReadyH.nil
  go_simp
  refine (exactly5_any _ _).mono ?_
  rintro e V1 ⟨rfl, hb⟩
  replace HS := Lib.hid (HS.out.call hb)
  clear hb
  refine hK.out _ _ ⟨HS.out.k2, HS.out.k3⟩ (fun hH1 => ?_)
  clear hK K
  try simp only [List.setIfInBounds_toArray, List.set_cons_zero, List.set_cons_succ]
  refine wpAnyH_ready (rs := [6]) (by kernel_rfl) (by simp) ?_
  refine AllReadyH.cons (by simp only [List.getElem?_toArray, List.getElem?_cons_succ, List.getElem?_cons_zero]; rfl) (fun K hK => ?_) AllReadyH.nil
  go_simp
  have hb : Below V1.heap.size V1 (V1.alloc (.cells #[.int .i64 l.side.lo, .int .i64 l.side.hi, .int .i64 (-2 * s.side), .int .i64 (-2 * s.side)] 99)) := (Below.refl _ _).alloc (Nat.le_refl _) _
  replace HS := Lib.hid (HS.out.call hb)
  have HK := Lib.hid (Blk.new V1 99 #[.int .i64 l.side.lo, .int .i64 l.side.hi, .int .i64 (-2 * s.side), .int .i64 (-2 * s.side)])
  clear hb
  refine hK.out _ _ ⟨HS.out.k2, HS.out.k3⟩ (fun hH2 => ?_)
  clear hK K
  try simp only [List.setIfInBounds_toArray, List.set_cons_zero, List.set_cons_succ]
  refine wpAnyH_ready (rs := [7]) (by kernel_rfl) (by simp) ?_
  refine AllReadyH.cons (by simp only [List.getElem?_toArray, List.getElem?_cons_succ, List.getElem?_cons_zero]; rfl) (fun K hK => ?_) AllReadyH.nil
  go_simp
  refine (HU1.out _ _ HK.out).mono ?_
  rintro e V3 ⟨rfl, hb⟩
  replace HS := Lib.hid (HS.out.call hb)
  clear hb HK
  refine hK.out _ _ ⟨HS.out.k2, HS.out.k3⟩ (fun hH3 => ?_)
  clear hK K
  try simp only [List.setIfInBounds_toArray, List.set_cons_zero, List.set_cons_succ]
  refine wpAnyH_ready (rs := [13]) (by kernel_rfl) (by simp) ?_
  refine AllReadyH.cons (by simp only [List.getElem?_toArray, List.getElem?_cons_succ, List.getElem?_cons_zero]; rfl) (fun K hK => ?_) AllReadyH.nil
  go_simp
  refine (exactly5_any _ _).mono ?_
  rintro e V4 ⟨rfl, hb⟩
  replace HS := Lib.hid (HS.out.call hb)
  clear hb
  refine hK.out _ _ ⟨HS.out.k2, HS.out.k3⟩ (fun hH4 => ?_)
  clear hK K
  try simp only [List.setIfInBounds_toArray, List.set_cons_zero, List.set_cons_succ]
  refine wpAnyH_ready (rs := [14]) (by kernel_rfl) (by simp) ?_
  refine AllReadyH.cons (by simp only [List.getElem?_toArray, List.getElem?_cons_succ, List.getElem?_cons_zero]; rfl) (fun K hK => ?_) AllReadyH.nil
  go_simp
  have hb : Below V4.heap.size V4 (V4.alloc (.cells #[.int .i64 l.height.lo, .int .i64 l.height.hi, .int .i64 (-2 * s.height), .int .i64 (-2 * s.height)] 99)) := (Below.refl _ _).alloc (Nat.le_refl _) _
  replace HS := Lib.hid (HS.out.call hb)
  have HK := Lib.hid (Blk.new V4 99 #[.int .i64 l.height.lo, .int .i64 l.height.hi, .int .i64 (-2 * s.height), .int .i64 (-2 * s.height)])
  clear hb
  refine hK.out _ _ ⟨HS.out.k2, HS.out.k3⟩ (fun hH5 => ?_)
  clear hK K
  try simp only [List.setIfInBounds_toArray, List.set_cons_zero, List.set_cons_succ]
  refine wpAnyH_ready (rs := [15]) (by kernel_rfl) (by simp) ?_
  refine AllReadyH.cons (by simp only [List.getElem?_toArray, List.getElem?_cons_succ, List.getElem?_cons_zero]; rfl) (fun K hK => ?_) AllReadyH.nil
  go_simp
  refine (HU2.out _ _ HK.out).mono ?_
  rintro e V6 ⟨rfl, hb⟩
  replace HS := Lib.hid (HS.out.call hb)
  clear hb HK
  refine hK.out _ _ ⟨HS.out.k2, HS.out.k3⟩ (fun hH6 => ?_)
  clear hK K
  try simp only [List.setIfInBounds_toArray, List.set_cons_zero, List.set_cons_succ]
  refine wpAnyH_take (i := 16 ) (v := ?_) rfl (by kernel_rfl) (by kernel_rfl) (by kernel_rfl) (fun _ _ _ h => h) (Or.inl ⟨by rfl, ?_⟩) (by assumption) ?_; rotate_left; (· (intro w0 hSw; obtain ⟨k2, k3⟩ := hSw; have s0 := k2.cell 0; have s1 := k2.cell 1; have s2 := k2.cell 2; have s3 := k2.cell 3; have t0 := k3.cell 0; have t1 := k3.cell 1; clear k2 k3; go_simp); first | done | with_reducible rfl); (try simp only [Act.put, List.getElem_toArray, List.getElem_cons_succ, List.getElem_cons_zero, List.setIfInBounds_toArray, List.set_cons_zero, List.set_cons_succ])
  refine wpAnyH_ready (rs := [17]) (by kernel_rfl) (by simp) ?_
  refine AllReadyH.cons (by simp only [List.getElem?_toArray, List.getElem?_cons_succ, List.getElem?_cons_zero]; rfl) (fun K hK => ?_) AllReadyH.nil
  rw [if_pos (by rfl)]
  have c0 := HS.out.k4.cell 0
  have c1 := HS.out.k4.cell 1
  have c2 := HS.out.k4.cell 2
  have c3 := HS.out.k4.cell 3
  have f0 := HS.out.k4.frozen 0
  have f1 := HS.out.k4.frozen 1
  have f2 := HS.out.k4.frozen 2
  have f3 := HS.out.k4.frozen 3
  have hsz := HS.out.k4.lt
  refine wp_store_mid 109 (.tmp 4) (.tmp 21) (by rfl) (w.heap.size + 1 + 1) 0 #[.int .i64 r0, .int .i64 r1, .int .i64 r2, .int .i64 r3] (by rfl) (by rfl) (there4 HS.out.k4) (by kernel_rfl) (by simp [Value.oneCell']) ?_
  have HK4 := Lib.hid (sets4 (x := .int .i64 r0) (y := .int .i64 r1) (z := .int .i64 r2) (u := .int .i64 r3) HS.out.k4)
  have HBL := Lib.hid (sets4_below (x := .int .i64 r0) (y := .int .i64 r1) (z := .int .i64 r2) (u := .int .i64 r3) HS.out.hb (g := w.heap.size + 1 + 1) (by omega))
  clear c0 c1 c2 c3 f0 f1 f2 f3 hsz
  refine hK.out _ _ ⟨sets4_far (by omega) HS.out.k2, sets4_far (by omega) HS.out.k3⟩ (fun hH7 => ?_)
  clear hK K
  try simp only [List.setIfInBounds_toArray, List.set_cons_zero, List.set_cons_succ]
  refine wpAnyH_done (by kernel_rfl) ?_ _
  go_wp2_with fail
  exact bodyPost_ret (results_blk rfl _ rfl HK4.out (by kernel_rfl) (by kernel_rfl)) rfl ⟨rfl, HBL.out⟩
end Go.Proofs.Ytfpfafijockfnaa