/- Walk: a rest with one more die before it. -/
import Derived.Test.YtdadgljllnkppaaCc
import Derived.Test.YtdadgljllnkppaaIt
namespace Go.Proofs.Ytdadgljllnkppaa
open Go.RowKit Go.Shelf

theorem plan_far {W : World} {g n c : Nat} {l : List Int} (h : PlanAt W (.slice (some ⟨g, 0, none⟩) n c) l) {p : Addr} (hp : g ≠ p.block) (u : Value) : PlanAt (W.setCell p u) (.slice (some ⟨g, 0, none⟩) n c) l := by
  obtain ⟨h1, ⟨h2, -⟩ | ⟨g', cap, cur, h2, h3, h4, h5⟩⟩ := h
  · cases h2
  · cases h2
    exact ⟨h1, .inr ⟨g, _, cur, rfl, h3, (Below.heap_setCell W p u g hp).trans h4, h5⟩⟩
def RetRest (r : Rst) (w : World) (e : Ending) (w' : World) : Prop :=
  ∃ g cap, e = .returned (.agg #[.slice (some ⟨g, 0, none⟩) r.plan.length cap, .int .i64 r.cost, .bool r.good]) ∧ PlanAt w' (.slice (some ⟨g, 0, none⟩) r.plan.length cap) r.plan ∧ w.heap.size ≤ g ∧ Below w.heap.size w w'
def BfS (w : World) (A : Option Addr) (n c : Nat) (y : Int) (g : Bool) (W : World) : Prop := Below w.heap.size w W ∧ W.cell? ⟨w.heap.size, 0, none⟩ = some (.slice A n c) ∧ W.cell? ⟨w.heap.size, 1, none⟩ = some (.int .i64 y) ∧ W.cell? ⟨w.heap.size, 2, none⟩ = some (.bool g) ∧ w.heap.size + 1 < W.heap.size
theorem BfS.drew {w : World} {A : Option Addr} {n c : Nat} {y : Int} {g : Bool} {W : World} (h : BfS w A n c y g W) : BfS w A n c y g W.drew := ⟨h.1.drew, h.2⟩
theorem BfS.call {w : World} {A : Option Addr} {n c : Nat} {y : Int} {g : Bool} {W W' : World} (h : BfS w A n c y g W) (hb : Below W.heap.size W W') : BfS w A n c y g W' := by
  obtain ⟨h1, h2, h3, h4, h5⟩ := h
  have := hb.size
  exact ⟨h1.trans (hb.mono h1.size), (hb.cell (p := ⟨_, _, none⟩) (show w.heap.size < W.heap.size by omega)).trans h2, (hb.cell (p := ⟨_, _, none⟩) (show w.heap.size < W.heap.size by omega)).trans h3, (hb.cell (p := ⟨_, _, none⟩) (show w.heap.size < W.heap.size by omega)).trans h4, by omega⟩
theorem BfS.set {w : World} {A : Option Addr} {n c : Nat} {y : Int} {g : Bool} {W : World} (h : BfS w A n c y g W) (i : Nat) (u : Value) : BfS w A n c y g (W.setCell ⟨w.heap.size + 1, i, none⟩ u) := by
  obtain ⟨h1, h2, h3, h4, h5⟩ := h
  have hk : (W.setCell ⟨w.heap.size + 1, i, none⟩ u).heap[w.heap.size]? = W.heap[w.heap.size]? := Below.heap_setCell W ⟨w.heap.size + 1, i, none⟩ u _ (by simp)
  exact ⟨h1.setCell (p := ⟨w.heap.size + 1, i, none⟩) (by simp) _, (World.cell?_of_block (a := ⟨w.heap.size, 0, none⟩) hk).trans h2, (World.cell?_of_block (a := ⟨w.heap.size, 1, none⟩) hk).trans h3, (World.cell?_of_block (a := ⟨w.heap.size, 2, none⟩) hk).trans h4, by simpa [World.setCell] using h5⟩
theorem below1' (W : World) (o : Obj) : Below W.heap.size W (W.alloc o).drew := ((Below.refl _ W).alloc (Nat.le_refl _) _).drew
theorem below2' (W : World) (o o' : Obj) : Below W.heap.size W ((W.alloc o).alloc o').drew := (((Below.refl _ W).alloc (Nat.le_refl _) _).alloc (by simp) _).drew
set_option maxRecDepth 100000 in
set_option maxHeartbeats 2000000 in
theorem before_any (w : World) (A : Option Addr) (c : Nat) (l : List Int) (d x y : Int) (g : Bool) (hv : PlanAt w (.slice A l.length c) l) (hl : l.length ≤ 50) (x0 : 0 ≤ x) (x1 : x ≤ 1000000) (y0 : 0 ≤ y) (y1 : y ≤ 1000000) :
    Calls Try.prog 105 #[.agg #[.slice A l.length c, .int .i64 y, .bool g], .int .i64 d, .int .i64 x] w (RetRest ⟨d :: l, x + y, g⟩ w) := by
  have HV := Lib.hid hv
  have HL := Lib.hid hl
  have hw : IntKind.i64.wrap (x + y) = x + y := wr (by omega) (by omega)
  clear hv hl
  go_enter Try.func105, Try.ntmps105
  go_wp2_with fail
  have hb1 := blk_at (W := w.alloc (.cells #[.slice A l.length c, .int .i64 y, .bool g] 122)) (n := w.heap.size + 1) 122 #[.slice none 0 0, .int .i64 0, .bool false] (by simp)
  have h0 : BfS w A l.length c y g ((w.alloc (.cells #[.slice A l.length c, .int .i64 y, .bool g] 122)).alloc (.cells #[.slice none 0 0, .int .i64 0, .bool false] 122)) := ⟨by repeat (first | exact Below.refl _ _ | assumption | refine Below.drew ?_ | refine Below.alloc ?_ (by first | omega | (simp only [World.size_alloc]; omega) | simp) _ | refine Below.setCell ?_ (by first | omega | (simp only [World.size_alloc]; omega) | simp) _), by go_simp, by go_simp, by go_simp, by simp⟩
  generalize World.alloc (World.alloc w _) _ = W0 at h0 hb1 ⊢
  have H0 := Lib.hid h0
  have HB1 := Lib.hid hb1
  clear hb1
  have hlt := h0.2.2.2.2
  have HC : Hid (Calls Try.prog 137 #[.slice (some ⟨W0.heap.size + 1, 0, none⟩) 2 2] ((W0.alloc (.cells #[.int .i64 d] 3)).alloc (.cells #[.slice (some ⟨W0.heap.size, 0, none⟩) 1 1, .slice A l.length c] 28)).drew (RetPlan (d :: l) ((W0.alloc (.cells #[.int .i64 d] 3)).alloc (.cells #[.slice (some ⟨W0.heap.size, 0, none⟩) 1 1, .slice A l.length c] 28)).drew)) := by
    refine Lib.hid (concat_any _ (W0.heap.size + 1) W0.heap.size (.slice A l.length c) d l (by simp) (by go_simp) (by go_simp) (by simp; omega) (by go_simp) (HV.out.below ?_) HL.out)
    exact ((h0.1.alloc h0.1.size _).alloc (by simp only [World.size_alloc]; omega) _).drew
  unfold BfS at h0
  go_region_held3 (fun W => Below w.heap.size w W ∧ W.cell? ⟨w.heap.size, 0, none⟩ = some (.slice A l.length c) ∧ W.cell? ⟨w.heap.size, 1, none⟩ = some (.int .i64 y) ∧ W.cell? ⟨w.heap.size, 2, none⟩ = some (.bool g) ∧ w.heap.size + 1 < W.heap.size)
    (first | exact H0.out.drew | exact H0.out.call hbo | exact (((H0.out.call hbo).set 0 _).set 1 _).set 2 _ | exact H0.out.call (below1' W0 _) | exact H0.out.call (below2' W0 _ _) | fail "keep")
    (first
      | (go_at_call 137; (with_reducible refine HC.out.mono ?_); rintro e e' ⟨g2, cap2, rfl, hge, hp, hb'⟩; have hbo : Below W0.heap.size W0 e' := ((((Below.refl _ W0).alloc (Nat.le_refl _) _).alloc (by simp) _).drew).trans (hb'.mono (by simp only [World.size_drew, World.size_alloc]; omega)); have HPL := Lib.hid hp; have hge2 : W0.heap.size ≤ g2 := (by simp only [World.size_drew, World.size_alloc] at hge; omega); clear hp hge hb'; have z0 := (HB1.out.below hbo HB1.out.lt).cell 0; have z1 := (HB1.out.below hbo HB1.out.lt).cell 1; have z2 := (HB1.out.below hbo HB1.out.lt).cell 2; have f0 := (HB1.out.below hbo HB1.out.lt).frozen 0; have f1 := (HB1.out.below hbo HB1.out.lt).frozen 1; have f2 := (HB1.out.below hbo HB1.out.lt).frozen 2)
      | fail "no arm")
  go_wp2
  have hB : Blk e' (w.heap.size + 1) 122 #[.slice none 0 0, .int .i64 0, .bool false] := HB1.out.below hbo HB1.out.lt
  have hP := ((plan_far HPL.out (p := ⟨w.heap.size + 1, 0, none⟩) (by simp only; omega) (.slice (some ⟨g2, 0, none⟩) (l.length + 1) cap2)) |> fun h => plan_far h (p := ⟨w.heap.size + 1, 1, none⟩) (by simp only; omega) (.int .i64 (x + y))) |> fun h => plan_far h (p := ⟨w.heap.size + 1, 2, none⟩) (by simp only; omega) (.bool g)
  have hs := (H0.out.call hbo).1
  have hle : w.heap.size ≤ g2 := by omega
  exact bodyPost_ret (results_blk rfl _ rfl (((hB.set_ 0 _).set_ 1 _).set_ 2 _) (by kernel_rfl) (by kernel_rfl)) rfl
    ⟨g2, cap2, rfl, hP, hle, Below.setCell (p := ⟨_, 2, none⟩) (Below.setCell (p := ⟨_, 1, none⟩) (Below.setCell (p := ⟨_, 0, none⟩) hs (by simp) _) (by simp) _) (by simp) _⟩
end Go.Proofs.Ytdadgljllnkppaa
