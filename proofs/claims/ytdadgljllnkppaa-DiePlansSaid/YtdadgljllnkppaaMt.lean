/- Walks: how wide leads are, and a die on the press. -/
import Derived.Test.YtdadgljllnkppaaCm
namespace Go.Proofs.Ytdadgljllnkppaa
open Go.RowKit Go.Shelf

/-- What a function of widths has captured: a die, its wear, and what it shrinks. -/
structure WideAt (w : World) (B q r s : Nat) (wide wear shrink : Int) : Prop where
  c0 : w.cell? ⟨q, 0, none⟩ = some (.int .i64 wide)
  c1 : w.cell? ⟨r, 0, none⟩ = some (.int .i64 wear)
  c2 : w.cell? ⟨s, 0, none⟩ = some (.int .i64 shrink)
  l0 : q < B
  l1 : r < B
  l2 : s < B
theorem WideAt.below {w w' : World} {B q r s : Nat} {wide wear shrink : Int} (h : WideAt w B q r s wide wear shrink) (hb : Below B w w') : WideAt w' B q r s wide wear shrink :=
  ⟨(hb.cell (p := ⟨q, _, none⟩) h.l0).trans h.c0, (hb.cell (p := ⟨r, _, none⟩) h.l1).trans h.c1, (hb.cell (p := ⟨s, _, none⟩) h.l2).trans h.c2, h.l0, h.l1, h.l2⟩
theorem WideAt.on {w w' : World} {B q r s : Nat} {wide wear shrink : Int} (h : WideAt w B q r s wide wear shrink) (hb : Below w.heap.size w w') (hB : B ≤ w.heap.size) : WideAt w' w'.heap.size q r s wide wear shrink := by
  obtain ⟨a, b, c, d, e, f⟩ := h.below (hb.mono hB)
  have := hb.size
  exact ⟨a, b, c, by omega, by omega, by omega⟩
theorem WideAt.two {w : World} {q r s : Nat} {wide wear shrink : Int} (h : WideAt w w.heap.size q r s wide wear shrink) (n i : Nat) (u v : Value) (h0 : n ≠ q) (h1 : n ≠ r) (h2 : n ≠ s) :
    WideAt ((w.setCell ⟨n, i, none⟩ u).setCell ⟨n, i + 1, none⟩ v) ((w.setCell ⟨n, i, none⟩ u).setCell ⟨n, i + 1, none⟩ v).heap.size q r s wide wear shrink := by
  obtain ⟨a, b, c, d, e, f⟩ := h
  have hs : ((w.setCell ⟨n, i, none⟩ u).setCell ⟨n, i + 1, none⟩ v).heap.size = w.heap.size := by simp [World.setCell]
  have hk : ∀ k, k ≠ n → ((w.setCell ⟨n, i, none⟩ u).setCell ⟨n, i + 1, none⟩ v).cell? ⟨k, 0, none⟩ = w.cell? ⟨k, 0, none⟩ := fun k hk =>
    World.cell?_of_block (w := w) (a := ⟨k, 0, none⟩) ((Below.heap_setCell _ ⟨n, i + 1, none⟩ v k hk).trans (Below.heap_setCell w ⟨n, i, none⟩ u k hk))
  rw [hs]
  exact ⟨(hk q (Ne.symm h0)).trans a, (hk r (Ne.symm h1)).trans b, (hk s (Ne.symm h2)).trans c, d, e, f⟩
theorem WideAt.row {w : World} {q r s : Nat} {wide wear shrink : Int} (h : WideAt w w.heap.size q r s wide wear shrink) (n : Nat) (cs : Array Value) (h0 : n ≠ q) (h1 : n ≠ r) (h2 : n ≠ s) : WideAt (w.setRow n cs) (w.setRow n cs).heap.size q r s wide wear shrink := by
  obtain ⟨a, b, c, d, e, f⟩ := h
  have hk : ∀ k, k ≠ n → (w.setRow n cs).cell? ⟨k, 0, none⟩ = w.cell? ⟨k, 0, none⟩ := fun k hk => World.cell?_of_block (w := w) (a := ⟨k, 0, none⟩) (setRow_other w n k cs hk)
  have hs : (w.setRow n cs).heap.size = w.heap.size := by simp
  rw [hs]
  exact ⟨(hk q (Ne.symm h0)).trans a, (hk r (Ne.symm h1)).trans b, (hk s (Ne.symm h2)).trans c, d, e, f⟩
set_option maxHeartbeats 400000 in
theorem width_any (w : World) (q r s : Nat) (wide wear shrink u : Int) (h : WideAt w w.heap.size q r s wide wear shrink) (a0 : 1 ≤ wide) (a1 : wide ≤ 20000) (b0 : 0 ≤ wear) (b1 : wear ≤ 200) (g0 : 0 ≤ shrink) (g1 : shrink ≤ 300) (d0 : 0 ≤ u) (d1 : u ≤ 9000) :
    Calls Try.prog 134 #[.int .i64 u, .pointer (some ⟨q, 0, none⟩), .pointer (some ⟨r, 0, none⟩), .pointer (some ⟨s, 0, none⟩)] w fun e w' => e = .returned (.int .i64 (nano wide wear shrink u)) ∧ w = w' := by
  obtain ⟨⟨e0, e1⟩, e2, e3⟩ := nano_bd a0 a1 b0 b1 g0 g1 d0 d1
  unfold nano at e2 e3
  obtain ⟨c0, c1, c2, l0, l1, l2⟩ := h
  go_enter Try.func134, Try.ntmps134
  go_wp2
  go_ret
  exact ⟨rfl, rfl⟩
def RetWide (wide wear shrink : Int) (w : World) (e : Ending) (w' : World) : Prop :=
  ∃ q r s : Nat, e = .returned (.func (.func 134) #[] #[.pointer (some ⟨q, 0, none⟩), .pointer (some ⟨r, 0, none⟩), .pointer (some ⟨s, 0, none⟩)]) ∧ WideAt w' w'.heap.size q r s wide wear shrink ∧ (w.heap.size ≤ q ∧ w.heap.size ≤ r ∧ w.heap.size ≤ s) ∧ Below w.heap.size w w'
set_option maxHeartbeats 400000 in
theorem after_any (w : World) (wide lo hi wear shrink : Int) (f0 f1 f2 f3 : Value) :
    Calls Try.prog 97 #[.agg #[.int .i64 wide, .int .i64 lo, .int .i64 hi, f0, f1, f2, f3], .int .i64 wear, .int .i64 shrink] w (RetWide wide wear shrink w) := by
  go_enter Try.func97, Try.ntmps97
  go_wp2
  go_ret
  exact ⟨_, _, _, rfl, ⟨by go_simp, by go_simp, by go_simp, by simp only [World.size_alloc]; omega, by simp only [World.size_alloc]; omega, by simp only [World.size_alloc]; omega⟩, ⟨by omega, by omega, by omega⟩, by repeat (first | exact Below.refl _ _ | assumption | refine Below.drew ?_ | refine Below.alloc ?_ (by first | omega | (simp only [World.size_alloc]; omega) | simp) _ | refine Below.setCell ?_ (by first | omega | (simp only [World.size_alloc]; omega) | simp) _)⟩

structure Mounted (w : World) (B q r s q2 r2 s2 : Nat) (d : Die) (sh : Span) : Prop where
  lo : WideAt w B q r s d.wide d.wear.lo sh.hi
  hi : WideAt w B q2 r2 s2 d.wide d.wear.hi sh.lo
theorem Mounted.below {w w' : World} {B q r s q2 r2 s2 : Nat} {d : Die} {sh : Span} (h : Mounted w B q r s q2 r2 s2 d sh) (hb : Below B w w') : Mounted w' B q r s q2 r2 s2 d sh := ⟨h.lo.below hb, h.hi.below hb⟩
theorem Mounted.on {w w' : World} {B q r s q2 r2 s2 : Nat} {d : Die} {sh : Span} (h : Mounted w B q r s q2 r2 s2 d sh) (hb : Below w.heap.size w w') (hB : B ≤ w.heap.size) : Mounted w' w'.heap.size q r s q2 r2 s2 d sh := ⟨h.lo.on hb hB, h.hi.on hb hB⟩
structure MtB (w : World) (pc m : Array Value) (W : World) : Prop where
  below : Below w.heap.size w W
  b0 : Blk W w.heap.size 26 pc
  b1 : Blk W (w.heap.size + 1) 112 #[.int .i64 0, .int .i64 0, .int .i64 0, .nilFunc, .nilFunc, .nilFunc, .nilFunc]
  b2 : Blk W (w.heap.size + 1 + 1) 112 m
theorem blk_at {W : World} {n : Nat} (t : TypeId) (cs : Array Value) (h : n = W.heap.size) : Blk (W.alloc (.cells cs t)) n t cs := by subst h; exact Blk.new _ _ _
theorem MtB.start (w : World) (pc m : Array Value) : MtB w pc m (((w.alloc (.cells pc 26)).alloc (.cells #[.int .i64 0, .int .i64 0, .int .i64 0, .nilFunc, .nilFunc, .nilFunc, .nilFunc] 112)).alloc (.cells m 112)) :=
  ⟨by repeat (first | exact Below.refl _ _ | assumption | refine Below.drew ?_ | refine Below.alloc ?_ (by first | omega | (simp only [World.size_alloc]; omega) | simp) _ | refine Below.setCell ?_ (by first | omega | (simp only [World.size_alloc]; omega) | simp) _), ((Blk.new _ _ _).alloc _).alloc _, (blk_at _ _ (by simp)).alloc _, blk_at _ _ (by simp)⟩
theorem MtB.call {w W W' : World} {pc m : Array Value} (h : MtB w pc m W) (hb : Below W.heap.size W W') : MtB w pc m W' :=
  ⟨h.below.trans (hb.mono h.below.size), h.b0.below hb h.b0.lt, h.b1.below hb h.b1.lt, h.b2.below hb h.b2.lt⟩
theorem MtB.put {w W : World} {pc m : Array Value} (h : MtB w pc m W) (i : Nat) (u v : Value) : MtB w pc ((m.setIfInBounds i u).setIfInBounds (i + 1) v) ((W.setCell ⟨w.heap.size + 1 + 1, i, none⟩ u).setCell ⟨w.heap.size + 1 + 1, i + 1, none⟩ v) :=
  ⟨Below.setCell (p := ⟨_, i + 1, none⟩) (Below.setCell (p := ⟨_, i, none⟩) h.below (by simp; omega) _) (by simp; omega) _, (h.b0.far (p := ⟨_, i, none⟩) (by simp; omega) _).far (p := ⟨_, i + 1, none⟩) (by simp; omega) _, (h.b1.far (p := ⟨_, i, none⟩) (by simp) _).far (p := ⟨_, i + 1, none⟩) (by simp) _, (h.b2.set_ i _).set_ (i + 1) _⟩
def RetMount (d : Die) (sh : Span) (w : World) (e : Ending) (w' : World) : Prop :=
  ∃ q r s q2 r2 s2 : Nat, e = .returned (.agg #[.int .i64 d.wide, .int .i64 d.wear.lo, .int .i64 d.wear.hi, .func (.func 134) #[] #[.pointer (some ⟨q, 0, none⟩), .pointer (some ⟨r, 0, none⟩), .pointer (some ⟨s, 0, none⟩)], .func (.func 98) #[] #[], .func (.func 134) #[] #[.pointer (some ⟨q2, 0, none⟩), .pointer (some ⟨r2, 0, none⟩), .pointer (some ⟨s2, 0, none⟩)], .func (.func 99) #[] #[]]) ∧ Mounted w' w'.heap.size q r s q2 r2 s2 d sh ∧ Below w.heap.size w w'
set_option maxRecDepth 100000 in
set_option maxHeartbeats 2000000 in
theorem mount_any (w : World) (A : Option Addr) (c : Nat) (p : Press) (i : Nat) (hi : i < p.dies.length) (hA : DieSl w w.heap.size A p.dies) :
    Calls Try.prog 63 #[.agg #[.slice A p.dies.length c, .int .i64 p.shrink.lo, .int .i64 p.shrink.hi, .int .i64 p.change], .int .i64 (i : Int)] w (RetMount p.dies[i] p.shrink w) := by
  obtain ⟨b, off, rfl, hb, hs⟩ := hA (by intro e; rw [e] at hi; simp at hi)
  obtain ⟨c0, c1, c2⟩ := hs i hi
  clear hs
  simp only [dieF] at c0 c1 c2
  generalize p.dies[i] = d at c0 c1 c2 ⊢
  have hi0 : (0 : Int) ≤ i := by omega
  have hin : (i : Int) < (p.dies.length : Int) := by omega
  go_enter Try.func63, Try.ntmps63
  go_wp2_with fail
  have HB0 : Hid (MtB w #[.slice (some ⟨b, off, none⟩) p.dies.length c, .int .i64 p.shrink.lo, .int .i64 p.shrink.hi, .int .i64 p.change] #[.int .i64 d.wide, .int .i64 d.wear.lo, .int .i64 d.wear.hi, .nilFunc, .nilFunc, .nilFunc, .nilFunc] (((w.alloc (.cells #[.slice (some ⟨b, off, none⟩) p.dies.length c, .int .i64 p.shrink.lo, .int .i64 p.shrink.hi, .int .i64 p.change] 26)).alloc (.cells #[.int .i64 0, .int .i64 0, .int .i64 0, .nilFunc, .nilFunc, .nilFunc, .nilFunc] 112)).alloc (.cells #[.int .i64 d.wide, .int .i64 d.wear.lo, .int .i64 d.wear.hi, .nilFunc, .nilFunc, .nilFunc, .nilFunc] 112))) := Lib.hid (MtB.start _ _ _)
  generalize World.alloc (World.alloc (World.alloc w _) _) _ = W0 at HB0 ⊢
  refine (after_any W0 _ _ _ _ _ _ _ _ _).mono ?_
  rintro e W1 ⟨q, r, s, rfl, hw, hq, hb1⟩
  have hn2 := HB0.out.b2.lt
  have HQ : Hid (w.heap.size + 1 + 1 < q ∧ w.heap.size + 1 + 1 < r ∧ w.heap.size + 1 + 1 < s) := Lib.hid (by omega)
  replace HB0 := Lib.hid (HB0.out.call hb1)
  have HW := Lib.hid hw
  clear hw hb1
  have x0 := HB0.out.b2.cell 0; have x1 := HB0.out.b2.cell 1; have x2 := HB0.out.b2.cell 2; have x3 := HB0.out.b2.cell 3; have x4 := HB0.out.b2.cell 4; have x5 := HB0.out.b2.cell 5; have x6 := HB0.out.b2.cell 6; have y1 := HB0.out.b0.cell 1; have y2 := HB0.out.b0.cell 2; have g0 := HB0.out.b2.frozen 0; have g1 := HB0.out.b2.frozen 1; have g2 := HB0.out.b2.frozen 2; have g3 := HB0.out.b2.frozen 3; have g4 := HB0.out.b2.frozen 4; have g5 := HB0.out.b2.frozen 5; have g6 := HB0.out.b2.frozen 6
  go_wp2_with fail
  clear x0 x1 x2 x3 x4 x5 x6 y1 y2 g0 g1 g2 g3 g4 g5 g6
  replace HW := Lib.hid (HW.out.two (w.heap.size + 1 + 1) 3 (.func (.func 134) #[] #[.pointer (some ⟨q, 0, none⟩), .pointer (some ⟨r, 0, none⟩), .pointer (some ⟨s, 0, none⟩)]) (.func (.func 98) #[] #[]) (by omega) (by omega) (by omega))
  clear hn2 hq
  replace HB0 := Lib.hid (HB0.out.put 3 (.func (.func 134) #[] #[.pointer (some ⟨q, 0, none⟩), .pointer (some ⟨r, 0, none⟩), .pointer (some ⟨s, 0, none⟩)]) (.func (.func 98) #[] #[]))
  generalize World.setCell (World.setCell W1 _ _) _ _ = W2 at HB0 HW ⊢
  replace HB0 : Hid (MtB w #[.slice (some ⟨b, off, none⟩) p.dies.length c, .int .i64 p.shrink.lo, .int .i64 p.shrink.hi, .int .i64 p.change] #[.int .i64 d.wide, .int .i64 d.wear.lo, .int .i64 d.wear.hi, .func (.func 134) #[] #[.pointer (some ⟨q, 0, none⟩), .pointer (some ⟨r, 0, none⟩), .pointer (some ⟨s, 0, none⟩)], .func (.func 98) #[] #[], .nilFunc, .nilFunc] W2) := HB0
  refine (after_any W2 _ _ _ _ _ _ _ _ _).mono ?_
  rintro e W3 ⟨q2, r2, s2, rfl, hw2, hq, hb1⟩
  have hn2 := HB0.out.b2.lt
  replace HB0 := Lib.hid (HB0.out.call hb1)
  replace HW := Lib.hid (HW.out.on hb1 (Nat.le_refl _))
  have HW2 := Lib.hid hw2
  clear hw2 hb1
  have x0 := HB0.out.b2.cell 0; have x1 := HB0.out.b2.cell 1; have x2 := HB0.out.b2.cell 2; have x3 := HB0.out.b2.cell 3; have x4 := HB0.out.b2.cell 4; have x5 := HB0.out.b2.cell 5; have x6 := HB0.out.b2.cell 6; have y1 := HB0.out.b0.cell 1; have y2 := HB0.out.b0.cell 2; have g0 := HB0.out.b2.frozen 0; have g1 := HB0.out.b2.frozen 1; have g2 := HB0.out.b2.frozen 2; have g3 := HB0.out.b2.frozen 3; have g4 := HB0.out.b2.frozen 4; have g5 := HB0.out.b2.frozen 5; have g6 := HB0.out.b2.frozen 6
  have HP := Lib.hid (HB0.out.put 5 (.func (.func 134) #[] #[.pointer (some ⟨q2, 0, none⟩), .pointer (some ⟨r2, 0, none⟩), .pointer (some ⟨s2, 0, none⟩)]) (.func (.func 99) #[] #[]))
  replace HW := Lib.hid (HW.out.two (w.heap.size + 1 + 1) 5 (.func (.func 134) #[] #[.pointer (some ⟨q2, 0, none⟩), .pointer (some ⟨r2, 0, none⟩), .pointer (some ⟨s2, 0, none⟩)]) (.func (.func 99) #[] #[]) (by have := HQ.out; omega) (by have := HQ.out; omega) (by have := HQ.out; omega))
  replace HW2 := Lib.hid (HW2.out.two (w.heap.size + 1 + 1) 5 (.func (.func 134) #[] #[.pointer (some ⟨q2, 0, none⟩), .pointer (some ⟨r2, 0, none⟩), .pointer (some ⟨s2, 0, none⟩)]) (.func (.func 99) #[] #[]) (by omega) (by omega) (by omega))
  have HQ2 : Hid (w.heap.size + 1 + 1 < q2 ∧ w.heap.size + 1 + 1 < r2 ∧ w.heap.size + 1 + 1 < s2) := Lib.hid (by omega)
  clear hq hn2
  go_wp2_with (refine wpList_store_row rfl 112 (.tmp 4) (.tmp 36) rfl (w.heap.size + 1) #[_, _, _, _, _, _, _] rfl rfl 112 _ HP.out.b1 (by kernel_rfl) rfl (by kernel_rfl) ?_)
  obtain ⟨e0, e1, e2⟩ := HQ.out
  obtain ⟨e3, e4, e5⟩ := HQ2.out
  exact bodyPost_ret (results_blk rfl _ rfl (HP.out.b1.row _) (by kernel_rfl) (by kernel_rfl)) rfl
    ⟨q, r, s, q2, r2, s2, rfl, ⟨HW.out.row _ _ (by omega) (by omega) (by omega), HW2.out.row _ _ (by omega) (by omega) (by omega)⟩, below_setRow HP.out.below (by omega) _⟩
end Go.Proofs.Ytdadgljllnkppaa
