/- Made by program out of parts: Cm,Mt,Th,Ro,Va,Vb,Wi. -/
import Derived.Test.YtfpfafijockfnaaRows
import Derived.Test.YtfpfafijockfnaaLf
/- Walks: how wide leads are, and a die on the press. -/
namespace Go.Proofs.Ytfpfafijockfnaa
open Go.RowKit Go.Shelf

/-- What a function of widths has captured: a die, its wear, and what it shrinks. -/
structure WideAt (w : World) (B q r s : Nat) (wide wear shrink : Int) : Prop where
  c0 : w.cell? ⟨q, 0, none⟩ = some (.int .i64 wide)
  c1 : w.cell? ⟨r, 0, none⟩ = some (.int .i64 wear)
  c2 : w.cell? ⟨s, 0, none⟩ = some (.int .i64 shrink)
  l0 : q < B
  l1 : r < B
  l2 : s < B
theorem WideAt.below {w w' : World} {B q r s : Nat} {wide wear shrink : Int} (h : WideAt w B q r s wide wear shrink) (hb : Below B w w') : WideAt w' B q r s wide wear shrink :=
  ⟨(hb.cell (p := ⟨q, _, none⟩) h.l0).trans h.c0, (hb.cell (p := ⟨r, _, none⟩) h.l1).trans h.c1, (hb.cell (p := ⟨s, _, none⟩) h.l2).trans h.c2, h.l0, h.l1, h.l2⟩
theorem WideAt.on {w w' : World} {B q r s : Nat} {wide wear shrink : Int} (h : WideAt w B q r s wide wear shrink) (hb : Below w.heap.size w w') (hB : B ≤ w.heap.size) : WideAt w' w'.heap.size q r s wide wear shrink := by
  obtain ⟨a, b, c, d, e, f⟩ := h.below (hb.mono hB)
  have := hb.size
  exact ⟨a, b, c, by omega, by omega, by omega⟩
theorem WideAt.two {w : World} {q r s : Nat} {wide wear shrink : Int} (h : WideAt w w.heap.size q r s wide wear shrink) (n i : Nat) (u v : Value) (h0 : n ≠ q) (h1 : n ≠ r) (h2 : n ≠ s) :
    WideAt ((w.setCell ⟨n, i, none⟩ u).setCell ⟨n, i + 1, none⟩ v) ((w.setCell ⟨n, i, none⟩ u).setCell ⟨n, i + 1, none⟩ v).heap.size q r s wide wear shrink := by
  obtain ⟨a, b, c, d, e, f⟩ := h
  have hs : ((w.setCell ⟨n, i, none⟩ u).setCell ⟨n, i + 1, none⟩ v).heap.size = w.heap.size := by simp [World.setCell]
  have hk : ∀ k, k ≠ n → ((w.setCell ⟨n, i, none⟩ u).setCell ⟨n, i + 1, none⟩ v).cell? ⟨k, 0, none⟩ = w.cell? ⟨k, 0, none⟩ := fun k hk =>
    World.cell?_of_block (w := w) (a := ⟨k, 0, none⟩) ((Below.heap_setCell _ ⟨n, i + 1, none⟩ v k hk).trans (Below.heap_setCell w ⟨n, i, none⟩ u k hk))
  rw [hs]
  exact ⟨(hk q (Ne.symm h0)).trans a, (hk r (Ne.symm h1)).trans b, (hk s (Ne.symm h2)).trans c, d, e, f⟩
theorem WideAt.row {w : World} {q r s : Nat} {wide wear shrink : Int} (h : WideAt w w.heap.size q r s wide wear shrink) (n : Nat) (cs : Array Value) (h0 : n ≠ q) (h1 : n ≠ r) (h2 : n ≠ s) : WideAt (w.setRow n cs) (w.setRow n cs).heap.size q r s wide wear shrink := by
  obtain ⟨a, b, c, d, e, f⟩ := h
  have hk : ∀ k, k ≠ n → (w.setRow n cs).cell? ⟨k, 0, none⟩ = w.cell? ⟨k, 0, none⟩ := fun k hk => World.cell?_of_block (w := w) (a := ⟨k, 0, none⟩) (setRow_other w n k cs hk)
  have hs : (w.setRow n cs).heap.size = w.heap.size := by simp
  rw [hs]
  exact ⟨(hk q (Ne.symm h0)).trans a, (hk r (Ne.symm h1)).trans b, (hk s (Ne.symm h2)).trans c, d, e, f⟩
set_option maxHeartbeats 400000 in
theorem width_any (w : World) (q r s : Nat) (wide wear shrink u : Int) (h : WideAt w w.heap.size q r s wide wear shrink) (a0 : 1 ≤ wide) (a1 : wide ≤ 20000) (b0 : 0 ≤ wear) (b1 : wear ≤ 200) (g0 : 0 ≤ shrink) (g1 : shrink ≤ 300) (d0 : 0 ≤ u) (d1 : u ≤ 9000) :
    Calls Try.prog 107 #[.int .i64 u, .pointer (some ⟨q, 0, none⟩), .pointer (some ⟨r, 0, none⟩), .pointer (some ⟨s, 0, none⟩)] w fun e w' => e = .returned (.int .i64 (nano wide wear shrink u)) ∧ w = w' := by
  obtain ⟨⟨e0, e1⟩, e2, e3⟩ := nano_bd a0 a1 b0 b1 g0 g1 d0 d1
  unfold nano at e2 e3
  obtain ⟨c0, c1, c2, l0, l1, l2⟩ := h
  go_enter Try.func107, Try.ntmps107
  go_wp2
  go_ret
  exact ⟨rfl, rfl⟩
def RetWide (wide wear shrink : Int) (w : World) (e : Ending) (w' : World) : Prop :=
  ∃ q r s : Nat, e = .returned (.func (.func 107) #[] #[.pointer (some ⟨q, 0, none⟩), .pointer (some ⟨r, 0, none⟩), .pointer (some ⟨s, 0, none⟩)]) ∧ WideAt w' w'.heap.size q r s wide wear shrink ∧ (w.heap.size ≤ q ∧ w.heap.size ≤ r ∧ w.heap.size ≤ s) ∧ Below w.heap.size w w'
set_option maxHeartbeats 400000 in
theorem after_any (w : World) (wide lo hi wear shrink : Int) (f0 f1 f2 f3 : Value) :
    Calls Try.prog 88 #[.agg #[.int .i64 wide, .int .i64 lo, .int .i64 hi, f0, f1, f2, f3], .int .i64 wear, .int .i64 shrink] w (RetWide wide wear shrink w) := by
  go_enter Try.func88, Try.ntmps88
  go_wp2
  go_ret
  exact ⟨_, _, _, rfl, ⟨by go_simp, by go_simp, by go_simp, by simp only [World.size_alloc]; omega, by simp only [World.size_alloc]; omega, by simp only [World.size_alloc]; omega⟩, ⟨by omega, by omega, by omega⟩, by repeat (first | exact Below.refl _ _ | assumption | refine Below.drew ?_ | refine Below.alloc ?_ (by first | omega | (simp only [World.size_alloc]; omega) | simp) _ | refine Below.setCell ?_ (by first | omega | (simp only [World.size_alloc]; omega) | simp) _)⟩

structure Mounted (w : World) (B q r s q2 r2 s2 : Nat) (d : Die) (sh : Span) : Prop where
  lo : WideAt w B q r s d.wide d.wear.lo sh.hi
  hi : WideAt w B q2 r2 s2 d.wide d.wear.hi sh.lo
theorem Mounted.below {w w' : World} {B q r s q2 r2 s2 : Nat} {d : Die} {sh : Span} (h : Mounted w B q r s q2 r2 s2 d sh) (hb : Below B w w') : Mounted w' B q r s q2 r2 s2 d sh := ⟨h.lo.below hb, h.hi.below hb⟩
theorem Mounted.on {w w' : World} {B q r s q2 r2 s2 : Nat} {d : Die} {sh : Span} (h : Mounted w B q r s q2 r2 s2 d sh) (hb : Below w.heap.size w w') (hB : B ≤ w.heap.size) : Mounted w' w'.heap.size q r s q2 r2 s2 d sh := ⟨h.lo.on hb hB, h.hi.on hb hB⟩
structure MtB (w : World) (pc m : Array Value) (W : World) : Prop where
  below : Below w.heap.size w W
  b0 : Blk W w.heap.size 73 pc
  b1 : Blk W (w.heap.size + 1) 120 #[.int .i64 0, .int .i64 0, .int .i64 0, .nilFunc, .nilFunc, .nilFunc, .nilFunc]
  b2 : Blk W (w.heap.size + 1 + 1) 120 m
theorem blk_at {W : World} {n : Nat} (t : TypeId) (cs : Array Value) (h : n = W.heap.size) : Blk (W.alloc (.cells cs t)) n t cs := by subst h; exact Blk.new _ _ _
theorem MtB.start (w : World) (pc m : Array Value) : MtB w pc m (((w.alloc (.cells pc 73)).alloc (.cells #[.int .i64 0, .int .i64 0, .int .i64 0, .nilFunc, .nilFunc, .nilFunc, .nilFunc] 120)).alloc (.cells m 120)) :=
  ⟨by repeat (first | exact Below.refl _ _ | assumption | refine Below.drew ?_ | refine Below.alloc ?_ (by first | omega | (simp only [World.size_alloc]; omega) | simp) _ | refine Below.setCell ?_ (by first | omega | (simp only [World.size_alloc]; omega) | simp) _), ((Blk.new _ _ _).alloc _).alloc _, (blk_at _ _ (by simp)).alloc _, blk_at _ _ (by simp)⟩
theorem MtB.call {w W W' : World} {pc m : Array Value} (h : MtB w pc m W) (hb : Below W.heap.size W W') : MtB w pc m W' :=
  ⟨h.below.trans (hb.mono h.below.size), h.b0.below hb h.b0.lt, h.b1.below hb h.b1.lt, h.b2.below hb h.b2.lt⟩
theorem MtB.put {w W : World} {pc m : Array Value} (h : MtB w pc m W) (i : Nat) (u v : Value) : MtB w pc ((m.setIfInBounds i u).setIfInBounds (i + 1) v) ((W.setCell ⟨w.heap.size + 1 + 1, i, none⟩ u).setCell ⟨w.heap.size + 1 + 1, i + 1, none⟩ v) :=
  ⟨Below.setCell (p := ⟨_, i + 1, none⟩) (Below.setCell (p := ⟨_, i, none⟩) h.below (by simp; omega) _) (by simp; omega) _, (h.b0.far (p := ⟨_, i, none⟩) (by simp; omega) _).far (p := ⟨_, i + 1, none⟩) (by simp; omega) _, (h.b1.far (p := ⟨_, i, none⟩) (by simp) _).far (p := ⟨_, i + 1, none⟩) (by simp) _, (h.b2.set_ i _).set_ (i + 1) _⟩
def RetMount (d : Die) (sh : Span) (w : World) (e : Ending) (w' : World) : Prop :=
  ∃ q r s q2 r2 s2 : Nat, e = .returned (.agg #[.int .i64 d.wide, .int .i64 d.wear.lo, .int .i64 d.wear.hi, .func (.func 107) #[] #[.pointer (some ⟨q, 0, none⟩), .pointer (some ⟨r, 0, none⟩), .pointer (some ⟨s, 0, none⟩)], .func (.func 89) #[] #[], .func (.func 107) #[] #[.pointer (some ⟨q2, 0, none⟩), .pointer (some ⟨r2, 0, none⟩), .pointer (some ⟨s2, 0, none⟩)], .func (.func 90) #[] #[]]) ∧ Mounted w' w'.heap.size q r s q2 r2 s2 d sh ∧ Below w.heap.size w w'
set_option maxRecDepth 100000 in
set_option maxHeartbeats 2000000 in
theorem mount_any (w : World) (A : Option Addr) (c : Nat) (p : Press) (i : Nat) (hi : i < p.dies.length) (hA : DieSl w w.heap.size A p.dies) :
    Calls Try.prog 59 #[.agg #[.slice A p.dies.length c, .int .i64 p.shrink.lo, .int .i64 p.shrink.hi, .int .i64 p.change], .int .i64 (i : Int)] w (RetMount p.dies[i] p.shrink w) := by
  obtain ⟨b, off, rfl, hb, hs⟩ := hA (by intro e; rw [e] at hi; simp at hi)
  obtain ⟨c0, c1, c2⟩ := hs i hi
  clear hs
  simp only [dieF] at c0 c1 c2
  generalize p.dies[i] = d at c0 c1 c2 ⊢
  have hi0 : (0 : Int) ≤ i := by omega
  have hin : (i : Int) < (p.dies.length : Int) := by omega
  go_enter Try.func59, Try.ntmps59
  go_wp2_with fail
  have HB0 : Hid (MtB w #[.slice (some ⟨b, off, none⟩) p.dies.length c, .int .i64 p.shrink.lo, .int .i64 p.shrink.hi, .int .i64 p.change] #[.int .i64 d.wide, .int .i64 d.wear.lo, .int .i64 d.wear.hi, .nilFunc, .nilFunc, .nilFunc, .nilFunc] (((w.alloc (.cells #[.slice (some ⟨b, off, none⟩) p.dies.length c, .int .i64 p.shrink.lo, .int .i64 p.shrink.hi, .int .i64 p.change] 73)).alloc (.cells #[.int .i64 0, .int .i64 0, .int .i64 0, .nilFunc, .nilFunc, .nilFunc, .nilFunc] 120)).alloc (.cells #[.int .i64 d.wide, .int .i64 d.wear.lo, .int .i64 d.wear.hi, .nilFunc, .nilFunc, .nilFunc, .nilFunc] 120))) := Lib.hid (MtB.start _ _ _)
  generalize World.alloc (World.alloc (World.alloc w _) _) _ = W0 at HB0 ⊢
  refine (after_any W0 _ _ _ _ _ _ _ _ _).mono ?_
  rintro e W1 ⟨q, r, s, rfl, hw, hq, hb1⟩
  have hn2 := HB0.out.b2.lt
  have HQ : Hid (w.heap.size + 1 + 1 < q ∧ w.heap.size + 1 + 1 < r ∧ w.heap.size + 1 + 1 < s) := Lib.hid (by omega)
  replace HB0 := Lib.hid (HB0.out.call hb1)
  have HW := Lib.hid hw
  clear hw hb1
  have x0 := HB0.out.b2.cell 0; have x1 := HB0.out.b2.cell 1; have x2 := HB0.out.b2.cell 2; have x3 := HB0.out.b2.cell 3; have x4 := HB0.out.b2.cell 4; have x5 := HB0.out.b2.cell 5; have x6 := HB0.out.b2.cell 6; have y1 := HB0.out.b0.cell 1; have y2 := HB0.out.b0.cell 2; have g0 := HB0.out.b2.frozen 0; have g1 := HB0.out.b2.frozen 1; have g2 := HB0.out.b2.frozen 2; have g3 := HB0.out.b2.frozen 3; have g4 := HB0.out.b2.frozen 4; have g5 := HB0.out.b2.frozen 5; have g6 := HB0.out.b2.frozen 6
  go_wp2_with fail
  clear x0 x1 x2 x3 x4 x5 x6 y1 y2 g0 g1 g2 g3 g4 g5 g6
  replace HW := Lib.hid (HW.out.two (w.heap.size + 1 + 1) 3 (.func (.func 107) #[] #[.pointer (some ⟨q, 0, none⟩), .pointer (some ⟨r, 0, none⟩), .pointer (some ⟨s, 0, none⟩)]) (.func (.func 89) #[] #[]) (by omega) (by omega) (by omega))
  clear hn2 hq
  replace HB0 := Lib.hid (HB0.out.put 3 (.func (.func 107) #[] #[.pointer (some ⟨q, 0, none⟩), .pointer (some ⟨r, 0, none⟩), .pointer (some ⟨s, 0, none⟩)]) (.func (.func 89) #[] #[]))
  generalize World.setCell (World.setCell W1 _ _) _ _ = W2 at HB0 HW ⊢
  replace HB0 : Hid (MtB w #[.slice (some ⟨b, off, none⟩) p.dies.length c, .int .i64 p.shrink.lo, .int .i64 p.shrink.hi, .int .i64 p.change] #[.int .i64 d.wide, .int .i64 d.wear.lo, .int .i64 d.wear.hi, .func (.func 107) #[] #[.pointer (some ⟨q, 0, none⟩), .pointer (some ⟨r, 0, none⟩), .pointer (some ⟨s, 0, none⟩)], .func (.func 89) #[] #[], .nilFunc, .nilFunc] W2) := HB0
  refine (after_any W2 _ _ _ _ _ _ _ _ _).mono ?_
  rintro e W3 ⟨q2, r2, s2, rfl, hw2, hq, hb1⟩
  have hn2 := HB0.out.b2.lt
  replace HB0 := Lib.hid (HB0.out.call hb1)
  replace HW := Lib.hid (HW.out.on hb1 (Nat.le_refl _))
  have HW2 := Lib.hid hw2
  clear hw2 hb1
  have x0 := HB0.out.b2.cell 0; have x1 := HB0.out.b2.cell 1; have x2 := HB0.out.b2.cell 2; have x3 := HB0.out.b2.cell 3; have x4 := HB0.out.b2.cell 4; have x5 := HB0.out.b2.cell 5; have x6 := HB0.out.b2.cell 6; have y1 := HB0.out.b0.cell 1; have y2 := HB0.out.b0.cell 2; have g0 := HB0.out.b2.frozen 0; have g1 := HB0.out.b2.frozen 1; have g2 := HB0.out.b2.frozen 2; have g3 := HB0.out.b2.frozen 3; have g4 := HB0.out.b2.frozen 4; have g5 := HB0.out.b2.frozen 5; have g6 := HB0.out.b2.frozen 6
  have HP := Lib.hid (HB0.out.put 5 (.func (.func 107) #[] #[.pointer (some ⟨q2, 0, none⟩), .pointer (some ⟨r2, 0, none⟩), .pointer (some ⟨s2, 0, none⟩)]) (.func (.func 90) #[] #[]))
  replace HW := Lib.hid (HW.out.two (w.heap.size + 1 + 1) 5 (.func (.func 107) #[] #[.pointer (some ⟨q2, 0, none⟩), .pointer (some ⟨r2, 0, none⟩), .pointer (some ⟨s2, 0, none⟩)]) (.func (.func 90) #[] #[]) (by have := HQ.out; omega) (by have := HQ.out; omega) (by have := HQ.out; omega))
  replace HW2 := Lib.hid (HW2.out.two (w.heap.size + 1 + 1) 5 (.func (.func 107) #[] #[.pointer (some ⟨q2, 0, none⟩), .pointer (some ⟨r2, 0, none⟩), .pointer (some ⟨s2, 0, none⟩)]) (.func (.func 90) #[] #[]) (by omega) (by omega) (by omega))
  have HQ2 : Hid (w.heap.size + 1 + 1 < q2 ∧ w.heap.size + 1 + 1 < r2 ∧ w.heap.size + 1 + 1 < s2) := Lib.hid (by omega)
  clear hq hn2
  go_wp2_with (refine wpList_store_row rfl 120 (.tmp 4) (.tmp 36) rfl (w.heap.size + 1) #[_, _, _, _, _, _, _] rfl rfl 120 _ HP.out.b1 (by kernel_rfl) rfl (by kernel_rfl) ?_)
  obtain ⟨e0, e1, e2⟩ := HQ.out
  obtain ⟨e3, e4, e5⟩ := HQ2.out
  exact bodyPost_ret (results_blk rfl _ rfl (HP.out.b1.row _) (by kernel_rfl) (by kernel_rfl)) rfl
    ⟨q, r, s, q2, r2, s2, rfl, ⟨HW.out.row _ _ (by omega) (by omega) (by omega), HW2.out.row _ _ (by omega) (by omega) (by omega)⟩, below_setRow HP.out.below (by omega) _⟩
end Go.Proofs.Ytfpfafijockfnaa

/- Walks: whether a lead is as wide as it must be. -/
namespace Go.Proofs.Ytfpfafijockfnaa
open Go.RowKit Go.Shelf
/-- What is held of the world while a die is asked: its box, and that of a span. -/
def ThS (w : World) (q r s q2 r2 s2 : Nat) (lo hi : Int) (W : World) : Prop := Below w.heap.size w W ∧ W.cell? ⟨w.heap.size, 3, none⟩ = some (.func (.func 107) #[] #[.pointer (some ⟨q, 0, none⟩), .pointer (some ⟨r, 0, none⟩), .pointer (some ⟨s, 0, none⟩)]) ∧ W.cell? ⟨w.heap.size, 5, none⟩ = some (.func (.func 107) #[] #[.pointer (some ⟨q2, 0, none⟩), .pointer (some ⟨r2, 0, none⟩), .pointer (some ⟨s2, 0, none⟩)]) ∧ W.cell? ⟨w.heap.size + 1, 0, none⟩ = some (.int .i64 lo) ∧ W.cell? ⟨w.heap.size + 1, 1, none⟩ = some (.int .i64 hi)
theorem ThS.start (w : World) (q r s q2 r2 s2 : Nat) (lo hi : Int) (d : Die) : ThS w q r s q2 r2 s2 lo hi ((w.alloc (.cells #[.int .i64 d.wide, .int .i64 d.wear.lo, .int .i64 d.wear.hi, .func (.func 107) #[] #[.pointer (some ⟨q, 0, none⟩), .pointer (some ⟨r, 0, none⟩), .pointer (some ⟨s, 0, none⟩)], .func (.func 89) #[] #[], .func (.func 107) #[] #[.pointer (some ⟨q2, 0, none⟩), .pointer (some ⟨r2, 0, none⟩), .pointer (some ⟨s2, 0, none⟩)], .func (.func 90) #[] #[]] 120)).alloc (.cells #[.int .i64 lo, .int .i64 hi] 23)) :=
  ⟨by repeat (first | exact Below.refl _ _ | assumption | refine Below.drew ?_ | refine Below.alloc ?_ (by first | omega | (simp only [World.size_alloc]; omega) | simp) _ | refine Below.setCell ?_ (by first | omega | (simp only [World.size_alloc]; omega) | simp) _), by go_simp, by go_simp, by go_simp, by go_simp⟩
theorem ThS.drew {w : World} {q r s q2 r2 s2 : Nat} {lo hi : Int} {W : World} (h : ThS w q r s q2 r2 s2 lo hi W) : ThS w q r s q2 r2 s2 lo hi W.drew := ⟨h.1.drew, h.2⟩
end Go.Proofs.Ytfpfafijockfnaa

/- Walks: an end of a width, in whole thousandths. -/
namespace Go.Proofs.Ytfpfafijockfnaa
open Go.RowKit Go.Shelf

def RdS (w : World) (q r s : Nat) (f : Value) (W : World) : Prop := Below w.heap.size w W ∧ W.cell? ⟨w.heap.size, 0, none⟩ = some (.func (.func 107) #[] #[.pointer (some ⟨q, 0, none⟩), .pointer (some ⟨r, 0, none⟩), .pointer (some ⟨s, 0, none⟩)]) ∧ W.cell? ⟨w.heap.size, 1, none⟩ = some f
theorem RdS.drew {w : World} {q r s : Nat} {f : Value} {W : World} (h : RdS w q r s f W) : RdS w q r s f W.drew := ⟨h.1.drew, h.2⟩
set_option maxRecDepth 100000 in
set_option maxHeartbeats 2000000 in
theorem roundDown_any (w : World) (q r s : Nat) (wide wear shrink u : Int) (h : WideAt w w.heap.size q r s wide wear shrink) (a0 : 1 ≤ wide) (a1 : wide ≤ 20000) (b0 : 0 ≤ wear) (b1 : wear ≤ 200) (g0 : 0 ≤ shrink) (g1 : shrink ≤ 300) (d0 : 0 ≤ u) (d1 : u ≤ 9000) : Calls Try.prog 60 #[.agg #[.func (.func 107) #[] #[.pointer (some ⟨q, 0, none⟩), .pointer (some ⟨r, 0, none⟩), .pointer (some ⟨s, 0, none⟩)], .func (.func 89) #[] #[]], .int .i64 u] w (Ret (.int .i64 (nano wide wear shrink u / 1000)) w) := by
  have ht := nano_bd a0 a1 b0 b1 g0 g1 d0 d1
  have HW : Hid (∀ V, Below w.heap.size w V → Calls Try.prog 107 #[.int .i64 u, .pointer (some ⟨q, 0, none⟩), .pointer (some ⟨r, 0, none⟩), .pointer (some ⟨s, 0, none⟩)] V fun e w' => e = .returned (.int .i64 (nano wide wear shrink u)) ∧ V = w') := fun V hV =>
    width_any V q r s _ _ _ u (h.on hV (Nat.le_refl _)) a0 a1 b0 b1 g0 g1 d0 d1
  clear h
  obtain ⟨-, t0, t1⟩ := ht
  have HC := Lib.hid fun V => down_any (nano wide wear shrink u) 1000 V (by omega) (by omega) (by omega)
  generalize nano wide wear shrink u = t at *
  go_enter Try.func60, Try.ntmps60
  go_wp2_with fail
  have h0 : RdS w q r s (.func (.func 89) #[] #[]) (w.alloc (.cells #[.func (.func 107) #[] #[.pointer (some ⟨q, 0, none⟩), .pointer (some ⟨r, 0, none⟩), .pointer (some ⟨s, 0, none⟩)], .func (.func 89) #[] #[]] 117)) := ⟨by repeat (first | exact Below.refl _ _ | assumption | refine Below.drew ?_ | refine Below.alloc ?_ (by first | omega | (simp only [World.size_alloc]; omega) | simp) _ | refine Below.setCell ?_ (by first | omega | (simp only [World.size_alloc]; omega) | simp) _), by go_simp, by go_simp⟩
  unfold RdS at h0
  generalize World.alloc w _ = W0 at h0 ⊢
  go_region_held3 (fun W => Below w.heap.size w W ∧ W.cell? ⟨w.heap.size, 0, none⟩ = some (.func (.func 107) #[] #[.pointer (some ⟨q, 0, none⟩), .pointer (some ⟨r, 0, none⟩), .pointer (some ⟨s, 0, none⟩)]) ∧ W.cell? ⟨w.heap.size, 1, none⟩ = some (.func (.func 89) #[] #[])) (first | exact RdS.drew h0 | assumption | go_keep)
    (first
      | (go_at_call 107; (with_reducible refine (HW.out _ h0.1.drew).mono ?_); rintro e e' ⟨rfl, rfl⟩)
      | (go_at_call 89; (with_reducible refine (HC.out _).mono ?_); rintro e e' ⟨rfl, rfl⟩)
      | fail "no arm")
  go_wp2
  go_ret
  exact ⟨rfl, h0.1.drew⟩
set_option maxRecDepth 100000 in
set_option maxHeartbeats 2000000 in
theorem roundUp_any (w : World) (q r s : Nat) (wide wear shrink u : Int) (h : WideAt w w.heap.size q r s wide wear shrink) (a0 : 1 ≤ wide) (a1 : wide ≤ 20000) (b0 : 0 ≤ wear) (b1 : wear ≤ 200) (g0 : 0 ≤ shrink) (g1 : shrink ≤ 300) (d0 : 0 ≤ u) (d1 : u ≤ 9000) : Calls Try.prog 60 #[.agg #[.func (.func 107) #[] #[.pointer (some ⟨q, 0, none⟩), .pointer (some ⟨r, 0, none⟩), .pointer (some ⟨s, 0, none⟩)], .func (.func 90) #[] #[]], .int .i64 u] w (Ret (.int .i64 (cdiv (nano wide wear shrink u) 1000)) w) := by
  have ht := nano_bd a0 a1 b0 b1 g0 g1 d0 d1
  have HW : Hid (∀ V, Below w.heap.size w V → Calls Try.prog 107 #[.int .i64 u, .pointer (some ⟨q, 0, none⟩), .pointer (some ⟨r, 0, none⟩), .pointer (some ⟨s, 0, none⟩)] V fun e w' => e = .returned (.int .i64 (nano wide wear shrink u)) ∧ V = w') := fun V hV =>
    width_any V q r s _ _ _ u (h.on hV (Nat.le_refl _)) a0 a1 b0 b1 g0 g1 d0 d1
  clear h
  obtain ⟨-, t0, t1⟩ := ht
  have HC := Lib.hid fun V => up_any (nano wide wear shrink u) 1000 V (by omega) (by omega) (by omega)
  generalize nano wide wear shrink u = t at *
  go_enter Try.func60, Try.ntmps60
  go_wp2_with fail
  have h0 : RdS w q r s (.func (.func 90) #[] #[]) (w.alloc (.cells #[.func (.func 107) #[] #[.pointer (some ⟨q, 0, none⟩), .pointer (some ⟨r, 0, none⟩), .pointer (some ⟨s, 0, none⟩)], .func (.func 90) #[] #[]] 117)) := ⟨by repeat (first | exact Below.refl _ _ | assumption | refine Below.drew ?_ | refine Below.alloc ?_ (by first | omega | (simp only [World.size_alloc]; omega) | simp) _ | refine Below.setCell ?_ (by first | omega | (simp only [World.size_alloc]; omega) | simp) _), by go_simp, by go_simp⟩
  unfold RdS at h0
  generalize World.alloc w _ = W0 at h0 ⊢
  go_region_held3 (fun W => Below w.heap.size w W ∧ W.cell? ⟨w.heap.size, 0, none⟩ = some (.func (.func 107) #[] #[.pointer (some ⟨q, 0, none⟩), .pointer (some ⟨r, 0, none⟩), .pointer (some ⟨s, 0, none⟩)]) ∧ W.cell? ⟨w.heap.size, 1, none⟩ = some (.func (.func 90) #[] #[])) (first | exact RdS.drew h0 | assumption | go_keep)
    (first
      | (go_at_call 107; (with_reducible refine (HW.out _ h0.1.drew).mono ?_); rintro e e' ⟨rfl, rfl⟩)
      | (go_at_call 90; (with_reducible refine (HC.out _).mono ?_); rintro e e' ⟨rfl, rfl⟩)
      | fail "no arm")
  go_wp2
  go_ret
  exact ⟨rfl, h0.1.drew⟩
end Go.Proofs.Ytfpfafijockfnaa

/- Walks: whether a press and draws are valid. -/
namespace Go.Proofs.Ytfpfafijockfnaa
open Go.RowKit Go.Shelf

theorem press_end {p : Press} (h1 : fromB p.dies.length 1 4 = true) (h2 : p.dies.all dieOk = true) : pressOk p = endB p.shrink p.change := by unfold pressOk; rw [h1, h2]; rfl
theorem press_len {p : Press} (h1 : fromB p.dies.length 1 4 = false) : pressOk p = false := by unfold pressOk; rw [h1]; rfl
theorem press_die {p : Press} {k : Nat} (h : k < p.dies.length) (hf : dieOk p.dies[k] = false) : pressOk p = false := by unfold pressOk; rw [all_no h hf]; simp
set_option maxRecDepth 100000 in
set_option maxHeartbeats 2000000 in
theorem validPress_any (w : World) (A : Option Addr) (c : Nat) (p : Press) (hl : p.dies.length ≤ 9223372036854775807) (hA : DieSl w w.heap.size A p.dies) :
    Calls Try.prog 86 #[.agg #[.slice A p.dies.length c, .int .i64 p.shrink.lo, .int .i64 p.shrink.hi, .int .i64 p.change]] w (Ret (.bool (pressOk p)) w) := by
  have HS := Lib.hid hA
  clear hA
  have hl' : (p.dies.length : Int) ≤ 9223372036854775807 := by omega
  have hl0 : (0 : Int) ≤ p.dies.length := by omega
  cases h14 : fromB p.dies.length 1 4 with
  | false =>
    have HN := Lib.hid (press_len h14)
    have H14 := Lib.hid h14
    clear h14
    go_enter Try.func86, Try.ntmps86
    go_wp2_with fail
    refine (isFrom_any _ _ _ _).mono ?_
    rintro e w' ⟨he, rfl⟩
    rw [H14.out] at he
    subst he
    go_wp2_with fail
    go_ret
    exact ⟨ret_bool HN.out.symm, (Below.refl _ _).alloc (Nat.le_refl _) _⟩
  | true =>
    have H14 := Lib.hid h14
    clear h14
    go_enter Try.func86, Try.ntmps86
    go_wp2_with fail
    refine (isFrom_any _ _ _ _).mono ?_
    rintro e w' ⟨he, rfl⟩
    rw [H14.out] at he
    subst he
    go_wp2_with fail
    have HB : Hid (Blk (w.alloc (.cells #[.slice A p.dies.length c, .int .i64 p.shrink.lo, .int .i64 p.shrink.hi, .int .i64 p.change] 73)) w.heap.size 73 #[.slice A p.dies.length c, .int .i64 p.shrink.lo, .int .i64 p.shrink.hi, .int .i64 p.change] ∧ Below w.heap.size w (w.alloc (.cells #[.slice A p.dies.length c, .int .i64 p.shrink.lo, .int .i64 p.shrink.hi, .int .i64 p.change] 73))) := Lib.hid ⟨Blk.new _ _ _, (Below.refl _ _).alloc (Nat.le_refl _) _⟩
    generalize World.alloc w _ = W0 at HB ⊢
    go_loopw [13] (fun i wr => ∃ k : Nat, k ≤ p.dies.length ∧ i = .int .i64 k ∧ Hid ((p.dies.take k).all dieOk = true) ∧ Hid (Blk wr w.heap.size 73 #[.slice A p.dies.length c, .int .i64 p.shrink.lo, .int .i64 p.shrink.hi, .int .i64 p.change] ∧ Below w.heap.size w wr)) (fun i _ => p.dies.length - (intOf i).toNat)
    case atStart => exact ⟨0, by omega, rfl, Lib.hid (by simp), HB⟩
    case round =>
      clear HB
      obtain ⟨k, hk, rfl, HA, HB⟩ := hrel
      by_cases hlt : k < p.dies.length
      · obtain ⟨b, off, rfl, hb, hs⟩ := HS.out (by intro e; rw [e] at hlt; simp at hlt)
        obtain ⟨c0, c1, c2⟩ := hs k hlt
        clear hs
        simp only [dieF] at c0 c1 c2
        rw [← HB.out.2.cell (p := ⟨b, _, none⟩) hb] at c0 c1 c2
        have hbz : b < wr.heap.size := by have := HB.out.2.size; omega
        have hsz := HB.out.2.size
        have HN : Hid (dieOk p.dies[k] = false → pressOk p = false) := Lib.hid fun h => press_die hlt h
        have HY : Hid (dieOk p.dies[k] = true → (p.dies.take (k + 1)).all dieOk = true) := Lib.hid fun h => by rw [all_snoc hlt, HA.out, h]; rfl
        have HD : Hid (dieOk p.dies[k] = (fromB p.dies[k].wide 1 20000 && withinB ⟨p.dies[k].wear.lo, p.dies[k].wear.hi⟩ 0 200)) := Lib.hid rfl
        generalize p.dies[k] = d at *
        clear HA
        cases h1 : fromB d.wide 1 20000 with
        | false =>
          have H1 := Lib.hid h1
          clear h1
          go_wp2_with fail
          refine (isFrom_any _ _ _ _).mono ?_
          rintro e w' ⟨he, rfl⟩
          rw [H1.out] at he
          subst he
          go_wp2_with fail
          go_ret
          exact ⟨ret_bool (HN.out (by rw [HD.out, H1.out]; rfl)).symm, HB.out.2.alloc hsz _⟩
        | true =>
          have H1 := Lib.hid h1
          clear h1
          go_wp2_with fail
          refine (isFrom_any _ _ _ _).mono ?_
          rintro e w' ⟨he, rfl⟩
          rw [H1.out] at he
          subst he
          go_wp2_with fail
          replace HB : Hid (Blk (wr.alloc (.cells #[.int .i64 d.wide, .int .i64 d.wear.lo, .int .i64 d.wear.hi] 79)) w.heap.size 73 #[.slice (some ⟨b, off, none⟩) p.dies.length c, .int .i64 p.shrink.lo, .int .i64 p.shrink.hi, .int .i64 p.change] ∧ Below w.heap.size w (wr.alloc (.cells #[.int .i64 d.wide, .int .i64 d.wear.lo, .int .i64 d.wear.hi] 79))) := Lib.hid ⟨HB.out.1.alloc _, HB.out.2.alloc hsz _⟩
          clear c0 c1 c2
          generalize World.alloc wr _ = W1 at HB ⊢
          refine (within_any _ _ _ _ _).mono ?_
          rintro e W2 ⟨he, hb1⟩
          replace HB : Hid (Blk W2 w.heap.size 73 #[.slice (some ⟨b, off, none⟩) p.dies.length c, .int .i64 p.shrink.lo, .int .i64 p.shrink.hi, .int .i64 p.change] ∧ Below w.heap.size w W2) := Lib.hid ⟨HB.out.1.below hb1 HB.out.1.lt, HB.out.2.trans (hb1.mono HB.out.2.size)⟩
          clear hb1
          cases h2 : withinB ⟨d.wear.lo, d.wear.hi⟩ 0 200 with
          | false =>
            rw [h2] at he
            subst he
            have H2 := Lib.hid h2
            clear h2
            go_wp2_with fail
            go_ret
            exact ⟨ret_bool (HN.out (by rw [HD.out, H1.out, H2.out]; rfl)).symm, HB.out.2⟩
          | true =>
            rw [h2] at he
            subst he
            have H2 := Lib.hid h2
            clear h2
            go_wp2_with fail
            go_roundw
            case rel => exact ⟨k + 1, by omega, by go_num, Lib.hid (HY.out (by rw [HD.out, H1.out, H2.out]; rfl)), HB⟩
            case measure => simp [intOf]; omega
      · obtain rfl : k = p.dies.length := by omega
        have HE : Hid (pressOk p = endB p.shrink p.change) := Lib.hid (press_end H14.out (by have := HA.out; rwa [List.take_length] at this))
        have x1 := HB.out.1.cell 1
        have x2 := HB.out.1.cell 2
        have x3 := HB.out.1.cell 3
        clear hlt hk HA
        go_wp2_with fail
        refine (within_any _ _ _ _ _).mono ?_
        rintro e W2 ⟨he, hb1⟩
        have x3 := ((HB.out.1.below hb1 HB.out.1.lt).cell 3)
        have HB2 := Lib.hid (HB.out.2.trans (hb1.mono HB.out.2.size))
        clear hb1
        cases h1 : withinB ⟨p.shrink.lo, p.shrink.hi⟩ 0 300 with
        | false =>
          rw [h1] at he
          subst he
          have H1 := Lib.hid h1
          clear h1
          go_wp2_with fail
          go_ret
          exact ⟨ret_bool (by rw [HE.out]; unfold endB; rw [show withinB p.shrink 0 300 = false from H1.out]; rfl), HB2.out⟩
        | true =>
          rw [h1] at he
          subst he
          have H1 := Lib.hid h1
          clear h1
          go_wp2_with fail
          refine (isFrom_any _ _ _ _).mono ?_
          rintro e w' ⟨rfl, rfl⟩
          go_wp2_with fail
          go_ret
          exact ⟨ret_bool (by rw [HE.out]; unfold endB; rw [show withinB p.shrink 0 300 = true from H1.out]; rfl), HB2.out⟩
end Go.Proofs.Ytfpfafijockfnaa

/- Walks: whether draws are valid; the first error. -/
namespace Go.Proofs.Ytfpfafijockfnaa
open Go.RowKit Go.Shelf

theorem draws_long {l : List Draw} (h : ¬ l.length ≤ 8) : drawsOk l = false := by unfold drawsOk; rw [decide_eq_false h]; rfl
theorem draws_all {l : List Draw} (h : l.length ≤ 8) (h2 : l.all drawOk = true) : drawsOk l = true := by unfold drawsOk; rw [h2, decide_eq_true h]; rfl
theorem draws_no {l : List Draw} {k : Nat} (h : k < l.length) (hf : drawOk l[k] = false) : drawsOk l = false := by unfold drawsOk; rw [all_no h hf]; simp
set_option maxRecDepth 100000 in
set_option maxHeartbeats 2000000 in
theorem validDraws_any (w : World) (A : Option Addr) (c : Nat) (l : List Draw) (hl : l.length ≤ 9223372036854775807) (hA : DrawSl w w.heap.size A l) :
    Calls Try.prog 87 #[.slice A l.length c] w (Ret (.bool (drawsOk l)) w) := by
  have HS := Lib.hid hA
  clear hA
  have hl' : (l.length : Int) ≤ 9223372036854775807 := by omega
  have hl0 : (0 : Int) ≤ l.length := by omega
  by_cases h8 : l.length ≤ 8
  · have H8 := Lib.hid h8
    have h8' : (l.length : Int) ≤ 8 := by omega
    clear h8
    go_enter Try.func87, Try.ntmps87
    go_wp2_with fail
    go_loopw [10] (fun i wr => ∃ k : Nat, k ≤ l.length ∧ i = .int .i64 k ∧ Hid ((l.take k).all drawOk = true) ∧ Hid (Below w.heap.size w wr)) (fun i _ => l.length - (intOf i).toNat)
    case atStart => exact ⟨0, by omega, rfl, Lib.hid (by simp), Lib.hid (Below.refl _ _)⟩
    case round =>
      obtain ⟨k, hk, rfl, HA, HB⟩ := hrel
      by_cases hlt : k < l.length
      · obtain ⟨b, off, rfl, hb, hs⟩ := HS.out (by intro e; rw [e] at hlt; simp at hlt)
        obtain ⟨c0, c1, c2⟩ := hs k hlt
        clear hs
        simp only [drawF] at c0 c1 c2
        rw [← HB.out.cell (p := ⟨b, _, none⟩) hb] at c0 c1 c2
        have hbz : b < wr.heap.size := by have := HB.out.size; omega
        have hsz := HB.out.size
        have HN : Hid (drawOk l[k] = false → drawsOk l = false) := Lib.hid fun h => draws_no hlt h
        have HY : Hid (drawOk l[k] = true → (l.take (k + 1)).all drawOk = true) := Lib.hid fun h => by rw [all_snoc hlt, HA.out, h]; rfl
        have HD : Hid (drawOk l[k] = (fromB l[k].len 1 1000 && withinB ⟨l[k].want.lo, l[k].want.hi⟩ 0 20000)) := Lib.hid rfl
        generalize l[k] = d at *
        clear HA
        cases h1 : fromB d.len 1 1000 with
        | false =>
          have H1 := Lib.hid h1
          clear h1
          go_wp2_with fail
          refine (isFrom_any _ _ _ _).mono ?_
          rintro e w' ⟨he, rfl⟩
          rw [H1.out] at he
          subst he
          go_wp2_with fail
          go_ret
          exact ⟨ret_bool (HN.out (by rw [HD.out, H1.out]; rfl)).symm, HB.out.alloc hsz _⟩
        | true =>
          have H1 := Lib.hid h1
          clear h1
          go_wp2_with fail
          refine (isFrom_any _ _ _ _).mono ?_
          rintro e w' ⟨he, rfl⟩
          rw [H1.out] at he
          subst he
          go_wp2_with fail
          replace HB : Hid (Below w.heap.size w (wr.alloc (.cells #[.int .i64 d.len, .int .i64 d.want.lo, .int .i64 d.want.hi] 172))) := Lib.hid (HB.out.alloc hsz _)
          clear c0 c1 c2
          generalize World.alloc wr _ = W1 at HB ⊢
          refine (validWidth_any _ _ _).mono ?_
          rintro e W2 ⟨he, hb1⟩
          replace HB : Hid (Below w.heap.size w W2) := Lib.hid (HB.out.trans (hb1.mono HB.out.size))
          clear hb1
          cases h2 : withinB ⟨d.want.lo, d.want.hi⟩ 0 20000 with
          | false =>
            rw [h2] at he
            subst he
            have H2 := Lib.hid h2
            clear h2
            go_wp2_with fail
            go_ret
            exact ⟨ret_bool (HN.out (by rw [HD.out, H1.out, H2.out]; rfl)).symm, HB.out⟩
          | true =>
            rw [h2] at he
            subst he
            have H2 := Lib.hid h2
            clear h2
            go_wp2_with fail
            go_roundw
            case rel => exact ⟨k + 1, by omega, by go_num, Lib.hid (HY.out (by rw [HD.out, H1.out, H2.out]; rfl)), HB⟩
            case measure => simp [intOf]; omega
      · obtain rfl : k = l.length := by omega
        have HE : Hid (drawsOk l = true) := Lib.hid (draws_all H8.out (by have := HA.out; rwa [List.take_length] at this))
        clear hlt hk HA
        go_wp2_with fail
        go_ret
        exact ⟨ret_bool HE.out.symm, HB.out⟩
  · have HN := Lib.hid (draws_long h8)
    have h8' : (8 : Int) < l.length := by omega
    clear h8
    go_enter Try.func87, Try.ntmps87
    go_wp2_with fail
    go_ret
    exact ⟨ret_bool HN.out.symm, Below.refl _ _⟩

def errOf (p : Press) (l : List Draw) (o : Bool) : Int := if pressOk p = true then (if drawsOk l = true ∧ o = true then 0 else 2) else 1
set_option maxRecDepth 100000 in
set_option maxHeartbeats 2000000 in
theorem firstError_any (w : World) (A T : Option Addr) (c ct : Nat) (p : Press) (l : List Draw) (o : Bool) (hp : p.dies.length ≤ 9223372036854775807) (hl : l.length ≤ 9223372036854775807) (hA : DieSl w w.heap.size A p.dies) (hT : DrawSl w w.heap.size T l) :
    Calls Try.prog 57 #[.agg #[.slice A p.dies.length c, .int .i64 p.shrink.lo, .int .i64 p.shrink.hi, .int .i64 p.change], .slice T l.length ct, .bool o] w (Ret (.int .i64 (errOf p l o)) w) := by
  have hb0 : Below w.heap.size w (w.alloc (.cells #[.slice A p.dies.length c, .int .i64 p.shrink.lo, .int .i64 p.shrink.hi, .int .i64 p.change] 73)) := (Below.refl _ _).alloc (Nat.le_refl _) _
  have HP := Lib.hid (validPress_any (w.alloc (.cells #[.slice A p.dies.length c, .int .i64 p.shrink.lo, .int .i64 p.shrink.hi, .int .i64 p.change] 73)) A c p hp (hA.on hb0 (Nat.le_refl _)))
  have HT := Lib.hid (hT.on hb0 (Nat.le_refl _))
  have HL := Lib.hid hl
  have HB := Lib.hid hb0
  clear hp hl hA hT hb0
  cases h1 : pressOk p with
  | false =>
    have H1 := Lib.hid h1
    rw [h1] at HP
    clear h1
    go_enter Try.func57, Try.ntmps57
    go_wp2_with fail
    refine HP.out.mono ?_
    rintro e W1 ⟨rfl, hb1⟩
    have HB1 := Lib.hid (HB.out.trans (hb1.mono HB.out.size))
    clear hb1
    go_wp2_with fail
    go_ret
    exact ⟨ret_int (by unfold errOf; rw [H1.out]; rfl), HB1.out⟩
  | true =>
    have H1 := Lib.hid h1
    rw [h1] at HP
    clear h1
    cases h2 : drawsOk l with
    | false =>
      have H2 := Lib.hid h2
      clear h2
      go_enter Try.func57, Try.ntmps57
      go_wp2_with fail
      refine HP.out.mono ?_
      rintro e W1 ⟨rfl, hb1⟩
      have HB1 := Lib.hid (HB.out.trans (hb1.mono HB.out.size))
      replace HT := Lib.hid (HT.out.on hb1 (Nat.le_refl _))
      clear hb1
      go_wp2_with fail
      refine (validDraws_any _ _ _ _ HL.out HT.out).mono ?_
      rintro e W2 ⟨he, hb1⟩
      rw [H2.out] at he
      subst he
      have HB2 := Lib.hid (HB1.out.trans (hb1.mono HB1.out.size))
      clear hb1
      go_wp2_with fail
      go_ret
      exact ⟨ret_int (by unfold errOf; rw [H1.out, H2.out]; rfl), HB2.out⟩
    | true =>
      have H2 := Lib.hid h2
      clear h2
      cases o
      all_goals
        go_enter Try.func57, Try.ntmps57
        go_wp2_with fail
        refine HP.out.mono ?_
        rintro e W1 ⟨rfl, hb1⟩
        have HB1 := Lib.hid (HB.out.trans (hb1.mono HB.out.size))
        replace HT := Lib.hid (HT.out.on hb1 (Nat.le_refl _))
        clear hb1
        go_wp2_with fail
        refine (validDraws_any _ _ _ _ HL.out HT.out).mono ?_
        rintro e W2 ⟨he, hb1⟩
        rw [H2.out] at he
        subst he
        have HB2 := Lib.hid (HB1.out.trans (hb1.mono HB1.out.size))
        clear hb1
        go_wp2_with fail
        go_ret
        exact ⟨ret_int (by unfold errOf; rw [H1.out, H2.out]; rfl), HB2.out⟩
end Go.Proofs.Ytfpfafijockfnaa

/- Wide: how wide leads are that are drawn through a die. -/
namespace Go.Proofs.Ytfpfafijockfnaa
open Go.RowKit Go.Shelf

/-- The press in its box. -/
def PbS (p : Press) (A : Option Addr) (c q : Nat) (w W : World) : Prop := Below w.heap.size w W ∧ W.cell? ⟨q, 0, none⟩ = some (.slice A p.dies.length c) ∧ W.cell? ⟨q, 1, none⟩ = some (.int .i64 p.shrink.lo) ∧ W.cell? ⟨q, 2, none⟩ = some (.int .i64 p.shrink.hi) ∧ W.cell? ⟨q, 3, none⟩ = some (.int .i64 p.change)
theorem PbS.drew {p : Press} {A : Option Addr} {c q : Nat} {w W : World} (h : PbS p A c q w W) : PbS p A c q w W.drew := ⟨h.1.drew, h.2⟩
theorem PbS.call {p : Press} {A : Option Addr} {c q : Nat} {w W W' : World} (h : PbS p A c q w W) (hb : Below W.heap.size W W') : PbS p A c q w W' :=
  have e : ∀ {i : Nat} {v : Value}, W.cell? ⟨q, i, none⟩ = some v → W'.cell? ⟨q, i, none⟩ = some v := fun {i _} h => (hb.cell (p := ⟨q, i, none⟩) (World.block_lt_of_cell? W ⟨q, i, none⟩ h)).trans h
  ⟨h.1.trans (hb.mono h.1.size), e h.2.1, e h.2.2.1, e h.2.2.2.1, e h.2.2.2.2⟩
theorem PbS.of {p : Press} {A : Option Addr} {c q : Nat} {w W : World} (hb : Below w.heap.size w W) (h : Blk W q 73 #[.slice A p.dies.length c, .int .i64 p.shrink.lo, .int .i64 p.shrink.hi, .int .i64 p.change]) : PbS p A c q w W := ⟨hb, h.cell 0, h.cell 1, h.cell 2, h.cell 3⟩

theorem cell_far2 {V : World} {q o e i j : Nat} {v u u' : Value} (h : V.cell? ⟨q, o, none⟩ = some v) (hne : q ≠ e) : ((V.setCell ⟨e, i, none⟩ u).setCell ⟨e, j, none⟩ u').cell? ⟨q, o, none⟩ = some v :=
  (World.cell?_of_block (a := ⟨q, o, none⟩) ((Below.heap_setCell _ _ _ _ hne).trans (Below.heap_setCell _ _ _ _ hne))).trans h
def wideE (p : Press) (i u : Int) : Int := errOf p [] (fromB i 0 ((p.dies.length : Int) - 1) && fromB u 0 8000)
def Press.dieI (p : Press) (i : Int) : Die := p.dies.getD i.toNat ⟨1, ⟨0, 0⟩⟩
def wideS (p : Press) (i u : Int) : Span := if wideE p i u = 0 then ⟨thin (p.dieI i) p.shrink u / 1000, cdiv (thick (p.dieI i) p.shrink u) 1000⟩ else ⟨0, 0⟩
/-- The region that asks for the first error. -/
theorem wide_err {p : Press} {i u : Int} (h : wideE p i u = 0) : pressOk p = true ∧ (0 ≤ i ∧ i ≤ (p.dies.length : Int) - 1) ∧ 0 ≤ u ∧ u ≤ 8000 := by
  unfold wideE errOf at h
  split at h
  · split at h
    · rename_i h1 h2
      simp only [Bool.and_eq_true, fromB_iff] at h2
      exact ⟨h1, h2.2.1, h2.2.2⟩
    · cases h
  · cases h
theorem nil_draws (w : World) (A : Option Addr) (B : Nat) : DrawSl w B A [] := fun h => (h rfl).elim
set_option maxRecDepth 100000 in
set_option maxHeartbeats 2000000 in
theorem wide_any (w : World) (A : Option Addr) (c : Nat) (p : Press) (i u : Int) (hp : p.dies.length ≤ 9223372036854775807) (hA : DieSl w w.heap.size A p.dies) :
    Calls Try.prog 34 #[.agg #[.slice A p.dies.length c, .int .i64 p.shrink.lo, .int .i64 p.shrink.hi, .int .i64 p.change], .int .i64 i, .int .i64 u] w (Ret (.tuple #[.agg #[.int .i64 (wideS p i u).lo, .int .i64 (wideS p i u).hi], .int .i64 (wideE p i u)]) w) := by
  have HF : Hid (∀ W o, Below w.heap.size w W → Calls Try.prog 57 #[.agg #[.slice A p.dies.length c, .int .i64 p.shrink.lo, .int .i64 p.shrink.hi, .int .i64 p.change], .slice none 0 0, .bool o] W (Ret (.int .i64 (errOf p [] o)) W)) :=
    Lib.hid fun W o hW => firstError_any W A none c 0 p [] o hp (by simp) (hA.on hW (Nat.le_refl _)) (nil_draws _ _ _)
  have HI : Hid (∀ W, Calls Try.prog 58 #[.agg #[.slice A p.dies.length c, .int .i64 p.shrink.lo, .int .i64 p.shrink.hi, .int .i64 p.change], .int .i64 i] W (Ret (.bool (fromB i 0 ((p.dies.length : Int) - 1))) W)) := Lib.hid fun W => isDie_any A _ c _ _ _ i W hp
  have hb0 : Below w.heap.size w ((w.alloc (.cells #[.slice A p.dies.length c, .int .i64 p.shrink.lo, .int .i64 p.shrink.hi, .int .i64 p.change] 73)).alloc (.cells #[.int .i64 0, .int .i64 0] 23)) := by repeat (first | exact Below.refl _ _ | assumption | refine Below.drew ?_ | refine Below.alloc ?_ (by first | omega | (simp only [World.size_alloc]; omega) | simp) _ | refine Below.setCell ?_ (by first | omega | (simp only [World.size_alloc]; omega) | simp) _)
  have hq0 : Blk ((w.alloc (.cells #[.slice A p.dies.length c, .int .i64 p.shrink.lo, .int .i64 p.shrink.hi, .int .i64 p.change] 73)).alloc (.cells #[.int .i64 0, .int .i64 0] 23)) w.heap.size 73 #[.slice A p.dies.length c, .int .i64 p.shrink.lo, .int .i64 p.shrink.hi, .int .i64 p.change] := (Blk.new _ _ _).alloc _
  have hz0 : Blk ((w.alloc (.cells #[.slice A p.dies.length c, .int .i64 p.shrink.lo, .int .i64 p.shrink.hi, .int .i64 p.change] 73)).alloc (.cells #[.int .i64 0, .int .i64 0] 23)) (w.heap.size + 1) 23 #[.int .i64 0, .int .i64 0] := blk_at _ _ (by simp)
  have HA := Lib.hid hA
  have HW : Hid (wideE p i u = errOf p [] (fromB i 0 ((p.dies.length : Int) - 1) && fromB u 0 8000)) := Lib.hid rfl
  have HWS : Hid (wideS p i u = if wideE p i u = 0 then ⟨thin (p.dieI i) p.shrink u / 1000, cdiv (thick (p.dieI i) p.shrink u) 1000⟩ else ⟨0, 0⟩) := Lib.hid rfl
  have HWE : Hid (wideE p i u = 0 → pressOk p = true ∧ (0 ≤ i ∧ i ≤ (p.dies.length : Int) - 1) ∧ 0 ≤ u ∧ u ≤ 8000) := Lib.hid wide_err
  generalize wideE p i u = er at HW HWS HWE ⊢
  generalize wideS p i u = sp at HWS ⊢
  obtain ⟨b1, hb1⟩ : ∃ x, fromB i 0 ((p.dies.length : Int) - 1) = x := ⟨_, rfl⟩
  rw [hb1] at HI HW
  clear hb1 hA
  cases b1 with
  | true =>
    go_enter Try.func34, Try.ntmps34
    go_wp2_with fail
    generalize World.alloc (World.alloc w _) _ = W0 at hb0 hq0 hz0 ⊢
    have hS := PbS.of (Below.refl _ W0) hq0
    have HS := Lib.hid hS
    have HB0 := Lib.hid hb0
    have HQ0 := Lib.hid hq0
    have HZ0 := Lib.hid hz0
    unfold PbS at hS
    clear hb0 hq0 hz0
    go_region_held3 (fun W => Below W0.heap.size W0 W ∧ W.cell? ⟨w.heap.size, 0, none⟩ = some (.slice A p.dies.length c) ∧ W.cell? ⟨w.heap.size, 1, none⟩ = some (.int .i64 p.shrink.lo) ∧ W.cell? ⟨w.heap.size, 2, none⟩ = some (.int .i64 p.shrink.hi) ∧ W.cell? ⟨w.heap.size, 3, none⟩ = some (.int .i64 p.change))
      (first | exact HS.out.drew | exact HS1.out | exact HS2.out | assumption | fail "keep")
      (first
        | (go_at_call 58; (with_reducible refine (HI.out _).mono ?_); rintro e e1 ⟨rfl, hb1⟩; have HS1 := Lib.hid (HS.out.drew.call hb1); have HBW := Lib.hid (HB0.out.trans (HS1.out.1.mono HB0.out.size)); clear hb1)
        | (go_at_call 50; (with_reducible refine (isFrom_any _ _ _ _).mono ?_); rintro e e2 ⟨rfl, rfl⟩)
        | (go_at_call 57; (with_reducible refine (HF.out _ _ HBW.out).mono ?_); rintro e e2 ⟨rfl, hb2⟩; have HS2 := Lib.hid (HS1.out.call hb2); clear hb2)
        | fail "no arm")
    (try rw [Bool.true_and] at HW); (try rw [Bool.false_and] at HW); rw [← HW.out]; have HBX := Lib.hid (HB0.out.trans (HS2.out.1.mono HB0.out.size)); have HZ2 := Lib.hid (HZ0.out.below HS2.out.1 HZ0.out.lt); obtain ⟨-, x0, x1, x2, x3⟩ := HS2.out; clear hS HS HS1 HBW HF HI HQ0 HZ0; by_cases h0 : er = 0
    · subst h0
      obtain ⟨hpk, ⟨i0, i1⟩, u0, u1⟩ := HWE.out rfl; obtain ⟨k, rfl⟩ := Int.eq_ofNat_of_zero_le i0; have hk : k < p.dies.length := (by omega); have hM := mount_any e2 A c p k hk (HA.out.on HBX.out (Nat.le_refl _)); go_wp2_with fail; refine hM.mono ?_; rintro e W3 ⟨q, r, s, q2, r2, s2, rfl, hMo, hb3⟩; obtain ⟨-, hdi, hsh, -⟩ := press_parts hpk; have hdk := hdi p.dies[k] (List.getElem_mem hk); have HMo := Lib.hid hMo; have HRD : Hid (∀ V, Below W3.heap.size W3 V → Calls Try.prog 60 #[.agg #[.func (.func 107) #[] #[.pointer (some ⟨q, 0, none⟩), .pointer (some ⟨r, 0, none⟩), .pointer (some ⟨s, 0, none⟩)], .func (.func 89) #[] #[]], .int .i64 u] V (Ret (.int .i64 (thin p.dies[k] p.shrink u / 1000)) V)) := (Lib.hid fun V hV => (by obtain ⟨d1, d2, d3, d4, d5⟩ := hdk; obtain ⟨g1, g2, g3⟩ := hsh; exact roundDown_any V q r s _ _ _ u (HMo.out.lo.on hV (Nat.le_refl _)) d1 d2 d3 (by omega) (by omega) g3 u0 (by omega))); have HRU : Hid (∀ V, Below W3.heap.size W3 V → Calls Try.prog 60 #[.agg #[.func (.func 107) #[] #[.pointer (some ⟨q2, 0, none⟩), .pointer (some ⟨r2, 0, none⟩), .pointer (some ⟨s2, 0, none⟩)], .func (.func 90) #[] #[]], .int .i64 u] V (Ret (.int .i64 (cdiv (thick p.dies[k] p.shrink u) 1000)) V)) := (Lib.hid fun V hV => (by obtain ⟨d1, d2, d3, d4, d5⟩ := hdk; obtain ⟨g1, g2, g3⟩ := hsh; exact roundUp_any V q2 r2 s2 _ _ _ u (HMo.out.hi.on hV (Nat.le_refl _)) d1 d2 (by omega) d5 g1 (by omega) u0 (by omega))); have HSP : Hid (sp = ⟨thin p.dies[k] p.shrink u / 1000, cdiv (thick p.dies[k] p.shrink u) 1000⟩) := (Lib.hid (by rw [HWS.out, if_pos trivial]; simp [Press.dieI, hk])); have HB3 := Lib.hid (HBX.out.trans (hb3.mono HBX.out.size)); have HZ3 := Lib.hid (HZ2.out.below hb3 HZ2.out.lt); have hzl := HZ2.out.lt; have hb3s := hb3.size; generalize p.dies[k] = dk at *; obtain ⟨t1, ht1⟩ : ∃ x, thin dk p.shrink u / 1000 = x := ⟨_, rfl⟩; obtain ⟨t2, ht2⟩ : ∃ x, cdiv (thick dk p.shrink u) 1000 = x := ⟨_, rfl⟩; rw [ht1, ht2] at HSP; rw [ht1] at HRD; rw [ht2] at HRU; clear x0 x1 x2 x3 HWS HWE HW hM hMo hb3 HS2 HZ2 HBX HB0 hdi hdk hsh hpk ht1 ht2 HMo HA; go_wp2_with fail; generalize hW4 : World.alloc W3 _ = W4; have hB4 : Below W3.heap.size W3 W4 := (by rw [← hW4]; exact (Below.refl _ _).alloc (Nat.le_refl _) _); have hK4 : Blk W4 W3.heap.size 120 #[.int .i64 dk.wide, .int .i64 dk.wear.lo, .int .i64 dk.wear.hi, .func (.func 107) #[] #[.pointer (some ⟨q, 0, none⟩), .pointer (some ⟨r, 0, none⟩), .pointer (some ⟨s, 0, none⟩)], .func (.func 89) #[] #[], .func (.func 107) #[] #[.pointer (some ⟨q2, 0, none⟩), .pointer (some ⟨r2, 0, none⟩), .pointer (some ⟨s2, 0, none⟩)], .func (.func 90) #[] #[]] := (by rw [← hW4]; exact Blk.new _ _ _); have m3 := hK4.cell 3; have m4 := hK4.cell 4; have m5 := hK4.cell 5; have m6 := hK4.cell 6; have HB4 := Lib.hid hB4; have HK4 := Lib.hid hK4; clear hB4 hK4 hW4; go_region_held3 (fun W => W.cell? ⟨W3.heap.size, 3, none⟩ = some (.func (.func 107) #[] #[.pointer (some ⟨q, 0, none⟩), .pointer (some ⟨r, 0, none⟩), .pointer (some ⟨s, 0, none⟩)]) ∧ W.cell? ⟨W3.heap.size, 4, none⟩ = some (.func (.func 89) #[] #[]) ∧ W.cell? ⟨W3.heap.size, 5, none⟩ = some (.func (.func 107) #[] #[.pointer (some ⟨q2, 0, none⟩), .pointer (some ⟨r2, 0, none⟩), .pointer (some ⟨s2, 0, none⟩)]) ∧ W.cell? ⟨W3.heap.size, 6, none⟩ = some (.func (.func 90) #[] #[])) (first | exact ⟨m3, m4, m5, m6⟩ | exact ⟨HK5.out.cell 3, HK5.out.cell 4, HK5.out.cell 5, HK5.out.cell 6⟩ | exact ⟨HK6.out.cell 3, HK6.out.cell 4, HK6.out.cell 5, HK6.out.cell 6⟩ | exact ⟨cell_far2 (HK6.out.cell 3) hne1, cell_far2 (HK6.out.cell 4) hne1, cell_far2 (HK6.out.cell 5) hne1, cell_far2 (HK6.out.cell 6) hne1⟩ | assumption | fail "keep") (first | (go_at_call 60; (with_reducible refine (HRD.out _ (HB4.out.drew)).mono ?_); rintro e e5 ⟨rfl, hb5⟩; have HB5 := Lib.hid (HB4.out.trans (Below.mono (Below.trans (Below.refl _ _).drew hb5) HB4.out.size)); have HK5 := Lib.hid (HK4.out.below (Below.trans (Below.refl _ _).drew hb5) HK4.out.lt); clear hb5) | (go_at_call 60; (with_reducible refine (HRU.out _ HB5.out).mono ?_); rintro e e6 ⟨rfl, hb6⟩; have HB6 := Lib.hid (HB5.out.trans (hb6.mono HB5.out.size)); have HK6 := Lib.hid (HK5.out.below hb6 HK5.out.lt); have HZ6 := Lib.hid (HZ3.out.below HB6.out HZ3.out.lt); have z0 := HZ6.out.cell 0; have z1 := HZ6.out.cell 1; have f0 := HZ6.out.frozen 0; have f1 := HZ6.out.frozen 1; have hne1 : W3.heap.size ≠ w.heap.size + 1 := (by omega); clear hb6) | fail "no arm"); go_wp2_with fail; have hsp := HSP.out; subst hsp; exact bodyPost_ret (results_blk_tmp rfl _ rfl ((HZ6.out.set_ 0 _).set_ 1 _) (by kernel_rfl) (by kernel_rfl)) rfl ⟨rfl, ((HB3.out.trans (HB6.out.mono HB3.out.size)).setCell (by simp) _).setCell (by simp) _⟩
    · have hne : (er == 0) = false := (by rw [beq_eq_false_iff_ne]; exact h0); have hsp : sp = ⟨0, 0⟩ := (by rw [HWS.out, if_neg h0]); subst hsp; have z0 := HZ2.out.cell 0; have z1 := HZ2.out.cell 1; have f0 := HZ2.out.frozen 0; have f1 := HZ2.out.frozen 1; go_wp2_with fail; exact bodyPost_ret (results_blk_tmp rfl _ rfl ((HZ2.out.set_ 0 _).set_ 1 _) (by kernel_rfl) (by kernel_rfl)) rfl ⟨rfl, (HBX.out.setCell (by simp) _).setCell (by simp) _⟩
  | false =>
    go_enter Try.func34, Try.ntmps34
    go_wp2_with fail
    generalize World.alloc (World.alloc w _) _ = W0 at hb0 hq0 hz0 ⊢
    have hS := PbS.of (Below.refl _ W0) hq0
    have HS := Lib.hid hS
    have HB0 := Lib.hid hb0
    have HQ0 := Lib.hid hq0
    have HZ0 := Lib.hid hz0
    obtain ⟨-, x0, x1, x2, x3⟩ := hS
    have hS : True := trivial
    clear hb0 hq0 hz0
    first
      | (go_region_with (first
            | (go_at_call 58; (with_reducible refine (HI.out _).mono ?_); rintro e e1 ⟨rfl, hb1⟩; have HS1 := Lib.hid (HS.out.drew.call hb1); have HBW := Lib.hid (HB0.out.trans (HS1.out.1.mono HB0.out.size)); obtain ⟨-, y0, y1, y2, y3⟩ := HS1.out; clear hb1)
            | (go_at_call 57; (with_reducible refine (HF.out _ _ HBW.out).mono ?_); rintro e e2 ⟨rfl, hb2⟩; have HS2 := Lib.hid (HS1.out.call hb2); clear hb2)))
      | fail "reg"
    all_goals
      (try rw [Bool.true_and] at HW); (try rw [Bool.false_and] at HW); rw [← HW.out]; have HBX := Lib.hid (HB0.out.trans (HS2.out.1.mono HB0.out.size)); have HZ2 := Lib.hid (HZ0.out.below HS2.out.1 HZ0.out.lt); obtain ⟨-, x0, x1, x2, x3⟩ := HS2.out; clear hS HS HS1 HBW HF HI HQ0 HZ0; by_cases h0 : er = 0
      · subst h0
        obtain ⟨hpk, ⟨i0, i1⟩, u0, u1⟩ := HWE.out rfl; obtain ⟨k, rfl⟩ := Int.eq_ofNat_of_zero_le i0; have hk : k < p.dies.length := (by omega); have hM := mount_any e2 A c p k hk (HA.out.on HBX.out (Nat.le_refl _)); go_wp2_with fail; refine hM.mono ?_; rintro e W3 ⟨q, r, s, q2, r2, s2, rfl, hMo, hb3⟩; obtain ⟨-, hdi, hsh, -⟩ := press_parts hpk; have hdk := hdi p.dies[k] (List.getElem_mem hk); have HMo := Lib.hid hMo; have HRD : Hid (∀ V, Below W3.heap.size W3 V → Calls Try.prog 60 #[.agg #[.func (.func 107) #[] #[.pointer (some ⟨q, 0, none⟩), .pointer (some ⟨r, 0, none⟩), .pointer (some ⟨s, 0, none⟩)], .func (.func 89) #[] #[]], .int .i64 u] V (Ret (.int .i64 (thin p.dies[k] p.shrink u / 1000)) V)) := (Lib.hid fun V hV => (by obtain ⟨d1, d2, d3, d4, d5⟩ := hdk; obtain ⟨g1, g2, g3⟩ := hsh; exact roundDown_any V q r s _ _ _ u (HMo.out.lo.on hV (Nat.le_refl _)) d1 d2 d3 (by omega) (by omega) g3 u0 (by omega))); have HRU : Hid (∀ V, Below W3.heap.size W3 V → Calls Try.prog 60 #[.agg #[.func (.func 107) #[] #[.pointer (some ⟨q2, 0, none⟩), .pointer (some ⟨r2, 0, none⟩), .pointer (some ⟨s2, 0, none⟩)], .func (.func 90) #[] #[]], .int .i64 u] V (Ret (.int .i64 (cdiv (thick p.dies[k] p.shrink u) 1000)) V)) := (Lib.hid fun V hV => (by obtain ⟨d1, d2, d3, d4, d5⟩ := hdk; obtain ⟨g1, g2, g3⟩ := hsh; exact roundUp_any V q2 r2 s2 _ _ _ u (HMo.out.hi.on hV (Nat.le_refl _)) d1 d2 (by omega) d5 g1 (by omega) u0 (by omega))); have HSP : Hid (sp = ⟨thin p.dies[k] p.shrink u / 1000, cdiv (thick p.dies[k] p.shrink u) 1000⟩) := (Lib.hid (by rw [HWS.out, if_pos trivial]; simp [Press.dieI, hk])); have HB3 := Lib.hid (HBX.out.trans (hb3.mono HBX.out.size)); have HZ3 := Lib.hid (HZ2.out.below hb3 HZ2.out.lt); have hzl := HZ2.out.lt; have hb3s := hb3.size; generalize p.dies[k] = dk at *; obtain ⟨t1, ht1⟩ : ∃ x, thin dk p.shrink u / 1000 = x := ⟨_, rfl⟩; obtain ⟨t2, ht2⟩ : ∃ x, cdiv (thick dk p.shrink u) 1000 = x := ⟨_, rfl⟩; rw [ht1, ht2] at HSP; rw [ht1] at HRD; rw [ht2] at HRU; clear x0 x1 x2 x3 HWS HWE HW hM hMo hb3 HS2 HZ2 HBX HB0 hdi hdk hsh hpk ht1 ht2 HMo HA; go_wp2_with fail; generalize hW4 : World.alloc W3 _ = W4; have hB4 : Below W3.heap.size W3 W4 := (by rw [← hW4]; exact (Below.refl _ _).alloc (Nat.le_refl _) _); have hK4 : Blk W4 W3.heap.size 120 #[.int .i64 dk.wide, .int .i64 dk.wear.lo, .int .i64 dk.wear.hi, .func (.func 107) #[] #[.pointer (some ⟨q, 0, none⟩), .pointer (some ⟨r, 0, none⟩), .pointer (some ⟨s, 0, none⟩)], .func (.func 89) #[] #[], .func (.func 107) #[] #[.pointer (some ⟨q2, 0, none⟩), .pointer (some ⟨r2, 0, none⟩), .pointer (some ⟨s2, 0, none⟩)], .func (.func 90) #[] #[]] := (by rw [← hW4]; exact Blk.new _ _ _); have m3 := hK4.cell 3; have m4 := hK4.cell 4; have m5 := hK4.cell 5; have m6 := hK4.cell 6; have HB4 := Lib.hid hB4; have HK4 := Lib.hid hK4; clear hB4 hK4 hW4; go_region_held3 (fun W => W.cell? ⟨W3.heap.size, 3, none⟩ = some (.func (.func 107) #[] #[.pointer (some ⟨q, 0, none⟩), .pointer (some ⟨r, 0, none⟩), .pointer (some ⟨s, 0, none⟩)]) ∧ W.cell? ⟨W3.heap.size, 4, none⟩ = some (.func (.func 89) #[] #[]) ∧ W.cell? ⟨W3.heap.size, 5, none⟩ = some (.func (.func 107) #[] #[.pointer (some ⟨q2, 0, none⟩), .pointer (some ⟨r2, 0, none⟩), .pointer (some ⟨s2, 0, none⟩)]) ∧ W.cell? ⟨W3.heap.size, 6, none⟩ = some (.func (.func 90) #[] #[])) (first | exact ⟨m3, m4, m5, m6⟩ | exact ⟨HK5.out.cell 3, HK5.out.cell 4, HK5.out.cell 5, HK5.out.cell 6⟩ | exact ⟨HK6.out.cell 3, HK6.out.cell 4, HK6.out.cell 5, HK6.out.cell 6⟩ | exact ⟨cell_far2 (HK6.out.cell 3) hne1, cell_far2 (HK6.out.cell 4) hne1, cell_far2 (HK6.out.cell 5) hne1, cell_far2 (HK6.out.cell 6) hne1⟩ | assumption | fail "keep") (first | (go_at_call 60; (with_reducible refine (HRD.out _ (HB4.out.drew)).mono ?_); rintro e e5 ⟨rfl, hb5⟩; have HB5 := Lib.hid (HB4.out.trans (Below.mono (Below.trans (Below.refl _ _).drew hb5) HB4.out.size)); have HK5 := Lib.hid (HK4.out.below (Below.trans (Below.refl _ _).drew hb5) HK4.out.lt); clear hb5) | (go_at_call 60; (with_reducible refine (HRU.out _ HB5.out).mono ?_); rintro e e6 ⟨rfl, hb6⟩; have HB6 := Lib.hid (HB5.out.trans (hb6.mono HB5.out.size)); have HK6 := Lib.hid (HK5.out.below hb6 HK5.out.lt); have HZ6 := Lib.hid (HZ3.out.below HB6.out HZ3.out.lt); have z0 := HZ6.out.cell 0; have z1 := HZ6.out.cell 1; have f0 := HZ6.out.frozen 0; have f1 := HZ6.out.frozen 1; have hne1 : W3.heap.size ≠ w.heap.size + 1 := (by omega); clear hb6) | fail "no arm"); go_wp2_with fail; have hsp := HSP.out; subst hsp; exact bodyPost_ret (results_blk_tmp rfl _ rfl ((HZ6.out.set_ 0 _).set_ 1 _) (by kernel_rfl) (by kernel_rfl)) rfl ⟨rfl, ((HB3.out.trans (HB6.out.mono HB3.out.size)).setCell (by simp) _).setCell (by simp) _⟩
      · have hne : (er == 0) = false := (by rw [beq_eq_false_iff_ne]; exact h0); have hsp : sp = ⟨0, 0⟩ := (by rw [HWS.out, if_neg h0]); subst hsp; have z0 := HZ2.out.cell 0; have z1 := HZ2.out.cell 1; have f0 := HZ2.out.frozen 0; have f1 := HZ2.out.frozen 1; go_wp2_with fail; exact bodyPost_ret (results_blk_tmp rfl _ rfl ((HZ2.out.set_ 0 _).set_ 1 _) (by kernel_rfl) (by kernel_rfl)) rfl ⟨rfl, (HBX.out.setCell (by simp) _).setCell (by simp) _⟩
end Go.Proofs.Ytfpfafijockfnaa

