/- The law TopBlack: what its last drawn regions keep. -/
import Derived.Test.YtffglhnmgapndaaTb2
namespace Go.Proofs.Ytffglhnmgapndaa
open Go.RowKit Go.Shelf

def FrS (w : World) (p r : Nat) (F : Frac) (tl : Int) (W : World) : Prop := Below w.heap.size w W ∧ W.cell? ⟨p, 0, none⟩ = some (.int .i64 F.top) ∧ W.cell? ⟨p, 1, none⟩ = some (.int .i64 F.under) ∧ W.cell? ⟨r, 4, none⟩ = some (.int .i64 tl)
theorem FrS.to {w : World} {p r : Nat} {F : Frac} {tl : Int} {W W' : World} (h : FrS w p r F tl W) (hp : p < w.heap.size) (hr : r < w.heap.size) (hb : Below w.heap.size W W') : FrS w p r F tl W' :=
  ⟨h.1.trans hb, (hb.cell (p := ⟨p, _, none⟩) hp).trans h.2.1, (hb.cell (p := ⟨p, _, none⟩) hp).trans h.2.2.1, (hb.cell (p := ⟨r, _, none⟩) hr).trans h.2.2.2⟩
def ShS (w : World) (p : Nat) (s : Span) (W : World) : Prop := Below w.heap.size w W ∧ W.cell? ⟨p, 0, none⟩ = some (.int .i64 s.lo) ∧ W.cell? ⟨p, 1, none⟩ = some (.int .i64 s.hi)
theorem ShS.to {w : World} {p : Nat} {s : Span} {W W' : World} (h : ShS w p s W) (hp : p < w.heap.size) (hb : Below w.heap.size W W') : ShS w p s W' :=
  ⟨h.1.trans hb, (hb.cell (p := ⟨p, _, none⟩) hp).trans h.2.1, (hb.cell (p := ⟨p, _, none⟩) hp).trans h.2.2⟩
def EnS (w : World) (p r s : Nat) (F F1 F2 : Frac) (W : World) : Prop := Below w.heap.size w W ∧ W.cell? ⟨p, 0, none⟩ = some (.int .i64 F.top) ∧ W.cell? ⟨p, 1, none⟩ = some (.int .i64 F.under) ∧ W.cell? ⟨r, 0, none⟩ = some (.int .i64 F1.top) ∧ W.cell? ⟨r, 1, none⟩ = some (.int .i64 F1.under) ∧ W.cell? ⟨s, 0, none⟩ = some (.int .i64 F2.top) ∧ W.cell? ⟨s, 1, none⟩ = some (.int .i64 F2.under)
theorem EnS.to {w : World} {p r s : Nat} {F F1 F2 : Frac} {W W' : World} (h : EnS w p r s F F1 F2 W) (hp : p < w.heap.size) (hr : r < w.heap.size) (hs : s < w.heap.size) (hb : Below w.heap.size W W') : EnS w p r s F F1 F2 W' :=
  ⟨h.1.trans hb, (hb.cell (p := ⟨p, _, none⟩) hp).trans h.2.1, (hb.cell (p := ⟨p, _, none⟩) hp).trans h.2.2.1, (hb.cell (p := ⟨r, _, none⟩) hr).trans h.2.2.2.1, (hb.cell (p := ⟨r, _, none⟩) hr).trans h.2.2.2.2.1, (hb.cell (p := ⟨s, _, none⟩) hs).trans h.2.2.2.2.2.1, (hb.cell (p := ⟨s, _, none⟩) hs).trans h.2.2.2.2.2.2⟩
/-- What a region has run to: blocks of its own, kept. -/
structure Run (w0 : World) (L : List (Nat × TypeId × Array Value)) (W : World) : Prop where
  below : Below w0.heap.size w0 W
  kept : ∀ x ∈ L, w0.heap.size ≤ x.1 ∧ Blk W x.1 x.2.1 x.2.2
  apart : L.Pairwise fun a b => b.1 < a.1
section
variable {w0 W W' : World} {L : List (Nat × TypeId × Array Value)}
theorem Run.start (w0 : World) : Run w0 [] w0 := ⟨Below.refl _ _, fun _ h => (by cases h), .nil⟩
theorem Run.call (h : Run w0 L W) (hb : Below W.heap.size W W') : Run w0 L W' :=
  ⟨h.below.trans (hb.mono h.below.size), fun x hx => ⟨(h.kept x hx).1, (h.kept x hx).2.below hb (h.kept x hx).2.lt⟩, h.apart⟩
theorem Run.drw (h : Run w0 L W) : Run w0 L W.drew := h.call (Below.refl _ _).drew
theorem Run.new (h : Run w0 L W) (t : TypeId) (cs : Array Value) : Run w0 ((W.heap.size, t, cs) :: L) (W.alloc (.cells cs t)) := by
  have h2 := h.call (W' := W.alloc (.cells cs t)) ((Below.refl _ _).alloc (Nat.le_refl _) _)
  refine ⟨h2.below, fun x hx => ?_, List.pairwise_cons.2 ⟨fun x hx => (h.kept x hx).2.lt, h.apart⟩⟩
  rcases List.mem_cons.1 hx with rfl | hx
  · exact ⟨h.below.size, Blk.new _ _ _⟩
  · exact h2.kept x hx
theorem Run.ne {x y : Nat × TypeId × Array Value} (h : Run w0 (y :: x :: L) W) : x.1 ≠ y.1 ∧ y.1 ≠ x.1 := by
  have := (List.pairwise_cons.1 h.apart).1 x (List.mem_cons_self ..)
  omega
theorem below_al (h : Below w0.heap.size w0 W) (o : Obj) : Below w0.heap.size w0 (W.alloc o) := h.alloc h.size o
theorem Run.one {x : Nat × TypeId × Array Value} (h : Run w0 (x :: L) W) : w0.heap.size ≤ x.1 ∧ Blk W x.1 x.2.1 x.2.2 := h.kept _ (List.mem_cons_self ..)
theorem Run.two {x y : Nat × TypeId × Array Value} (h : Run w0 (y :: x :: L) W) : w0.heap.size ≤ x.1 ∧ Blk W x.1 x.2.1 x.2.2 := h.kept _ (by simp)
end

/-- Behind region 34: two boxes with the curve's fractions at both ends. -/
def Fin (w0 : World) (c1 c2 : Array Value) (p r : Nat) (W : World) : Prop := Blk W p 50 c1 ∧ Blk W r 50 c2 ∧ Below w0.heap.size w0 W
section
variable {w0 W : World} {a1 b1 a2 b2 : Value} {p r : Nat}
theorem fin_new (h : Below w0.heap.size w0 W) (c1 c2 : Array Value) : Fin w0 c1 c2 W.heap.size (W.heap.size + 1) ((W.alloc (.cells c1 50)).alloc (.cells c2 50)) :=
  ⟨(Blk.new W _ _).alloc _, blk_at _ _ (by simp), below_al (below_al h _) _⟩
theorem fin_new' (h : Below w0.heap.size w0 W) (c1 c2 : Array Value) : Fin w0 c1 c2 (W.heap.size + 1) W.heap.size ((W.alloc (.cells c2 50)).alloc (.cells c1 50)) :=
  ⟨blk_at _ _ (by simp), (Blk.new W _ _).alloc _, below_al (below_al h _) _⟩
theorem two_set (h : Below w0.heap.size w0 W) (hp : w0.heap.size ≤ p) (a b : Value) : Below w0.heap.size w0 ((W.setCell ⟨p, 0, none⟩ a).setCell ⟨p, 1, none⟩ b) := (h.setCell (p := ⟨p, 0, none⟩) hp _).setCell (p := ⟨p, 1, none⟩) hp _
theorem two_blk {t : TypeId} {x y : Value} (hx : Blk W p t #[x, y]) (a b : Value) : Blk ((W.setCell ⟨p, 0, none⟩ a).setCell ⟨p, 1, none⟩ b) p t #[a, b] := (hx.set_ 0 a).set_ 1 b
theorem two_far {t : TypeId} {cs : Array Value} {g : Nat} (hx : Blk W g t cs) (hg : g ≠ p) (a b : Value) : Blk ((W.setCell ⟨p, 0, none⟩ a).setCell ⟨p, 1, none⟩ b) g t cs := (hx.far (p := ⟨p, 0, none⟩) hg a).far (p := ⟨p, 1, none⟩) hg b
theorem fin_one {x y : Value} (h : Below w0.heap.size w0 W) (hx : Blk W p 50 #[x, y]) (hp : w0.heap.size ≤ p) (c2 : Array Value) : Fin w0 #[a1, b1] c2 p W.heap.size (((W.setCell ⟨p, 0, none⟩ a1).setCell ⟨p, 1, none⟩ b1).alloc (.cells c2 50)) :=
  ⟨(two_blk hx _ _).alloc _, blk_at _ _ (by simp), below_al (two_set h hp _ _) _⟩
theorem fin_one' {x y : Value} (h : Below w0.heap.size w0 W) (hx : Blk W r 50 #[x, y]) (hr : w0.heap.size ≤ r) (c1 : Array Value) : Fin w0 c1 #[a2, b2] W.heap.size r (((W.setCell ⟨r, 0, none⟩ a2).setCell ⟨r, 1, none⟩ b2).alloc (.cells c1 50)) :=
  ⟨blk_at _ _ (by simp), (two_blk hx _ _).alloc _, below_al (two_set h hr _ _) _⟩
theorem fin_two {x y x' y' : Value} (h : Below w0.heap.size w0 W) (hx : Blk W p 50 #[x, y]) (hy : Blk W r 50 #[x', y']) (hp : w0.heap.size ≤ p) (hr : w0.heap.size ≤ r) (hne : p ≠ r) :
    Fin w0 #[a1, b1] #[a2, b2] p r ((((W.setCell ⟨p, 0, none⟩ a1).setCell ⟨p, 1, none⟩ b1).setCell ⟨r, 0, none⟩ a2).setCell ⟨r, 1, none⟩ b2) :=
  ⟨two_far (two_blk hx _ _) hne _ _, two_blk (two_far hy (Ne.symm hne) _ _) _ _, two_set (two_set h hp _ _) hr _ _⟩
end
end Go.Proofs.Ytffglhnmgapndaa
