/- The law DieEnds: what is carried through its walk. -/
import Derived.Test.YtkokacdaiklfjaaAw
import Derived.Test.YtkokacdaiklfjaaLe1
import Derived.Test.YtkokacdaiklfjaaRp
import Derived.Deep.RegionLawGrows
import Derived.Test.YtkokacdaiklfjaaSo
namespace Go.Proofs.Ytkokacdaiklfjaa
open Go.RowKit Go.Shelf

structure LeS (w : World) (p : Press) (A : Option Addr) (c : Nat) (n : Int) (want : Span) (W : World) : Prop where
  below : Below w.heap.size w W
  bq : Blk W w.heap.size 26 #[.slice A p.dies.length c, .int .i64 p.shrink.lo, .int .i64 p.shrink.hi, .int .i64 p.change]
  bn : Blk W (w.heap.size + 1) 3 #[.int .i64 n]
  bs : Blk W (w.heap.size + 2) 24 #[.int .i64 want.lo, .int .i64 want.hi]
  dl : DieSl W w.heap.size A p.dies
theorem LeS.low {w : World} {p : Press} {A : Option Addr} {c : Nat} {n : Int} {want : Span} {W W' : World} (h : LeS w p A c n want W) (hb : Below (w.heap.size + 3) W W') : LeS w p A c n want W' :=
  ⟨h.below.trans (hb.mono (by omega)), h.bq.below hb (by omega), h.bn.below hb (by omega), h.bs.below hb (by omega), h.dl.below (hb.mono (by omega))⟩
theorem LeS.call {w : World} {p : Press} {A : Option Addr} {c : Nat} {n : Int} {want : Span} {W W' : World} (h : LeS w p A c n want W) (hb : Below W.heap.size W W') : LeS w p A c n want W' := h.low (hb.mono (by have := h.bs.lt; omega))
theorem LeS.da {w : World} {p : Press} {A : Option Addr} {c : Nat} {n : Int} {want : Span} {W : World} (h : LeS w p A c n want W) : DieSl W W.heap.size A p.dies := h.dl.more h.below.size
/-- The dies in a block of the call's own. -/
structure FrD (W : World) (g : Nat) (l : List Die) : Prop where
  lt : g < W.heap.size
  at_ : At3 dieF W g 0 l
  fr : ∀ j, W.frozen? ⟨g, j, none⟩ = false
theorem FrD.call {W W' : World} {g : Nat} {l : List Die} (h : FrD W g l) (hb : Below W.heap.size W W') : FrD W' g l :=
  ⟨Nat.lt_of_lt_of_le h.lt hb.size, h.at_.below hb h.lt, fun j => (hb.frozen (p := ⟨g, j, none⟩) h.lt).trans (h.fr j)⟩
theorem At3.far {α : Type} {f : α → Int × Int × Int} {W : World} {b off : Nat} {l : List α} (h : At3 f W b off l) {p : Addr} (hne : b ≠ p.block) (v : Value) : At3 f (W.setCell p v) b off l := h.same (Below.heap_setCell W p v b hne)
theorem FrD.far {W : World} {g : Nat} {l : List Die} (h : FrD W g l) {p : Addr} (hne : g ≠ p.block) (v : Value) : FrD (W.setCell p v) g l :=
  ⟨by simpa using h.lt, h.at_.far hne v, fun j => by rw [World.frozen?_setCell]; exact h.fr j⟩
theorem FrD.sl {W : World} {g : Nat} {l : List Die} (h : FrD W g l) : DieSl W W.heap.size (some ⟨g, 0, none⟩) l := fun _ => ⟨g, 0, rfl, h.lt, h.at_⟩
theorem sc_ne {W : World} {g i j : Nat} {v : Value} (h : i ≠ j) : (W.setCell ⟨g, i, none⟩ v).cell? ⟨g, j, none⟩ = W.cell? ⟨g, j, none⟩ := World.cell?_setCell_other _ _ _ _ (fun e => h (by cases e; rfl))
theorem FrD.put {W : World} {g : Nat} {l : List Die} (h : FrD W g l) {k : Nat} (hk : k < l.length) (x y : Int) : FrD ((W.setCell ⟨g, k * 3 + 1, none⟩ (.int .i64 x)).setCell ⟨g, k * 3 + 2, none⟩ (.int .i64 y)) g (l.set k ⟨l[k].wide, ⟨x, y⟩⟩) := by
  refine ⟨by simpa using h.lt, fun i hi => ?_, fun j => by rw [World.frozen?_setCell, World.frozen?_setCell]; exact h.fr j⟩
  rw [List.length_set] at hi
  obtain ⟨a0, a1, a2⟩ := h.at_ i hi
  rw [Nat.zero_add] at a0 a1 a2 ⊢
  by_cases hik : k = i
  · subst hik
    rw [List.getElem_set_self]
    refine ⟨?_, ?_, ?_⟩
    · rw [sc_ne (by omega), sc_ne (by omega)]; exact a0
    · rw [sc_ne (by omega)]; exact World.cell?_setCell_same _ _ _ a1
    · exact World.cell?_setCell_same (u := .int .i64 (dieF l[k]).2.2) _ _ _ (by rw [sc_ne (by omega)]; exact a2)
  · rw [List.getElem_set_ne hik]
    refine ⟨?_, ?_, ?_⟩
    · rw [sc_ne (by omega), sc_ne (by omega)]; exact a0
    · rw [sc_ne (by omega), sc_ne (by omega)]; exact a1
    · rw [sc_ne (by omega), sc_ne (by omega)]; exact a2
def dieVs (l : List Die) : List Value := l.flatMap fun d => [.int .i64 d.wide, .int .i64 d.wear.lo, .int .i64 d.wear.hi]
theorem dieVs_len (l : List Die) : (dieVs l).length = l.length * 3 := by
  induction l with
  | nil => rfl
  | cons d l ih => simp only [dieVs, List.flatMap_cons, List.length_append, List.length_cons, List.length_nil] at ih ⊢; omega
theorem dieVs_at : ∀ (l : List Die) (i : Nat) (h : i < l.length), (dieVs l)[i * 3]? = some (.int .i64 l[i].wide) ∧ (dieVs l)[i * 3 + 1]? = some (.int .i64 l[i].wear.lo) ∧ (dieVs l)[i * 3 + 2]? = some (.int .i64 l[i].wear.hi)
  | d :: l, 0, _ => by simp [dieVs]
  | d :: l, i + 1, h => by
    have := dieVs_at l i (by simpa using h)
    have e : dieVs (d :: l) = [.int .i64 d.wide, .int .i64 d.wear.lo, .int .i64 d.wear.hi] ++ dieVs l := by simp [dieVs]
    rw [e]
    refine ⟨?_, ?_, ?_⟩
    · rw [List.getElem?_append_right (by simp; omega), show (i + 1) * 3 - [Value.int .i64 d.wide, .int .i64 d.wear.lo, .int .i64 d.wear.hi].length = i * 3 by simp; omega]; simpa using this.1
    · rw [List.getElem?_append_right (by simp; omega), show (i + 1) * 3 + 1 - [Value.int .i64 d.wide, .int .i64 d.wear.lo, .int .i64 d.wear.hi].length = i * 3 + 1 by simp; omega]; simpa using this.2.1
    · rw [List.getElem?_append_right (by simp; omega), show (i + 1) * 3 + 2 - [Value.int .i64 d.wide, .int .i64 d.wear.lo, .int .i64 d.wear.hi].length = i * 3 + 2 by simp; omega]; simpa using this.2.2
theorem dieVs_one (l : List Die) : ∀ u ∈ dieVs l, u.oneCell' = true := fun u hu => by
  simp only [dieVs, List.mem_flatMap] at hu
  obtain ⟨d, -, hd⟩ := hu
  simp at hd
  rcases hd with rfl | rfl | rfl <;> rfl
/-- The cells that are appended. -/
theorem dieVs_cells {W : World} {b off : Nat} {l : List Die} (h : At3 dieF W b off l) : ∀ j u, (dieVs l)[j]? = some u → W.cell? ((⟨b, off, none⟩ : Addr).add j) = some u := fun j u hu => by
  have hadd : (⟨b, off, none⟩ : Addr).add j = ⟨b, off + j, none⟩ := by unfold Addr.add; split <;> simp_all
  rw [hadd]
  have hj : j < l.length * 3 := by
    rcases Nat.lt_or_ge j (l.length * 3) with h1 | h1
    · exact h1
    · rw [List.getElem?_eq_none (by rw [dieVs_len]; exact h1)] at hu; cases hu
  have hi : j / 3 < l.length := by omega
  obtain ⟨a0, a1, a2⟩ := h (j / 3) hi
  obtain ⟨b0, b1, b2⟩ := dieVs_at l (j / 3) hi
  have hm : j = j / 3 * 3 ∨ j = j / 3 * 3 + 1 ∨ j = j / 3 * 3 + 2 := by omega
  rcases hm with e | e | e
  · rw [e] at hu ⊢
    rw [b0] at hu; cases hu; simpa [dieF] using a0
  · rw [e] at hu ⊢
    rw [b1] at hu; cases hu; simpa [dieF, Nat.add_assoc] using a1
  · rw [e] at hu ⊢
    rw [b2] at hu; cases hu; simpa [dieF, Nat.add_assoc] using a2
theorem frD_own {W : World} {B : Nat} {v : Value} {l : List Die} (h : W.ownsRow B 49 3 v l.length (dieVs l)) (hl : 0 < l.length) : ∃ g c, v = .slice (some ⟨g, 0, none⟩) l.length c ∧ B ≤ g ∧ FrD W g l := by
  obtain ⟨g, c, rfl, hB, hlt⟩ := h.form hl
  refine ⟨g, c, rfl, hB, hlt, fun i hi => ?_, fun j => h.frozenAt j⟩
  obtain ⟨b0, b1, b2⟩ := dieVs_at l i hi
  rw [Nat.zero_add]
  exact ⟨(h.cellAt _ (by omega)).trans b0, (h.cellAt _ (by omega)).trans b1, (h.cellAt _ (by omega)).trans b2⟩
/-- What is carried through the making of the two narrow presses. -/
structure Nd (w : World) (p : Press) (A : Option Addr) (c k : Nat) (want : Span) (q1 : Nat) (tl th : Int) (q13 q14 : Nat) (cs3 cs4 : Array Value) (W : World) : Prop where
  hs : LeS w p A c (k : Int) want W
  r1 : Blk W q1 24 #[.int .i64 tl, .int .i64 th]
  z3 : Blk W q13 26 cs3
  z4 : Blk W q14 26 cs4
  h1 : w.heap.size + 2 < q1
  h3 : q1 < q13
  h4 : q1 < q14
  h5 : q13 ≠ q14
section
variable {w W W' : World} {p : Press} {A : Option Addr} {c k : Nat} {want : Span} {q1 : Nat} {tl th : Int} {q13 q14 : Nat} {cs3 cs4 : Array Value}
theorem Nd.call (h : Nd w p A c k want q1 tl th q13 q14 cs3 cs4 W) (hb : Below W.heap.size W W') : Nd w p A c k want q1 tl th q13 q14 cs3 cs4 W' :=
  ⟨h.hs.call hb, h.r1.below hb h.r1.lt, h.z3.below hb h.z3.lt, h.z4.below hb h.z4.lt, h.h1, h.h3, h.h4, h.h5⟩
theorem Nd.far (h : Nd w p A c k want q1 tl th q13 q14 cs3 cs4 W) {a : Addr} (h1 : q1 < a.block) (h3 : q13 ≠ a.block) (h4 : q14 ≠ a.block) (v : Value) : Nd w p A c k want q1 tl th q13 q14 cs3 cs4 (W.setCell a v) :=
  ⟨h.hs.low ((Below.refl _ _).setCell (by have := h.h1; omega) _), h.r1.far (by omega) _, h.z3.far h3 _, h.z4.far h4 _, h.h1, h.h3, h.h4, h.h5⟩
theorem Nd.set3 (h : Nd w p A c k want q1 tl th q13 q14 cs3 cs4 W) (i : Nat) (v : Value) : Nd w p A c k want q1 tl th q13 q14 (cs3.setIfInBounds i v) cs4 (W.setCell ⟨q13, i, none⟩ v) :=
  ⟨h.hs.low ((Below.refl _ _).setCell (by have := h.h1; have := h.h3; simp only []; omega) _), h.r1.far (by have := h.h3; simp only []; omega) _, h.z3.set_ i v, h.z4.far (by have := h.h5; simp only []; omega) _, h.h1, h.h3, h.h4, h.h5⟩
theorem Nd.set4 (h : Nd w p A c k want q1 tl th q13 q14 cs3 cs4 W) (i : Nat) (v : Value) : Nd w p A c k want q1 tl th q13 q14 cs3 (cs4.setIfInBounds i v) (W.setCell ⟨q14, i, none⟩ v) :=
  ⟨h.hs.low ((Below.refl _ _).setCell (by have := h.h1; have := h.h4; simp only []; omega) _), h.r1.far (by have := h.h4; simp only []; omega) _, h.z3.far (by have := h.h5; simp only []; omega) _, h.z4.set_ i v, h.h1, h.h3, h.h4, h.h5⟩
theorem Nd.two (hs : LeS w p A c (k : Int) want W) (r1 : Blk W q1 24 #[.int .i64 tl, .int .i64 th]) (h1 : w.heap.size + 2 < q1) :
    Nd w p A c k want q1 tl th W.heap.size (W.heap.size + 1) #[.slice A p.dies.length c, .int .i64 p.shrink.lo, .int .i64 p.shrink.hi, .int .i64 p.change] #[.slice A p.dies.length c, .int .i64 p.shrink.lo, .int .i64 p.shrink.hi, .int .i64 p.change] (World.drew ((W.alloc (.cells #[.slice A p.dies.length c, .int .i64 p.shrink.lo, .int .i64 p.shrink.hi, .int .i64 p.change] 26)).alloc (.cells #[.slice A p.dies.length c, .int .i64 p.shrink.lo, .int .i64 p.shrink.hi, .int .i64 p.change] 26))) ∧ Nd w p A c k want q1 tl th (W.heap.size + 1) W.heap.size #[.slice A p.dies.length c, .int .i64 p.shrink.lo, .int .i64 p.shrink.hi, .int .i64 p.change] #[.slice A p.dies.length c, .int .i64 p.shrink.lo, .int .i64 p.shrink.hi, .int .i64 p.change] (World.drew ((W.alloc (.cells #[.slice A p.dies.length c, .int .i64 p.shrink.lo, .int .i64 p.shrink.hi, .int .i64 p.change] 26)).alloc (.cells #[.slice A p.dies.length c, .int .i64 p.shrink.lo, .int .i64 p.shrink.hi, .int .i64 p.change] 26))) := by
  have hb : Below W.heap.size W (World.drew ((W.alloc (.cells #[.slice A p.dies.length c, .int .i64 p.shrink.lo, .int .i64 p.shrink.hi, .int .i64 p.change] 26)).alloc (.cells #[.slice A p.dies.length c, .int .i64 p.shrink.lo, .int .i64 p.shrink.hi, .int .i64 p.change] 26))) := (((Below.refl _ _).alloc (Nat.le_refl _) _).alloc (by simp) _).drew
  have a : Blk (World.drew ((W.alloc (.cells #[.slice A p.dies.length c, .int .i64 p.shrink.lo, .int .i64 p.shrink.hi, .int .i64 p.change] 26)).alloc (.cells #[.slice A p.dies.length c, .int .i64 p.shrink.lo, .int .i64 p.shrink.hi, .int .i64 p.change] 26))) W.heap.size 26 #[.slice A p.dies.length c, .int .i64 p.shrink.lo, .int .i64 p.shrink.hi, .int .i64 p.change] := ((Blk.new W _ _).alloc _).drew
  have b : Blk (World.drew ((W.alloc (.cells #[.slice A p.dies.length c, .int .i64 p.shrink.lo, .int .i64 p.shrink.hi, .int .i64 p.change] 26)).alloc (.cells #[.slice A p.dies.length c, .int .i64 p.shrink.lo, .int .i64 p.shrink.hi, .int .i64 p.change] 26))) (W.heap.size + 1) 26 #[.slice A p.dies.length c, .int .i64 p.shrink.lo, .int .i64 p.shrink.hi, .int .i64 p.change] := (blk_at _ _ (by simp)).drew
  have := r1.lt
  exact ⟨⟨hs.call hb, r1.below hb r1.lt, a, b, h1, by omega, by omega, by omega⟩, ⟨hs.call hb, r1.below hb r1.lt, b, a, h1, by omega, by omega, by omega⟩⟩
end
/-- And with the dies that were copied, and the die that was read. -/
structure Ne (w : World) (p : Press) (A : Option Addr) (c k : Nat) (want : Span) (q1 : Nat) (tl th : Int) (q13 q14 : Nat) (cs3 cs4 : Array Value) (g1 g2 q15 : Nat) (l1 l2 : List Die) (d : Die) (W : World) : Prop where
  nd : Nd w p A c k want q1 tl th q13 q14 cs3 cs4 W
  d1 : FrD W g1 l1
  d2 : FrD W g2 l2
  db : Blk W q15 49 #[.int .i64 d.wide, .int .i64 d.wear.lo, .int .i64 d.wear.hi]
  i1 : q13 < g1
  i2 : q14 < g1
  i3 : q13 < g2
  i4 : q14 < g2
  i5 : g1 ≠ g2
  i6 : g1 < q15
  i7 : g2 < q15
def Se11 (w : World) (k : Nat) (q13 q14 q15 n g1 c1 g2 c2 : Nat) (d : Die) (W : World) : Prop := W.cell? ⟨q13, 0, none⟩ = some (.slice (some ⟨g1, 0, none⟩) n c1) ∧ W.cell? ⟨q14, 0, none⟩ = some (.slice (some ⟨g2, 0, none⟩) n c2) ∧ W.cell? ⟨w.heap.size + 1, 0, none⟩ = some (.int .i64 (k : Int)) ∧ W.cell? ⟨q15, 1, none⟩ = some (.int .i64 d.wear.lo) ∧ W.cell? ⟨q15, 2, none⟩ = some (.int .i64 d.wear.hi)
def Se12 (w : World) (p : Press) (W : World) : Prop := W.cell? ⟨w.heap.size, 1, none⟩ = some (.int .i64 p.shrink.lo) ∧ W.cell? ⟨w.heap.size, 2, none⟩ = some (.int .i64 p.shrink.hi)
section
variable {w W W' : World} {p : Press} {A : Option Addr} {c k : Nat} {want : Span} {q1 : Nat} {tl th : Int} {q13 q14 : Nat} {cs3 cs4 : Array Value} {g1 g2 q15 c1 c2 n : Nat} {l1 l2 : List Die} {d : Die}
theorem Ne.call (h : Ne w p A c k want q1 tl th q13 q14 cs3 cs4 g1 g2 q15 l1 l2 d W) (hb : Below W.heap.size W W') : Ne w p A c k want q1 tl th q13 q14 cs3 cs4 g1 g2 q15 l1 l2 d W' :=
  ⟨h.nd.call hb, h.d1.call hb, h.d2.call hb, h.db.below hb h.db.lt, h.i1, h.i2, h.i3, h.i4, h.i5, h.i6, h.i7⟩
theorem Ne.s11 {x y z u v r : Value} (h : Ne w p A c k want q1 tl th q13 q14 #[.slice (some ⟨g1, 0, none⟩) n c1, x, y, z] #[.slice (some ⟨g2, 0, none⟩) n c2, u, v, r] g1 g2 q15 l1 l2 d W) : Se11 w k q13 q14 q15 n g1 c1 g2 c2 d W :=
  ⟨h.nd.z3.cell 0, h.nd.z4.cell 0, h.nd.hs.bn.cell 0, h.db.cell 1, h.db.cell 2⟩
theorem Ne.s12 (h : Ne w p A c k want q1 tl th q13 q14 cs3 cs4 g1 g2 q15 l1 l2 d W) : Se12 w p W := ⟨h.nd.hs.bq.cell 1, h.nd.hs.bq.cell 2⟩
theorem FrD.two {g : Nat} {l : List Die} (h : FrD W g l) (hk : k < l.length) : W.cell? ⟨g, k * 3 + 1, none⟩ = some (.int .i64 l[k].wear.lo) ∧ W.cell? ⟨g, k * 3 + 2, none⟩ = some (.int .i64 l[k].wear.hi) ∧ W.frozen? ⟨g, k * 3 + 1, none⟩ = false ∧ W.frozen? ⟨g, k * 3 + 2, none⟩ = false := by
  obtain ⟨-, a1, a2⟩ := h.at_ k hk
  rw [Nat.zero_add] at a1 a2
  exact ⟨a1, a2, h.fr _, h.fr _⟩
theorem Ne.put1 (h : Ne w p A c k want q1 tl th q13 q14 cs3 cs4 g1 g2 q15 l1 l2 d W) (hk : k < l1.length) (x y : Int) : Ne w p A c k want q1 tl th q13 q14 cs3 cs4 g1 g2 q15 (l1.set k ⟨l1[k].wide, ⟨x, y⟩⟩) l2 d ((W.setCell ⟨g1, k * 3 + 1, none⟩ (.int .i64 x)).setCell ⟨g1, k * 3 + 2, none⟩ (.int .i64 y)) := by
  have := h.nd.h3; have := h.i1; have := h.i2; have := h.i5; have := h.i6
  exact ⟨(h.nd.far (by simp only []; omega) (by simp only []; omega) (by simp only []; omega) _).far (by simp only []; omega) (by simp only []; omega) (by simp only []; omega) _, h.d1.put hk x y, (h.d2.far (by simp only []; omega) _).far (by simp only []; omega) _, (h.db.far (by simp only []; omega) _).far (by simp only []; omega) _, h.i1, h.i2, h.i3, h.i4, h.i5, h.i6, h.i7⟩
theorem Ne.put2 (h : Ne w p A c k want q1 tl th q13 q14 cs3 cs4 g1 g2 q15 l1 l2 d W) (hk : k < l2.length) (x y : Int) : Ne w p A c k want q1 tl th q13 q14 cs3 cs4 g1 g2 q15 l1 (l2.set k ⟨l2[k].wide, ⟨x, y⟩⟩) d ((W.setCell ⟨g2, k * 3 + 1, none⟩ (.int .i64 x)).setCell ⟨g2, k * 3 + 2, none⟩ (.int .i64 y)) := by
  have := h.nd.h3; have := h.i3; have := h.i4; have := h.i5; have := h.i7
  exact ⟨(h.nd.far (by simp only []; omega) (by simp only []; omega) (by simp only []; omega) _).far (by simp only []; omega) (by simp only []; omega) (by simp only []; omega) _, (h.d1.far (by simp only []; omega) _).far (by simp only []; omega) _, h.d2.put hk x y, (h.db.far (by simp only []; omega) _).far (by simp only []; omega) _, h.i1, h.i2, h.i3, h.i4, h.i5, h.i6, h.i7⟩
theorem Ne.shr3 (h : Ne w p A c k want q1 tl th q13 q14 cs3 cs4 g1 g2 q15 l1 l2 d W) (x y : Int) : Ne w p A c k want q1 tl th q13 q14 ((cs3.setIfInBounds 1 (.int .i64 x)).setIfInBounds 2 (.int .i64 y)) cs4 g1 g2 q15 l1 l2 d ((W.setCell ⟨q13, 1, none⟩ (.int .i64 x)).setCell ⟨q13, 2, none⟩ (.int .i64 y)) := by
  have := h.i1; have := h.i3; have := h.i6
  exact ⟨(h.nd.set3 1 _).set3 2 _, (h.d1.far (by simp only []; omega) _).far (by simp only []; omega) _, (h.d2.far (by simp only []; omega) _).far (by simp only []; omega) _, (h.db.far (by simp only []; omega) _).far (by simp only []; omega) _, h.i1, h.i2, h.i3, h.i4, h.i5, h.i6, h.i7⟩
theorem Ne.shr4 (h : Ne w p A c k want q1 tl th q13 q14 cs3 cs4 g1 g2 q15 l1 l2 d W) (x y : Int) : Ne w p A c k want q1 tl th q13 q14 cs3 ((cs4.setIfInBounds 1 (.int .i64 x)).setIfInBounds 2 (.int .i64 y)) g1 g2 q15 l1 l2 d ((W.setCell ⟨q14, 1, none⟩ (.int .i64 x)).setCell ⟨q14, 2, none⟩ (.int .i64 y)) := by
  have := h.i2; have := h.i4; have := h.i6
  exact ⟨(h.nd.set4 1 _).set4 2 _, (h.d1.far (by simp only []; omega) _).far (by simp only []; omega) _, (h.d2.far (by simp only []; omega) _).far (by simp only []; omega) _, (h.db.far (by simp only []; omega) _).far (by simp only []; omega) _, h.i1, h.i2, h.i3, h.i4, h.i5, h.i6, h.i7⟩
end
theorem low_any (V : World) (g c : Nat) (p : Press) (k : Nat) (used we sh : Int) (hpk : pressOk p = true) (hk : k < p.dies.length) (h1 : 0 ≤ we) (h2 : we ≤ 200) (h3 : 0 ≤ sh) (h4 : sh ≤ 300) (h5 : 0 ≤ used) (h6 : used ≤ 8000)
    (hd : DieSl V V.heap.size (some ⟨g, 0, none⟩) (p.dies.set k ⟨p.dies[k].wide, ⟨we, we⟩⟩)) :
    Calls Try.prog 12 #[.agg #[.slice (some ⟨g, 0, none⟩) p.dies.length c, .int .i64 sh, .int .i64 sh, .int .i64 p.change], .int .i64 (k : Int), .int .i64 used] V (Ret (.tuple #[.agg #[.int .i64 (nano p.dies[k].wide we sh used / 1000), .int .i64 (cdiv (nano p.dies[k].wide we sh used) 1000)], .int .i64 0]) V) := by
  have h7 := (press_parts hpk).1.2
  have hd' : DieSl V V.heap.size (some ⟨g, 0, none⟩) (oneP p k we sh).dies := by
    simp only [oneP, Press.die_eq p hk]
    exact hd
  have h9 := wide_any V (some ⟨g, 0, none⟩) c (oneP p k we sh) k used (by simp [oneP]; omega) hd'
  obtain ⟨e1, e2⟩ := oneP_wide hpk hk h1 h2 h3 h4 h5 h6
  rw [e1, e2] at h9
  simp only [oneP, List.length_set] at h9
  exact h9
theorem dieInfo : (Try.prog.info? 49).map (fun i => (i.zero, i.size, i.bytes)) = some (some (.agg #[.int .i64 0, .int .i64 0, .int .i64 0]), 3, 24) := by kernel_rfl
end Go.Proofs.Ytkokacdaiklfjaa
