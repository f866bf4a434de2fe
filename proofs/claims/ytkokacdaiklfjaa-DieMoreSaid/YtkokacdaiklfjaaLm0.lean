/- The law DieMore: rows of three cells of the call's own, and what is carried through its walk. -/
import Derived.Test.YtkokacdaiklfjaaLe0
import Derived.Test.YtkokacdaiklfjaaPq
namespace Go.Proofs.Ytkokacdaiklfjaa
open Go.RowKit Go.Shelf

/-- A list in a block of the call's own, three cells each. -/
structure Fr3 {α : Type} (f : α → Int × Int × Int) (W : World) (g : Nat) (l : List α) : Prop where
  lt : g < W.heap.size
  at_ : At3 f W g 0 l
  fr : ∀ j, W.frozen? ⟨g, j, none⟩ = false
section
variable {α : Type} {f : α → Int × Int × Int} {W W' : World} {g : Nat} {l : List α}
theorem Fr3.call (h : Fr3 f W g l) (hb : Below W.heap.size W W') : Fr3 f W' g l :=
  ⟨Nat.lt_of_lt_of_le h.lt hb.size, h.at_.below hb h.lt, fun j => (hb.frozen (p := ⟨g, j, none⟩) h.lt).trans (h.fr j)⟩
theorem Fr3.low (h : Fr3 f W g l) {B : Nat} (hb : Below B W W') (hg : g < B) : Fr3 f W' g l :=
  ⟨Nat.lt_of_lt_of_le h.lt hb.size, h.at_.below hb hg, fun j => (hb.frozen (p := ⟨g, j, none⟩) hg).trans (h.fr j)⟩
theorem Fr3.far (h : Fr3 f W g l) {p : Addr} (hne : g ≠ p.block) (v : Value) : Fr3 f (W.setCell p v) g l :=
  ⟨by simpa using h.lt, h.at_.far hne v, fun j => by rw [World.frozen?_setCell]; exact h.fr j⟩
theorem Fr3.sl (h : Fr3 f W g l) : Sl3 f W W.heap.size (some ⟨g, 0, none⟩) l := fun _ => ⟨g, 0, rfl, h.lt, h.at_⟩
theorem Fr3.cells (h : Fr3 f W g l) {k : Nat} (hk : k < l.length) : W.cell? ⟨g, k * 3, none⟩ = some (.int .i64 (f l[k]).1) ∧ W.cell? ⟨g, k * 3 + 1, none⟩ = some (.int .i64 (f l[k]).2.1) ∧ W.cell? ⟨g, k * 3 + 2, none⟩ = some (.int .i64 (f l[k]).2.2) := by
  have := h.at_ k hk
  rw [Nat.zero_add] at this
  exact this
theorem Fr3.put1 (h : Fr3 f W g l) {k : Nat} (hk : k < l.length) (a : Int) (x : α) (hx : f x = ((f l[k]).1, a, (f l[k]).2.2)) : Fr3 f (W.setCell ⟨g, k * 3 + 1, none⟩ (.int .i64 a)) g (l.set k x) := by
  refine ⟨by simpa using h.lt, fun i hi => ?_, fun j => by rw [World.frozen?_setCell]; exact h.fr j⟩
  rw [List.length_set] at hi
  obtain ⟨a0, a1, a2⟩ := h.at_ i hi
  rw [Nat.zero_add] at a0 a1 a2 ⊢
  by_cases hik : k = i
  · subst hik
    rw [List.getElem_set_self, hx]
    refine ⟨?_, ?_, ?_⟩
    · rw [sc_ne (by omega)]; exact a0
    · exact World.cell?_setCell_same _ _ _ a1
    · rw [sc_ne (by omega)]; exact a2
  · rw [List.getElem_set_ne hik, sc_ne (by omega), sc_ne (by omega), sc_ne (by omega)]
    exact ⟨a0, a1, a2⟩
theorem Fr3.put2 (h : Fr3 f W g l) {k : Nat} (hk : k < l.length) (a : Int) (x : α) (hx : f x = ((f l[k]).1, (f l[k]).2.1, a)) : Fr3 f (W.setCell ⟨g, k * 3 + 2, none⟩ (.int .i64 a)) g (l.set k x) := by
  refine ⟨by simpa using h.lt, fun i hi => ?_, fun j => by rw [World.frozen?_setCell]; exact h.fr j⟩
  rw [List.length_set] at hi
  obtain ⟨a0, a1, a2⟩ := h.at_ i hi
  rw [Nat.zero_add] at a0 a1 a2 ⊢
  by_cases hik : k = i
  · subst hik
    rw [List.getElem_set_self, hx]
    refine ⟨?_, ?_, ?_⟩
    · rw [sc_ne (by omega)]; exact a0
    · rw [sc_ne (by omega)]; exact a1
    · exact World.cell?_setCell_same _ _ _ a2
  · rw [List.getElem_set_ne hik, sc_ne (by omega), sc_ne (by omega), sc_ne (by omega)]
    exact ⟨a0, a1, a2⟩
end
/-- The values of the cells. -/
def vs3 {α : Type} (f : α → Int × Int × Int) (l : List α) : List Value := l.flatMap fun d => [.int .i64 (f d).1, .int .i64 (f d).2.1, .int .i64 (f d).2.2]
section
variable {α : Type} {f : α → Int × Int × Int}
theorem vs3_len (l : List α) : (vs3 f l).length = l.length * 3 := by
  induction l with
  | nil => rfl
  | cons d l ih => simp only [vs3, List.flatMap_cons, List.length_append, List.length_cons, List.length_nil] at ih ⊢; omega
theorem vs3_append (a b : List α) : vs3 f (a ++ b) = vs3 f a ++ vs3 f b := by simp [vs3]
theorem vs3_at : ∀ (l : List α) (i : Nat) (h : i < l.length), (vs3 f l)[i * 3]? = some (.int .i64 (f l[i]).1) ∧ (vs3 f l)[i * 3 + 1]? = some (.int .i64 (f l[i]).2.1) ∧ (vs3 f l)[i * 3 + 2]? = some (.int .i64 (f l[i]).2.2)
  | d :: l, 0, _ => by simp [vs3]
  | d :: l, i + 1, h => by
    have := vs3_at l i (by simpa using h)
    have e : vs3 f (d :: l) = [.int .i64 (f d).1, .int .i64 (f d).2.1, .int .i64 (f d).2.2] ++ vs3 f l := by simp [vs3]
    rw [e]
    refine ⟨?_, ?_, ?_⟩
    · rw [List.getElem?_append_right (by simp; omega), show (i + 1) * 3 - [Value.int .i64 (f d).1, .int .i64 (f d).2.1, .int .i64 (f d).2.2].length = i * 3 by simp; omega]; simpa using this.1
    · rw [List.getElem?_append_right (by simp; omega), show (i + 1) * 3 + 1 - [Value.int .i64 (f d).1, .int .i64 (f d).2.1, .int .i64 (f d).2.2].length = i * 3 + 1 by simp; omega]; simpa using this.2.1
    · rw [List.getElem?_append_right (by simp; omega), show (i + 1) * 3 + 2 - [Value.int .i64 (f d).1, .int .i64 (f d).2.1, .int .i64 (f d).2.2].length = i * 3 + 2 by simp; omega]; simpa using this.2.2
theorem vs3_one (l : List α) : ∀ u ∈ vs3 f l, u.oneCell' = true := fun u hu => by
  simp only [vs3, List.mem_flatMap] at hu
  obtain ⟨d, -, hd⟩ := hu
  simp at hd
  rcases hd with rfl | rfl | rfl <;> rfl
theorem vs3_cells {W : World} {b off : Nat} {l : List α} (h : At3 f W b off l) : ∀ j u, (vs3 f l)[j]? = some u → W.cell? ((⟨b, off, none⟩ : Addr).add j) = some u := fun j u hu => by
  have hadd : (⟨b, off, none⟩ : Addr).add j = ⟨b, off + j, none⟩ := by unfold Addr.add; split <;> simp_all
  rw [hadd]
  have hj : j < l.length * 3 := by
    rcases Nat.lt_or_ge j (l.length * 3) with h1 | h1
    · exact h1
    · rw [List.getElem?_eq_none (by rw [vs3_len]; exact h1)] at hu; cases hu
  have hi : j / 3 < l.length := by omega
  obtain ⟨a0, a1, a2⟩ := h (j / 3) hi
  obtain ⟨b0, b1, b2⟩ := vs3_at (f := f) l (j / 3) hi
  have hm : j = j / 3 * 3 ∨ j = j / 3 * 3 + 1 ∨ j = j / 3 * 3 + 2 := by omega
  rcases hm with e | e | e
  · rw [e] at hu ⊢
    rw [b0] at hu; cases hu; exact a0
  · rw [e] at hu ⊢
    rw [b1] at hu; cases hu; rw [← Nat.add_assoc]; exact a1
  · rw [e] at hu ⊢
    rw [b2] at hu; cases hu; rw [← Nat.add_assoc]; exact a2
theorem fr3_own {W : World} {B : Nat} {e : TypeId} {v : Value} {l : List α} {n : Nat} (h : W.ownsRow B e 3 v n (vs3 f l)) (hn : n = l.length) (hl : 0 < n) : ∃ g c, v = .slice (some ⟨g, 0, none⟩) n c ∧ B ≤ g ∧ Fr3 f W g l := by
  subst hn
  obtain ⟨g, c, rfl, hB, hlt⟩ := h.form hl
  refine ⟨g, c, rfl, hB, hlt, fun i hi => ?_, fun j => h.frozenAt j⟩
  obtain ⟨b0, b1, b2⟩ := vs3_at (f := f) l i hi
  rw [Nat.zero_add]
  exact ⟨(h.cellAt _ (by omega)).trans b0, (h.cellAt _ (by omega)).trans b1, (h.cellAt _ (by omega)).trans b2⟩
end
theorem own_zero {t : TypeId} (w : World) (B : Nat) (h : B ≤ w.heap.size) (size : Nat) : (w.alloc (.cells #[] t)).ownsRow B t size (.slice (some ⟨w.heap.size, 0, none⟩) 0 0) 0 [] :=
  ⟨by simp, .inr ⟨w.heap.size, 0, #[], rfl, h, World.alloc_heap_new w _, Nat.le_refl _, by unfold maxLen; omega, by simp, by simp⟩⟩
theorem own_ge3 {W : World} {B : Nat} {e : TypeId} {size : Nat} {v : Value} {k : Nat} {xs : List Value} (hr : W.ownsRow B e size v k xs) : ∀ g, v.ownBlock = some g → B ≤ g := by
  rcases hr.2 with ⟨rfl, _⟩ | ⟨g, cap, cur, rfl, hg, hgb, _⟩
  · simp [Value.ownBlock]
  · intro g' e'
    have : g = g' := by simpa [Value.ownBlock] using e'
    omega
theorem own_call3 {w w' : World} {B : Nat} {e : TypeId} {size : Nat} {v : Value} {k : Nat} {xs : List Value} (hr : w.ownsRow B e size v k xs) (hb : Below w.heap.size w w') : w'.ownsRow B e size v k xs := by
  refine ⟨hr.1, ?_⟩
  rcases hr.2 with h | ⟨g, cap, cur, rfl, h1, h2, h3⟩
  · exact .inl h
  · refine .inr ⟨g, cap, cur, rfl, h1, ?_, h3⟩
    rw [hb.block g (Array.getElem?_eq_some_iff.1 h2).1]
    exact h2
theorem own_mono3 {w : World} {B B' : Nat} {e : TypeId} {size : Nat} {v : Value} {k : Nat} {xs : List Value} (hr : w.ownsRow B e size v k xs) (hb : B' ≤ B) : w.ownsRow B' e size v k xs := by
  refine ⟨hr.1, ?_⟩
  rcases hr.2 with h | ⟨g, cap, cur, h0, h1, h2⟩
  · exact .inl h
  · exact .inr ⟨g, cap, cur, h0, Nat.le_trans hb h1, h2⟩
/-- What is carried: the world behind the two plans, and the two presses that are made of the one. -/
structure Mo (W4 : World) (q17 q18 : Nat) (cs3 cs4 : Array Value) (V : World) : Prop where
  lo : Below W4.heap.size W4 V
  z3 : Blk V q17 26 cs3
  z4 : Blk V q18 26 cs4
  h3 : W4.heap.size ≤ q17
  h4 : W4.heap.size ≤ q18
  h5 : q17 ≠ q18
section
variable {W4 V V' : World} {q17 q18 : Nat} {cs3 cs4 : Array Value}
theorem Mo.call (h : Mo W4 q17 q18 cs3 cs4 V) (hb : Below V.heap.size V V') : Mo W4 q17 q18 cs3 cs4 V' :=
  ⟨h.lo.trans (hb.mono h.lo.size), h.z3.below hb h.z3.lt, h.z4.below hb h.z4.lt, h.h3, h.h4, h.h5⟩
theorem Mo.low (h : Mo W4 q17 q18 cs3 cs4 V) {B : Nat} (hb : Below B V V') (h1 : W4.heap.size ≤ B) (h2 : q17 < B) (h3 : q18 < B) : Mo W4 q17 q18 cs3 cs4 V' :=
  ⟨h.lo.trans (hb.mono h1), h.z3.below hb h2, h.z4.below hb h3, h.h3, h.h4, h.h5⟩
theorem Mo.far (h : Mo W4 q17 q18 cs3 cs4 V) {a : Addr} (h1 : W4.heap.size ≤ a.block) (h3 : q17 ≠ a.block) (h4 : q18 ≠ a.block) (v : Value) : Mo W4 q17 q18 cs3 cs4 (V.setCell a v) :=
  ⟨h.lo.setCell h1 v, h.z3.far h3 _, h.z4.far h4 _, h.h3, h.h4, h.h5⟩
theorem Mo.set3 (h : Mo W4 q17 q18 cs3 cs4 V) (i : Nat) (v : Value) : Mo W4 q17 q18 (cs3.setIfInBounds i v) cs4 (V.setCell ⟨q17, i, none⟩ v) :=
  ⟨h.lo.setCell h.h3 v, h.z3.set_ i v, h.z4.far (fun e => h.h5 e.symm) _, h.h3, h.h4, h.h5⟩
theorem Mo.set4 (h : Mo W4 q17 q18 cs3 cs4 V) (i : Nat) (v : Value) : Mo W4 q17 q18 cs3 (cs4.setIfInBounds i v) (V.setCell ⟨q18, i, none⟩ v) :=
  ⟨h.lo.setCell h.h4 v, h.z3.far h.h5 _, h.z4.set_ i v, h.h3, h.h4, h.h5⟩
theorem Mo.two (W4 : World) (cs : Array Value) :
    Mo W4 W4.heap.size (W4.heap.size + 1) cs cs (World.drew ((W4.alloc (.cells cs 26)).alloc (.cells cs 26))) ∧ Mo W4 (W4.heap.size + 1) W4.heap.size cs cs (World.drew ((W4.alloc (.cells cs 26)).alloc (.cells cs 26))) := by
  have hb : Below W4.heap.size W4 (World.drew ((W4.alloc (.cells cs 26)).alloc (.cells cs 26))) := (((Below.refl _ _).alloc (Nat.le_refl _) _).alloc (by simp) _).drew
  have a : Blk (World.drew ((W4.alloc (.cells cs 26)).alloc (.cells cs 26))) W4.heap.size 26 cs := ((Blk.new W4 _ _).alloc _).drew
  have b : Blk (World.drew ((W4.alloc (.cells cs 26)).alloc (.cells cs 26))) (W4.heap.size + 1) 26 cs := (blk_at _ _ (by simp)).drew
  exact ⟨⟨hb, a, b, by omega, by omega, by omega⟩, ⟨hb, b, a, by omega, by omega, by omega⟩⟩
end
/-- The draws that ask for less, so far. -/
def looseTo (y : Int) (l : List Draw) (k : Nat) : List Draw := (l.take k).map (looseD y) ++ l.drop k
theorem loose_len (y : Int) (l : List Draw) (k : Nat) : (looseTo y l k).length = l.length := by simp [looseTo]; omega
theorem loose_zero (y : Int) (l : List Draw) : looseTo y l 0 = l := by simp [looseTo]
theorem loose_all (y : Int) (l : List Draw) : looseTo y l l.length = l.map (looseD y) := by simp [looseTo]
theorem loose_at {y : Int} {l : List Draw} {k : Nat} (h : k < l.length) (h' : k < (looseTo y l k).length) : (looseTo y l k)[k] = l[k] := by
  simp only [looseTo]
  rw [List.getElem_append_right (by simp; omega)]
  simp [Nat.min_eq_left (Nat.le_of_lt h)]
theorem loose_next {y : Int} {l : List Draw} {k : Nat} (h : k < l.length) : (looseTo y l k).set k (looseD y l[k]) = looseTo y l (k + 1) := by
  simp only [looseTo]
  have e : k - ((l.take k).map (looseD y)).length = 0 := by simp; omega
  rw [List.set_append_right _ _ (by simp; omega), e, List.drop_eq_getElem_cons h, List.set_cons_zero, List.take_succ_eq_append_getElem h, List.map_append]
  simp
structure LoAt (q17 q18 g1 g3 B g4 : Nat) (L : List Draw) (W : World) : Prop where
  fr : Fr3 drawF W g4 L
  n1 : q17 ≠ g4
  n2 : q18 ≠ g4
  n3 : g1 ≠ g4
  n4 : g3 ≠ g4
  n5 : B ≤ g4
def LoS (q17 q18 g1 g3 B : Nat) (Q : Option Addr) (L : List Draw) (W : World) : Prop := L ≠ [] → ∃ g4, Q = some ⟨g4, 0, none⟩ ∧ LoAt q17 q18 g1 g3 B g4 L W
theorem LoS.call {q17 q18 g1 g3 B : Nat} {Q : Option Addr} {L : List Draw} {W W' : World} (h : LoS q17 q18 g1 g3 B Q L W) (hb : Below W.heap.size W W') : LoS q17 q18 g1 g3 B Q L W' := fun hne => by
  obtain ⟨g4, e, k⟩ := h hne
  exact ⟨g4, e, k.fr.call hb, k.n1, k.n2, k.n3, k.n4, k.n5⟩
theorem LoS.sl {q17 q18 g1 g3 B : Nat} {Q : Option Addr} {L : List Draw} {W : World} (h : LoS q17 q18 g1 g3 B Q L W) : DrawSl W W.heap.size Q L := fun hne => by
  obtain ⟨g4, e, k⟩ := h hne
  exact ⟨g4, 0, e, k.fr.lt, k.fr.at_⟩
theorem lo_own {W : World} {B q17 q18 g1 g3 C : Nat} {v : Value} {l : List Draw} (h : W.ownsRow B 51 3 v l.length (vs3 drawF l)) (h1 : q17 < B) (h2 : q18 < B) (h3 : g1 < B) (h4 : g3 < B) (h5 : C ≤ B) :
    ∃ Q d, v = .slice Q l.length d ∧ l.length ≤ d ∧ LoS q17 q18 g1 g3 C Q l W := by
  by_cases hl : 0 < l.length
  · have hcap : ∀ Q n d, v = .slice Q n d → n ≤ d := fun Q n d e => by
      rcases h.2 with ⟨e1, e0⟩ | ⟨g, cap, cur, e1, -, -, hc, -⟩
      · rw [e1] at e; cases e; omega
      · rw [e1] at e; cases e; exact hc
    obtain ⟨g4, d, e4, hg4, hf4⟩ := fr3_own h rfl hl
    exact ⟨_, d, e4, hcap _ _ _ e4, fun _ => ⟨g4, rfl, hf4, by omega, by omega, by omega, by omega, by omega⟩⟩
  · have h0 : l.length = 0 := by omega
    have hne : ∀ Q, LoS q17 q18 g1 g3 C Q l W := fun Q hn => absurd (List.eq_nil_of_length_eq_zero h0) hn
    rcases h.2 with ⟨e1, -⟩ | ⟨g, cap, cur, e1, -, -, hc, -⟩
    · exact ⟨none, 0, by rw [e1, h0], by omega, hne _⟩
    · exact ⟨_, _, e1, hc, hne _⟩
theorem drawInfo3 : (Try.prog.info? 51).map (fun i => (i.zero, i.size, i.bytes)) = some (some (.agg #[.int .i64 0, .int .i64 0, .int .i64 0]), 3, 24) := by kernel_rfl
theorem draw_take {W : World} {B : Nat} {T : Option Addr} {l : List Draw} (h : DrawSl W B T l) (m : Nat) : DrawSl W B T (l.take m) := fun hne => by
  obtain ⟨b, off, e, hb, ha⟩ := h (fun x => hne (by rw [x]; simp))
  refine ⟨b, off, e, hb, fun i hi => ?_⟩
  have hi' : i < l.length := by rw [List.length_take] at hi; omega
  have := ha i hi'
  rw [List.getElem_take]
  exact this
/-- The press, the die that is more, the draws. -/
structure LmS (w : World) (p : Press) (A T : Option Addr) (c : Nat) (l : List Draw) (more : Die) (W : World) : Prop where
  below : Below w.heap.size w W
  bq : Blk W w.heap.size 26 #[.slice A p.dies.length c, .int .i64 p.shrink.lo, .int .i64 p.shrink.hi, .int .i64 p.change]
  bm : Blk W (w.heap.size + 1) 49 #[.int .i64 more.wide, .int .i64 more.wear.lo, .int .i64 more.wear.hi]
  da : DieSl W W.heap.size A p.dies
  dr : DrawSl W W.heap.size T l
theorem LmS.call {w : World} {p : Press} {A T : Option Addr} {c : Nat} {l : List Draw} {more : Die} {W W' : World} (h : LmS w p A T c l more W) (hb : Below W.heap.size W W') : LmS w p A T c l more W' :=
  ⟨h.below.trans (hb.mono h.below.size), h.bq.below hb h.bq.lt, h.bm.below hb h.bm.lt, h.da.on hb (Nat.le_refl _), h.dr.on hb (Nat.le_refl _)⟩
end Go.Proofs.Ytkokacdaiklfjaa
