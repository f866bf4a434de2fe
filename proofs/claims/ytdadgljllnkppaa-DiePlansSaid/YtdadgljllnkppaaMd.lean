/- What is held while a die is tried for a draw: the plain steps. -/
import Derived.Test.YtdadgljllnkppaaSc
namespace Go.Proofs.Ytdadgljllnkppaa
open Go.RowKit Go.Shelf

theorem cell_call {V V' : World} {a : Addr} {v : Value} (h : V.cell? a = some v) (hb : Below V.heap.size V V') : V'.cell? a = some v := (hb.cell (World.block_lt_of_cell? V a h)).trans h
theorem cell_gr {V V' : World} {a : Addr} {v : Value} {m : Nat} {es : Array MapEntry} {ck : Nat} (h : V.cell? a = some v) (hg : V.grownBy V' (some m)) (hm : V.heap[m]? = some (.map es ck)) : V'.cell? a = some v := hg.cell h (fun e => by
  have e2 : a.block = m := Option.some.inj e
  simp [World.cell?, e2, hm] at h)
theorem cell_far {V : World} {q o e i : Nat} {v u : Value} (h : V.cell? ⟨q, o, none⟩ = some v) (hne : q ≠ e) : (V.setCell ⟨e, i, none⟩ u).cell? ⟨q, o, none⟩ = some v :=
  (World.cell?_of_block (w := V) (a := ⟨q, o, none⟩) (Below.heap_setCell V ⟨e, i, none⟩ u q hne)).trans h
/-- What a round turns: the map m, and the box g. -/
structure Turn (m g : Nat) (V V' : World) : Prop where
  size : V.heap.size ≤ V'.heap.size
  same : ∀ k, k < V.heap.size → k ≠ m → k ≠ g → V'.heap[k]? = V.heap[k]?
theorem Turn.below {m g : Nat} {V V' : World} (h : Below V.heap.size V V') : Turn m g V V' := ⟨h.size, fun k hk _ _ => h.block k hk⟩
theorem Turn.trans {m g : Nat} {A B C : World} (h : Turn m g A B) (h' : Turn m g B C) : Turn m g A C := ⟨Nat.le_trans h.size h'.size, fun k hk h1 h2 => (h'.same k (Nat.lt_of_lt_of_le hk h.size) h1 h2).trans (h.same k hk h1 h2)⟩
theorem Turn.grown {m g : Nat} {V V' : World} (h : V.grownBy V' (some m)) : Turn m g V V' := ⟨h.size, fun k hk h1 _ => h.block k hk fun e => h1 (Option.some.inj e)⟩
theorem Turn.set {m g : Nat} {U V : World} (h : Turn m g U V) (e i : Nat) (u : Value) (he : U.heap.size ≤ e ∨ e = g) : Turn m g U (V.setCell ⟨e, i, none⟩ u) := ⟨by simpa [World.setCell] using h.size, fun k hk h1 h2 => (Below.heap_setCell V ⟨e, i, none⟩ u k (by show k ≠ e; omega)).trans (h.same k hk h1 h2)⟩
theorem Turn.keeps {m g q b B : Nat} {V V' : World} {t tq : TypeId} {cs cq : Array Value} (h : Turn m g V V') (hm : m < B) (hg : Blk V g t cs) (hq : Blk V q tq cq) (hb : b < V.heap.size) (n1 : q ≠ m) (n2 : q ≠ g) (n3 : b ≠ m) (n4 : b ≠ g) : KeepsFrom B V V' ∧ Kept q b V V' := by
  refine ⟨⟨h.size, fun k o hk hk2 ho => ?_⟩, h.same q hq.lt n1 n2, h.same b hb n3 n4⟩
  refine (h.same k (Array.getElem?_eq_some_iff.1 hk2).1 (by omega) fun e => ?_).trans hk2
  subst e
  rw [show V.heap[k]? = _ from hg] at hk2
  cases hk2
  cases ho

/-- What is loaded while the next draws are tried. -/
structure S12 (kb pb tb b5 bT oT k ct : Nat) (x : Draw) (s : Sta) (A : Option Addr) (p : Press) (c : Nat) (V : World) : Prop where
  f4 : V.cell? ⟨tb, 0, none⟩ = some (.func (.func 102) #[] #[.pointer (some ⟨kb, 0, none⟩), .pointer (some ⟨pb, 0, none⟩), .pointer (some ⟨tb, 0, none⟩)])
  s0 : V.cell? ⟨b5, 0, none⟩ = some (.int .i64 s.a)
  s1 : V.cell? ⟨b5, 1, none⟩ = some (.int .i64 s.b)
  s2 : V.cell? ⟨b5, 2, none⟩ = some (.int .i64 s.c)
  s3 : V.cell? ⟨b5, 3, none⟩ = some (.int .i64 s.d)
  s4 : V.cell? ⟨b5, 4, none⟩ = some (.int .i64 s.on)
  b6 : V.cell? ⟨b5 + 1, 0, none⟩ = some (.slice (some ⟨bT, oT, none⟩) k ct)
  t0 : V.cell? ⟨bT, oT, none⟩ = some (.int .i64 x.len)
  t1 : V.cell? ⟨bT, oT + 1, none⟩ = some (.int .i64 x.want.lo)
  t2 : V.cell? ⟨bT, oT + 2, none⟩ = some (.int .i64 x.want.hi)
  p0 : V.cell? ⟨pb, 0, none⟩ = some (.slice A p.dies.length c)
  p1 : V.cell? ⟨pb, 1, none⟩ = some (.int .i64 p.shrink.lo)
  p2 : V.cell? ⟨pb, 2, none⟩ = some (.int .i64 p.shrink.hi)
  p3 : V.cell? ⟨pb, 3, none⟩ = some (.int .i64 p.change)
section
variable {kb pb tb b5 bT oT k ct : Nat} {x : Draw} {s : Sta} {A : Option Addr} {p : Press} {c : Nat} {V V' : World}
theorem S12.call (h : S12 kb pb tb b5 bT oT k ct x s A p c V) (hb : Below V.heap.size V V') : S12 kb pb tb b5 bT oT k ct x s A p c V' :=
  ⟨cell_call h.f4 hb, cell_call h.s0 hb, cell_call h.s1 hb, cell_call h.s2 hb, cell_call h.s3 hb, cell_call h.s4 hb, cell_call h.b6 hb, cell_call h.t0 hb, cell_call h.t1 hb, cell_call h.t2 hb, cell_call h.p0 hb, cell_call h.p1 hb, cell_call h.p2 hb, cell_call h.p3 hb⟩
theorem S12.gr {m : Nat} {es : Array MapEntry} {ck : Nat} (h : S12 kb pb tb b5 bT oT k ct x s A p c V) (hg : V.grownBy V' (some m)) (hm : V.heap[m]? = some (.map es ck)) : S12 kb pb tb b5 bT oT k ct x s A p c V' :=
  ⟨cell_gr h.f4 hg hm, cell_gr h.s0 hg hm, cell_gr h.s1 hg hm, cell_gr h.s2 hg hm, cell_gr h.s3 hg hm, cell_gr h.s4 hg hm, cell_gr h.b6 hg hm, cell_gr h.t0 hg hm, cell_gr h.t1 hg hm, cell_gr h.t2 hg hm, cell_gr h.p0 hg hm, cell_gr h.p1 hg hm, cell_gr h.p2 hg hm, cell_gr h.p3 hg hm⟩
theorem S12.far (h : S12 kb pb tb b5 bT oT k ct x s A p c V) (e i : Nat) (u : Value) (h1 : tb ≠ e) (h2 : b5 ≠ e) (h3 : b5 + 1 ≠ e) (h4 : bT ≠ e) (h5 : pb ≠ e) : S12 kb pb tb b5 bT oT k ct x s A p c (V.setCell ⟨e, i, none⟩ u) :=
  ⟨cell_far h.f4 h1, cell_far h.s0 h2, cell_far h.s1 h2, cell_far h.s2 h2, cell_far h.s3 h2, cell_far h.s4 h2, cell_far h.b6 h3, cell_far h.t0 h4, cell_far h.t1 h4, cell_far h.t2 h4, cell_far h.p0 h5, cell_far h.p1 h5, cell_far h.p2 h5, cell_far h.p3 h5⟩
end
section
variable {p : Press} {L : List Draw} {T : Option Addr} {ct k m : Nat} {s : Sta} {W U : World} {g n n' : Nat} {r r' : Rst} {V V' : World}
/-- A store into a fresh box. -/
theorem Own.far (h : Own p L T ct k m s W g n r V) (e i : Nat) (u : Value) {t : TypeId} {cs : Array Value} (he : Blk V e t cs) (ht : t ≠ 3) (h1 : W.heap.size + 1 + 1 < e) (h2 : g ≠ e) (hm : m < W.heap.size) : Own p L T ct k m s W g n r (V.setCell ⟨e, i, none⟩ u) := by
  obtain ⟨a1, a2, a3, a4, a5, A2, c2, a6, a7⟩ := h
  have hk : KeepI V (V.setCell ⟨e, i, none⟩ u) := .set he ht i u
  have hb : ∀ q, q ≠ e → (V.setCell ⟨e, i, none⟩ u).heap[q]? = V.heap[q]? := fun q hq => Below.heap_setCell V ⟨e, i, none⟩ u q hq
  exact ⟨⟨a1.os, a1.tape, a1.output, by simpa [World.setCell] using a1.size, fun q hq hne => (hb q (by omega)).trans (a1.block q hq hne)⟩,
    (a2.kept (hb m (by omega))).imp fun _ _ hG => hG.keep hk, (hb _ (by omega)).trans a3, (hb _ (by omega)).trans a4, (hb _ (by omega)).trans a5, A2, c2, (hb _ h2).trans a6, a7.keep hk⟩
/-- The best rest so far is stored. -/
theorem Own.put (h : Own p L T ct k m s W g n r V) (hg : W.heap.size + 1 + 1 < g) (hm : m < W.heap.size) (A2 : Option Addr) (c2 : Nat) (hp : PlanAt V (.slice A2 r'.plan.length c2) r'.plan) :
    Own p L T ct k m s W g n r' (((V.setCell ⟨g, 0, none⟩ (.slice A2 r'.plan.length c2)).setCell ⟨g, 1, none⟩ (.int .i64 r'.cost)).setCell ⟨g, 2, none⟩ (.bool r'.good)) := by
  obtain ⟨a1, a2, a3, a4, a5, A3, c3, a6, a7⟩ := h
  have e1 := a6.set_ 0 (.slice A2 r'.plan.length c2)
  have e2 := e1.set_ 1 (.int .i64 r'.cost)
  have e3 := e2.set_ 2 (.bool r'.good)
  have hk : KeepI V (((V.setCell ⟨g, 0, none⟩ (.slice A2 r'.plan.length c2)).setCell ⟨g, 1, none⟩ (.int .i64 r'.cost)).setCell ⟨g, 2, none⟩ (.bool r'.good)) := ((KeepI.set a6 (by decide) 0 _).trans (.set e1 (by decide) 1 _)).trans (.set e2 (by decide) 2 _)
  have hb : ∀ q, q ≠ g → (((V.setCell ⟨g, 0, none⟩ (.slice A2 r'.plan.length c2)).setCell ⟨g, 1, none⟩ (.int .i64 r'.cost)).setCell ⟨g, 2, none⟩ (.bool r'.good)).heap[q]? = V.heap[q]? := fun q hq =>
    ((Below.heap_setCell _ ⟨g, 2, none⟩ _ q hq).trans (Below.heap_setCell _ ⟨g, 1, none⟩ _ q hq)).trans (Below.heap_setCell V ⟨g, 0, none⟩ _ q hq)
  exact ⟨⟨a1.os, a1.tape, a1.output, by simpa [World.setCell] using a1.size, fun q hq hne => (hb q (by omega)).trans (a1.block q hq hne)⟩,
    (a2.kept (hb m (by omega))).imp fun _ _ hG => hG.keep hk, (hb _ (by omega)).trans a3, (hb _ (by omega)).trans a4, (hb _ (by omega)).trans a5, A2, c2, e3, hp.keep hk⟩
/-- While a die is tried. -/
structure Mid (p : Press) (L : List Draw) (T : Option Addr) (ct k m : Nat) (s : Sta) (W : World) (g n : Nat) (r : Rst) (U V : World) : Prop where
  own : Own p L T ct k m s W g n r V
  turn : Turn m g U V
theorem Mid.call (h : Mid p L T ct k m s W g n r U V) (hb : Below V.heap.size V V') : Mid p L T ct k m s W g n r U V' := ⟨h.own.call hb, h.turn.trans (.below hb)⟩
theorem Mid.gr (h : Mid p L T ct k m s W g n r U V) (hg : V.grownBy V' (some m)) (hk : KnownAt V' m n' (Good p L V')) : Mid p L T ct k m s W g n' r U V' := ⟨h.own.try_ hg hk, h.turn.trans (.grown hg)⟩
/-- The box of the rest at hand. -/
structure New (U : World) (g e : Nat) (cs : Array Value) (V : World) : Prop where
  blk : Blk V e 122 cs
  ge : U.heap.size ≤ e
  ne : g ≠ e
theorem New.call {e : Nat} {cs : Array Value} (h : New U g e cs V) (hb : Below V.heap.size V V') : New U g e cs V' := ⟨h.blk.below hb h.blk.lt, h.ge, h.ne⟩
theorem New.gr {e : Nat} {cs : Array Value} {es : Array MapEntry} {ck : Nat} (h : New U g e cs V) (hg : V.grownBy V' (some m)) (hm : V.heap[m]? = some (.map es ck)) : New U g e cs V' := ⟨h.blk.gr hg hm, h.ge, h.ne⟩
theorem New.made (h : Mid p L T ct k m s W g n r U V) (hg : g < U.heap.size) (cs : Array Value) : New U g V.heap.size cs (V.alloc (.cells cs 122)) := ⟨Blk.new _ _ _, h.turn.size, by have := h.turn.size; omega⟩
end
end Go.Proofs.Ytdadgljllnkppaa
