/- What is kept while all dies are tried for a draw. -/
import Derived.Test.YtdadgljllnkppaaCh
import Derived.Test.YtdadgljllnkppaaRd
namespace Go.Proofs.Ytdadgljllnkppaa
open Go.RowKit Go.Shelf

def bestV (r : Rst) (A2 : Option Addr) (c2 : Nat) : Array Value := #[.slice A2 r.plan.length c2, .int .i64 r.cost, .bool r.good]
/-- W: the world in which the call began; g: the box of the best rest so far. -/
structure Own (p : Press) (L : List Draw) (T : Option Addr) (ct k m : Nat) (s : Sta) (W : World) (g n : Nat) (r : Rst) (V : World) : Prop where
  gr : W.grownBy V (some m)
  known : KnownAt V m n (Good p L V)
  b5 : Blk V W.heap.size 161 #[.int .i64 s.a, .int .i64 s.b, .int .i64 s.c, .int .i64 s.d, .int .i64 s.on]
  b6 : Blk V (W.heap.size + 1) 27 #[.slice T k ct]
  b7 : Blk V (W.heap.size + 1 + 1) 122 #[.slice none 0 0, .int .i64 0, .bool false]
  best : ∃ A2 c2, Blk V g 122 (bestV r A2 c2) ∧ PlanAt V (.slice A2 r.plan.length c2) r.plan
section
variable {p : Press} {L : List Draw} {T : Option Addr} {ct k m : Nat} {s : Sta} {W : World} {g n n' : Nat} {r : Rst} {V V' : World}
theorem grown_trans {A B C : World} {row : Option Nat} (h : A.grownBy B row) (h' : B.grownBy C row) : A.grownBy C row :=
  ⟨h'.os.trans h.os, h'.tape.trans h.tape, h'.output.trans h.output, Nat.le_trans h.size h'.size, fun i hi hne => (h'.block i (Nat.lt_of_lt_of_le hi h.size) hne).trans (h.block i hi hne)⟩
theorem Own.call (h : Own p L T ct k m s W g n r V) (hb : Below V.heap.size V V') : Own p L T ct k m s W g n r V' := by
  obtain ⟨h1, h2, h3, h4, h5, A2, c2, h6, h7⟩ := h
  exact ⟨grown_trans h1 (grown_below hb), h2.call hb, h3.below hb h3.lt, h4.below hb h4.lt, h5.below hb h5.lt, A2, c2, h6.below hb h6.lt, h7.keep (.below hb)⟩
theorem Own.try_ (h : Own p L T ct k m s W g n r V) (hg : V.grownBy V' (some m)) (hk : KnownAt V' m n' (Good p L V')) : Own p L T ct k m s W g n' r V' := by
  obtain ⟨es, ck, hm⟩ := h.known.isMap
  obtain ⟨h1, h2, h3, h4, h5, A2, c2, h6, h7⟩ := h
  exact ⟨grown_trans h1 hg, hk, h3.gr hg hm, h4.gr hg hm, h5.gr hg hm, A2, c2, h6.gr hg hm, h7.keep (.grown hg hm)⟩
theorem Own.row (h : Own p L T ct k m s W g n r V) (hg : W.heap.size + 1 + 1 < g) (hm : m < W.heap.size) (r' : Rst) (A2 : Option Addr) (c2 : Nat) (hp : PlanAt V (.slice A2 r'.plan.length c2) r'.plan) : Own p L T ct k m s W g n r' (V.setRow g (bestV r' A2 c2)) := by
  obtain ⟨h1, h2, h3, h4, h5, A3, c3, h6, h7⟩ := h
  have hk : KeepI V (V.setRow g (bestV r' A2 c2)) := .row h6 (by decide) _
  exact ⟨⟨h1.os, h1.tape, h1.output, by simpa using h1.size, fun i hi hne => (setRow_other V g i _ (by omega)).trans (h1.block i hi hne)⟩,
    (h2.kept (setRow_other V g m _ (by omega))).imp fun _ _ hG => hG.keep hk, h3.rowFar (by omega) _, h4.rowFar (by omega) _, h5.rowFar (by omega) _, A2, c2, h6.row _, hp.keep hk⟩
theorem Own.more (h : Own p L T ct k m s W g n r V) (hn : n ≤ n') : Own p L T ct k m s W g n' r V := ⟨h.gr, h.known.more hn, h.b5, h.b6, h.b7, h.best⟩
theorem blk_soft {q : Nat} {t : TypeId} {cs : Array Value} {row : Option Nat} (h : Blk V q t cs) (hg : V.grownBy V' row) (hr : ∀ j, row = some j → ∃ o : Obj, V.heap[j]? = some o ∧ o.isCells = false) : Blk V' q t cs :=
  h.kept hg fun e => by
    obtain ⟨o, ho, hc⟩ := hr q e.symm
    rw [show V.heap[q]? = _ from h] at ho
    cases ho
    cases hc
theorem keep_soft {row : Option Nat} (hg : V.grownBy V' row) (hr : ∀ j, row = some j → ∃ o : Obj, V.heap[j]? = some o ∧ o.isCells = false) : KeepI V V' := fun q cur e => by
  refine (hg.block q (Array.getElem?_eq_some_iff.1 e).1 fun h => ?_).trans e
  obtain ⟨o, ho, hc⟩ := hr q h.symm
  rw [e] at ho
  cases ho
  cases hc
theorem Own.soft {B : Nat} {row : Option Nat} (h : Own p L T ct k m s W g n r V) (hB : W.heap.size ≤ B) (hm : m < W.heap.size) (hg : V.grownBy V' row) (hr : ∀ j, row = some j → B ≤ j ∧ ∃ o : Obj, V.heap[j]? = some o ∧ o.isCells = false) : Own p L T ct k m s W g n r V' := by
  have hr2 : ∀ j, row = some j → ∃ o : Obj, V.heap[j]? = some o ∧ o.isCells = false := fun j e => (hr j e).2
  obtain ⟨h1, h2, h3, h4, h5, A2, c2, h6, h7⟩ := h
  have hlow : ∀ i, i < W.heap.size → V'.heap[i]? = V.heap[i]? := fun i hi => hg.block i (Nat.lt_of_lt_of_le hi h1.size) fun e => by
    have := (hr i e.symm).1
    omega
  exact ⟨⟨hg.os.trans h1.os, hg.tape.trans h1.tape, hg.output.trans h1.output, Nat.le_trans h1.size hg.size, fun i hi hne => (hlow i hi).trans (h1.block i hi hne)⟩,
    (h2.kept (hlow m hm)).imp fun _ _ hG => hG.keep (keep_soft hg hr2), blk_soft h3 hg hr2, blk_soft h4 hg hr2, blk_soft h5 hg hr2, A2, c2, blk_soft h6 hg hr2, h7.keep (keep_soft hg hr2)⟩
end
def scanL (p : Press) (x : Draw) (s : Sta) (sub : Nat → Rst) (pre : List DieX) : Rst := (pre.map DieX.n).foldl (stepR p x s sub) ⟨[], 0, false⟩
theorem scanL_snoc (p : Press) (x : Draw) (s : Sta) (sub : Nat → Rst) (pre : List DieX) (d : DieX) : scanL p x s sub (pre ++ [d]) = stepR p x s sub (scanL p x s sub pre) d.n := by simp [scanL]
theorem scanL_range {p : Press} {x : Draw} {s : Sta} {sub : Nat → Rst} {pre : List DieX} {k : Nat} (h : pre.map DieX.n = List.range k) : scanL p x s sub pre = scanTo p x s sub k := by unfold scanL scanTo; rw [h]
end Go.Proofs.Ytdadgljllnkppaa
