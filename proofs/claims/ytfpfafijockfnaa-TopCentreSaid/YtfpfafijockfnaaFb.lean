/- A range over a function whose iterator has boxes of its own: it yields N elements, one after the other, and never stops before; each round changes one block of what there was. -/
import Derived.Test.YtfpfafijockfnaaFa
namespace Go.Proofs.Ytfpfafijockfnaa
open Go.RowKit Go.Shelf

/-- All blocks but one lie as they did. -/
structure Keeps1 (L : Nat) (W W' : World) : Prop where
  size : W.heap.size ≤ W'.heap.size
  block : ∀ i, i ≠ L → i < W.heap.size → W'.heap[i]? = W.heap[i]?
/-- .. and but the loop's own record. -/
structure Keeps2 (L D : Nat) (W W' : World) : Prop where
  size : W.heap.size ≤ W'.heap.size
  block : ∀ i, i ≠ L → i ≠ D → i < W.heap.size → W'.heap[i]? = W.heap[i]?
theorem Keeps2.trans {L D : Nat} {A B C : World} (h : Keeps2 L D A B) (k : Keeps2 L D B C) : Keeps2 L D A C :=
  ⟨Nat.le_trans h.size k.size, fun i h1 h2 h3 => (k.block i h1 h2 (Nat.lt_of_lt_of_le h3 h.size)).trans (h.block i h1 h2 h3)⟩
theorem Keeps1.two {L D : Nat} {A B : World} (h : Keeps1 L A B) : Keeps2 L D A B := ⟨h.size, fun i h1 _ h3 => h.block i h1 h3⟩
theorem Keeps1.of_below {L : Nat} {A B : World} (h : Below A.heap.size A B) : Keeps1 L A B := ⟨h.size, fun i _ h3 => h.block i h3⟩
theorem Keeps1.trans {L : Nat} {A B C : World} (h : Keeps1 L A B) (k : Keeps1 L B C) : Keeps1 L A C :=
  ⟨Nat.le_trans h.size k.size, fun i h1 h3 => (k.block i h1 (Nat.lt_of_lt_of_le h3 h.size)).trans (h.block i h1 h3)⟩
theorem Keeps1.set {L : Nat} (A : World) (o : Nat) (v : Value) : Keeps1 L A (A.setCell ⟨L, o, none⟩ v) := ⟨by simp, fun i h1 _ => Below.heap_setCell _ _ _ _ h1⟩
theorem Keeps2.put (L : Nat) {D : Nat} (A : World) (o : Obj) : Keeps2 L D A (A.putObj D o) := ⟨by simp [World.putObj], fun i _ h2 _ => World.putObj_heap_other h2⟩
theorem below_put {B D : Nat} (h : B ≤ D) (A : World) (o : Obj) : Below B A (A.putObj D o) := ⟨rfl, rfl, rfl, by simp [World.putObj], fun i hi => World.putObj_heap_other (by omega)⟩

/-- The iterator's contract. -/
def SeqN (n : Nat) (P : Program) (g : Nat) (lb : Array Value) (encs : Nat → Array Value) (L : Nat) (N : Nat) (w : World) : Prop :=
  ∀ (l : Nat) (J : Nat → World → Prop) (W : World), Below w.heap.size w W → w.heap.size + 2 ≤ W.heap.size → (∀ k X Y, J k X → Below W.heap.size X Y → J k Y) →
    (∀ k W1, J k W1 → k < N → YieldAt Fence.wide (n - 1) P l (encs k) W1 fun e W' => e = .returned (.bool true) ∧ J (k + 1) W' ∧ Keeps2 L (w.heap.size + 1) W1 W') →
    J 0 W → CallsIn Fence.wide n P g (#[.func (.yield l) #[] #[]] ++ lb) W fun e W' => (∃ v, e = .returned v) ∧ J N W'
def postL (L : Nat) (W : World) (R : World → Prop) : Exit → Act → World → Prop
  | .normal, _, W' => Keeps1 L W W' ∧ R W'
  | _, _, _ => False
section
variable {n : Nat} {P : Program}
theorem Books.keep1 {D L : Nat} {r : Loop} {W W' : World} (h : Books D r W) (hk : Keeps1 L W W') (hL : L < D) : Books D r W' :=
  ⟨(hk.block _ (by omega) (Array.getElem?_eq_some_iff.1 h.loop).1).trans h.loop, (hk.block _ (by omega) (Array.getElem?_eq_some_iff.1 h.dfr).1).trans h.dfr⟩
theorem Books.low {D : Nat} {r : Loop} {W W' : World} (h : Books D r W) {B : Nat} (hb : Below B W W') (hB : D + 2 ≤ B) : Books D r W' :=
  ⟨(hb.block _ (by omega)).trans h.loop, (hb.block _ (by omega)).trans h.dfr⟩
set_option maxHeartbeats 1000000 in
theorem wpIn_rangeFunc_N {g : Operand} {ps : Array Tmp} {assign body : Code} {Q : Exit → Act → World → Prop} {a : Act} {w : World}
    (h1 : 1 ≤ n) {gf : Nat} {lb : Array Value} (hg : a.eval g = .func (.func gf) #[] lb) (eg : ∀ args w, (callFunc gf args).run P w = .ok (.enter gf args) w)
    {encs : Nat → Array Value} {L N : Nat} (hseq : SeqN (n - 1) P gf lb encs L N w) (hL : L < w.heap.size) (hps : ∀ x, (encs x).size = ps.size)
    (I : Nat → World → Prop) (hI : ∀ k X Y, I k X → Below w.heap.size X Y → I k Y) (h0 : I 0 w)
    (hround : ∀ (l : Nat) (k : Nat) (W : World), I k W → w.heap.size + 2 ≤ W.heap.size → k < N →
      assign.wpIn (Fence.wide.inRound l) (n - 1 - 1) P (Exit.then (fun a' W' => Below W.heap.size W W' ∧ ∀ o : Obj, body.wpIn (Fence.wide.inRound l) (n - 1 - 1) P (postL L (W'.putObj (w.heap.size + 1) o) (I (k + 1))) a' (W'.putObj (w.heap.size + 1) o)) (fun _ _ _ => False)) { tmps := (ps.zip (encs k)).foldl (fun t (p, v) => t.setIfInBounds p v) a.tmps, defers := [] } W)
    (hdone : ∀ (D : Nat) (W : World), w.heap.size ≤ D → I N W → W.heap[D]? = some (.deferred (some [])) → Q .normal { a with defers := { target := .collected D, args := #[] } :: a.defers } W) :
    (Code.rangeFunc g ps assign body).wpIn Fence.wide n P Q a w := by
  refine wpIn_rangeFunc ?_
  intro fn hfn
  obtain ⟨B, hB⟩ : ∃ B, w.heap.size = B := ⟨_, rfl⟩
  obtain ⟨rec, hrec⟩ : ∃ rec : LoopState → Option Code → Loop, rec = fun st pe => { state := st, pending := pe, fn, tmps := a.tmps, params := ps, assign, body, defers := B } := ⟨_, rfl⟩
  obtain ⟨W1, hW1⟩ : ∃ W1, (w.alloc (.deferred (some []))).alloc (.loop (rec .ready none)) = W1 := ⟨_, rfl⟩
  have hbk : Books B (rec .ready none) W1 := by
    subst hB hW1
    refine ⟨?_, (Below.heap_alloc _ _ _ (by simp)).trans (World.alloc_heap_new w _)⟩
    have := World.alloc_heap_new (w.alloc (.deferred (some []))) (.loop (rec .ready none))
    rwa [World.size_alloc] at this
  have hb1 : Below w.heap.size w W1 := by
    rw [← hW1]
    exact ((Below.refl _ w).alloc (Nat.le_refl _) _).alloc (by simp) _
  have hI1 : I 0 W1 := hI _ _ _ h0 hb1
  have hz1 : B + 2 ≤ W1.heap.size := by rw [← hB, ← hW1]; simp
  rw [hB] at hI hround hdone hL
  have hseq' := hseq
  unfold SeqN at hseq'
  rw [hB] at hseq' hb1
  have hput : ∀ {r' : Loop} {k : Nat} {W : World}, I k W → I k (W.putObj (B + 1) (.loop r')) := fun hi => hI _ _ _ hi (below_put (by omega) _ _)
  have hend : ∀ (jump : Option Code) (W : World), Books B { rec .ready none with state := .busy } W →
      (Instr.endRound (B + 1) jump).run P W = .ok (.bool jump.isNone) (W.putObj (B + 1) (.loop (rec (if jump.isNone then .ready else .done) jump))) := fun jump W hb => by
    have := run_endRound (P := P) jump hb.loop
    rw [hrec] at this ⊢
    exact this
  refine ⟨B + 1, [{ target := .collected B, args := #[] }], W1, { target := .fn (.func gf) lb, args := #[.func (.yield (B + 1)) #[] #[]] }, W1, gf, #[.func (.yield (B + 1)) #[] #[]] ++ lb, W1, ?_, ?_, ?_, ?_, fun _ => h1, ?_⟩
  · subst hB
    rw [← hW1, hrec]
    exact run_enterLoop_outer _ _ _ _ _
  · simp only [resolve, hg]
    simp [go_sem]
  · intro f' _
    trivial
  · simp [invoke, go_sem, eg]
  · refine (hseq' (B + 1) (fun k W => I k W ∧ Books B (rec .ready none) W ∧ B + 2 ≤ W.heap.size) W1 hb1 hz1 ?_ ?_ ⟨hI1, hbk, hz1⟩).mono ?_
    · rintro k X Y ⟨h2, h3, h4⟩ hXY
      exact ⟨hI _ _ _ h2 (hXY.mono (by omega)), h3.low hXY hz1, Nat.le_trans h4 hXY.size⟩
    · rintro k W ⟨hi, hb, hz⟩ hlen
      have hy := run_yield (P := P) (args := encs k) hb.loop (by rw [hrec]; exact hps k)
      rw [hrec] at hy
      refine ⟨fn, _, assign, body, hy, roundIn_of_wpIn hfn (wpIn_mono (hround _ k W hi hz hlen) ?_)⟩
      clear hy
      rintro e a' V hV
      cases e with
      | ret => exact hV.elim
      | exit id => exact hV.elim
      | goto t => exact hV.elim
      | panic ch => exact hV.elim
      | outgrown => exact hV.elim
      | normal =>
      obtain ⟨hbV, hbody⟩ := hV
      have hbkV := hb.low hbV hz
      have hiV : I k V := hI _ _ _ hi (hbV.mono (by omega))
      refine ⟨_, run_beginRound hbkV.loop (by rw [hrec]), ?_⟩
      have hb2 : Books B { rec .ready none with state := .busy } (V.putObj (B + 1) (.loop { rec .ready none with state := .busy })) := hbkV.put
      refine wpIn_mono (hbody _) ?_
      rintro e a3 W3 hp
      cases e with
      | normal =>
        obtain ⟨hk3, hi3⟩ := hp
        have hb3 := hb2.keep1 hk3 hL
        refine ⟨_, _, hend none W3 hb3, rfl, ⟨hput hi3, hb3.put, ?_⟩, ?_⟩
        · have := hk3.size
          have := hbV.size
          simp only [World.putObj, Array.size_setIfInBounds] at *
          omega
        · exact ((Keeps1.of_below hbV).two.trans (Keeps2.put L V _)).trans (hk3.two.trans (Keeps2.put L W3 _))
      | ret => exact hp.elim
      | exit id => exact hp.elim
      | goto t => exact hp.elim
      | panic ch => exact hp.elim
      | outgrown => exact hp.elim
    · rintro e W2 ⟨⟨v, rfl⟩, hi, hb, -⟩
      refine ⟨none, _, (by have := run_endLoop (P := P) hb.loop (by rw [hrec]; simp); rw [hrec] at this; exact this), hdone B _ (Nat.le_refl _) (hput hi) ((World.putObj_heap_other (by omega)).trans hb.dfr)⟩
end
end Go.Proofs.Ytfpfafijockfnaa
