/- A range over a function whose iterator tells, of each element that it yields, a fact of the world in which it yields it. -/
import Derived.Test.YtngoagfkcjkeoaaLib
namespace Go.Proofs.Ytngoagfkcjkeoaa
open Go.RowKit Go.Shelf

/-- The iterator's contract: at each call of yield the element's fact holds. -/
def SeqFacts {α : Type} (n : Nat) (P : Program) (g : Nat) (lb : Array Value) (encs : α → Array Value) (Fx : α → World → Prop) (Kp : World → World → Prop) (S Sp : List α → Prop) (N : Nat) (w : World) : Prop :=
  ∀ (l : Nat) (J Jx : List α → World → Prop) (W : World), Below w.heap.size w W → AbidesFrom W.heap.size J → AbidesFrom W.heap.size Jx →
    (∀ pre x W1, J pre W1 → Fx x W1 → pre.length < N → YieldAt Fence.wide (n - 1) P l (encs x) W1 fun e W' =>
      (e = .returned (.bool true) ∧ J (pre ++ [x]) W' ∧ Kp W1 W') ∨ (e = .returned (.bool false) ∧ Jx (pre ++ [x]) W')) →
    J [] W →
    CallsIn Fence.wide n P g (#[.func (.yield l) #[] #[]] ++ lb) W fun e W' => (∃ v, e = .returned v) ∧ ((∃ xs, S xs ∧ J xs W') ∨ (∃ pre, Sp pre ∧ Jx pre W'))

section
variable {n : Nat} {P : Program} {α : Type}
/-- What the law keeps in mind: the loop's record at L, and the block for deferred calls at D. -/
structure Books (D : Nat) (r : Loop) (W : World) : Prop where
  loop : W.heap[D + 1]? = some (.loop r)
  dfr : W.heap[D]? = some (.deferred (some []))
theorem Books.put {D : Nat} {r r' : Loop} {W : World} (h : Books D r W) : Books D r' (W.putObj (D + 1) (.loop r')) :=
  ⟨World.putObj_heap_same (Array.getElem?_eq_some_iff.1 h.loop).1, (World.putObj_heap_other (by omega)).trans h.dfr⟩
theorem Books.keep {D : Nat} {r : Loop} {W W' : World} (h : Books D r W) (hk : KeepsFrom D W W') : Books D r W' := ⟨hk.same _ _ (by omega) h.loop rfl, hk.same _ _ (Nat.le_refl _) h.dfr rfl⟩
theorem Books.grown {D : Nat} {r : Loop} {W W' : World} {row : Option Nat} (h : Books D r W) (hg : W.grownBy W' row) (hr : ∀ j, row = some j → ∃ o : Obj, W.heap[j]? = some o ∧ o.isWalk = true) : Books D r W' :=
  ⟨(grownBy_keeps hg hr h.loop rfl).trans h.loop, (grownBy_keeps hg hr h.dfr rfl).trans h.dfr⟩

set_option maxHeartbeats 1000000 in
theorem wpIn_rangeFunc_facts {g : Operand} {ps : Array Tmp} {assign body : Code} {Q : Exit → Act → World → Prop} {a : Act} {w : World}
    (h1 : 1 ≤ n) {gf : Nat} {lb : Array Value} (hg : a.eval g = .func (.func gf) #[] lb) (eg : ∀ args w, (callFunc gf args).run P w = .ok (.enter gf args) w)
    {encs : α → Array Value} {Fx : α → World → Prop} {Kp : World → World → Prop} {S Sp : List α → Prop} {N : Nat} (hseq : SeqFacts (n - 1) P gf lb encs Fx Kp S Sp N w)
    (hKt : ∀ {A B C : World}, Kp A B → Kp B C → Kp A C) (hKb : ∀ (W : World) (o' : Obj), Kp W (W.putObj (w.heap.size + 1) o')) (hps : ∀ x, (encs x).size = ps.size)
    (I : List α → World → Prop) (Ix : Code → List α → World → Prop) (hI : OwnFrom w.heap.size I) (hIx : ∀ c, OwnFrom w.heap.size (Ix c)) (h0 : I [] w) (Ax : α → Act → World → Prop) (hAx : ∀ x a', OwnFrom w.heap.size (fun (_ : Unit) W => Ax x a' W))
    (hassign : ∀ (l : Nat) (pre : List α) (x : α) (W : World) (K : Act → World → Prop), I pre W → Fx x W → (∀ a' W', KeepsFrom w.heap.size W W' → Kp W W' → I pre W' → Ax x a' W' → K a' W') →
      assign.wpIn (Fence.wide.inRound l) (n - 1 - 1) P (Exit.then K (fun _ _ _ => False)) { tmps := (ps.zip (encs x)).foldl (fun t (p, v) => t.setIfInBounds p v) a.tmps, defers := [] } W)
    (hbody : ∀ (l : Nat) (pre : List α) (x : α) (a' : Act) (W : World), I pre W → Ax x a' W → pre.length < N → body.wpIn (Fence.wide.inRound l) (n - 1 - 1) P (ownPostG w.heap.size Kp I Ix (pre ++ [x]) W) a' W)
    (hdone : ∀ (D : Nat) (xs : List α) (W : World), w.heap.size ≤ D → S xs → I xs W → W.heap[D]? = some (.deferred (some [])) → Q .normal { a with defers := { target := .collected D, args := #[] } :: a.defers } W)
    (hstop : ∀ (D : Nat) (c : Code) (pre : List α) (W : World), w.heap.size ≤ D → Sp pre → Ix c pre W → W.heap[D]? = some (.deferred (some [])) → c.wpIn Fence.wide n P Q { a with defers := { target := .collected D, args := #[] } :: a.defers } W) :
    (Code.rangeFunc g ps assign body).wpIn Fence.wide n P Q a w := by
  refine wpIn_rangeFunc ?_
  intro fn hfn
  obtain ⟨B, hB⟩ : ∃ B, w.heap.size = B := ⟨_, rfl⟩
  obtain ⟨rec, hrec⟩ : ∃ rec : LoopState → Option Code → Loop, rec = fun st pe => { state := st, pending := pe, fn, tmps := a.tmps, params := ps, assign, body, defers := B } := ⟨_, rfl⟩
  obtain ⟨W1, hW1⟩ : ∃ W1, (w.alloc (.deferred (some []))).alloc (.loop (rec .ready none)) = W1 := ⟨_, rfl⟩
  have hbk : Books B (rec .ready none) W1 := by
    subst hB hW1
    refine ⟨?_, (Below.heap_alloc _ _ _ (by simp)).trans (World.alloc_heap_new w _)⟩
    have := World.alloc_heap_new (w.alloc (.deferred (some []))) (.loop (rec .ready none))
    rwa [World.size_alloc] at this
  have hI1 : I [] W1 := by rw [← hW1]; exact hI.alloc _ (hI.alloc _ h0)
  have hb1 : Below w.heap.size w W1 := by
    rw [← hW1]
    exact ((Below.refl _ w).alloc (Nat.le_refl _) _).alloc (by simp) _
  have hz1 : B ≤ W1.heap.size := by rw [← hB]; exact hb1.size
  rw [hB] at hI hIx hAx hassign hbody hKb hdone hstop
  have hput : ∀ {r r' : Loop} {pre : List α} {W : World}, I pre W → Books B r W → I pre (W.putObj (B + 1) (.loop r')) := fun hi hb => hI.putObj _ hi (by omega) hb.loop rfl
  have hend : ∀ (jump : Option Code) (W : World), Books B { rec .ready none with state := .busy } W →
      (Instr.endRound (B + 1) jump).run P W = .ok (.bool jump.isNone) (W.putObj (B + 1) (.loop (rec (if jump.isNone then .ready else .done) jump))) := fun jump W hb => by
    have := run_endRound (P := P) jump hb.loop
    rw [hrec] at this ⊢
    exact this
  refine ⟨B + 1, [{ target := .collected B, args := #[] }], W1, { target := .fn (.func gf) lb, args := #[.func (.yield (B + 1)) #[] #[]] }, W1, gf, #[.func (.yield (B + 1)) #[] #[]] ++ lb, W1, ?_, ?_, ?_, ?_, fun _ => h1, ?_⟩
  · subst hB
    rw [← hW1, hrec]
    exact run_enterLoop_outer _ _ _ _ _
  · simp only [resolve, hg]
    simp [go_sem]
  · intro f' _
    trivial
  · simp [invoke, go_sem, eg]
  · refine (hseq (B + 1) (fun pre W => I pre W ∧ Books B (rec .ready none) W) (fun pre W => ∃ c, Ix c pre W ∧ Books B (rec .done (some c)) W) W1 hb1 ?_ ?_ ?_ ⟨hI1, hbk⟩).mono ?_
    · rintro s X Y row ⟨h2, h3⟩ hg' hr
      exact ⟨hI s X Y row h2 hg' fun j e => by obtain ⟨h4, o, h5, h6⟩ := hr j e; exact ⟨by omega, o, h5, Obj.not_cells_of_walk h6⟩, h3.grown hg' fun j e => (hr j e).2⟩
    · rintro s X Y row ⟨c, h2, h3⟩ hg' hr
      exact ⟨c, hIx c s X Y row h2 hg' fun j e => by obtain ⟨h4, o, h5, h6⟩ := hr j e; exact ⟨by omega, o, h5, Obj.not_cells_of_walk h6⟩, h3.grown hg' fun j e => (hr j e).2⟩
    · rintro pre x W ⟨hi, hb⟩ hF hlen
      have hy := run_yield (P := P) (args := encs x) hb.loop (by rw [hrec]; exact hps x)
      rw [hrec] at hy
      refine ⟨fn, _, assign, body, hy, roundIn_of_wpIn hfn (hassign _ pre x W _ hi hF ?_)⟩
      clear hy
      intro a' V hk hkp hiV hax
      have hbV := hb.keep hk
      refine ⟨_, run_beginRound hbV.loop (by rw [hrec]), ?_⟩
      have hb2 : Books B { rec .ready none with state := .busy } (V.putObj (B + 1) (.loop { rec .ready none with state := .busy })) := hbV.put
      have hax2 := (hAx x a').putObj (s := ()) (.loop { rec .ready none with state := .busy }) hax (by omega) hbV.loop rfl
      refine wpIn_mono (hbody _ pre x a' _ (hput hiV hbV) hax2 hlen) ?_
      rintro e a3 W3 hp
      cases e with
      | normal =>
        obtain ⟨hk3, hkp3, hi3⟩ := hp
        have hb3 := hb2.keep hk3
        exact ⟨_, _, hend none W3 hb3, .inl ⟨rfl, ⟨hput hi3 hb3, hb3.put⟩, hKt hkp (hKt (hKt (hKb _ _) hkp3) (hKb _ _))⟩⟩
      | ret =>
        obtain ⟨hk3, hi3⟩ := hp
        have hb3 := hb2.keep hk3
        exact ⟨_, _, hend (some .ret) W3 hb3, .inr ⟨rfl, .ret, (hIx _).putObj _ hi3 (by omega) hb3.loop rfl, hb3.put⟩⟩
      | exit id =>
        obtain ⟨hk3, hi3⟩ := hp
        have hb3 := hb2.keep hk3
        exact ⟨_, _, hend (some (.exit id)) W3 hb3, .inr ⟨rfl, .exit id, (hIx _).putObj _ hi3 (by omega) hb3.loop rfl, hb3.put⟩⟩
      | goto t =>
        obtain ⟨hk3, hi3⟩ := hp
        have hb3 := hb2.keep hk3
        exact ⟨_, _, hend (some (.goto t)) W3 hb3, .inr ⟨rfl, .goto t, (hIx _).putObj _ hi3 (by omega) hb3.loop rfl, hb3.put⟩⟩
      | panic ch => exact hp.elim
      | outgrown => exact hp.elim
    · rintro e W2 ⟨⟨v, rfl⟩, ⟨xs, hS, hi, hb⟩ | ⟨pre, hSp, c, hi, hb⟩⟩
      · refine ⟨none, _, (by have := run_endLoop (P := P) hb.loop (by rw [hrec]; simp); rw [hrec] at this; exact this), hdone B xs _ (Nat.le_refl _) hS (hI.putObj _ hi (by omega) hb.loop rfl) ((World.putObj_heap_other (by omega)).trans hb.dfr)⟩
      · refine ⟨some c, _, (by have := run_endLoop (P := P) hb.loop (by rw [hrec]; simp); rw [hrec] at this; exact this), hstop B c pre _ (Nat.le_refl _) hSp ((hIx c).putObj _ hi (by omega) hb.loop rfl) ((World.putObj_heap_other (by omega)).trans hb.dfr)⟩
end
end Go.Proofs.Ytngoagfkcjkeoaa
