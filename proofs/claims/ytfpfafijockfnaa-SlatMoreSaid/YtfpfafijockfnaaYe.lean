/- bestPairing: plain part, and what lies where. -/
import Derived.Test.YtfpfafijockfnaaYd
namespace Go.Proofs.Ytfpfafijockfnaa
open Go.RowKit Go.Shelf

abbrev Prg := List Int × Int
def befP (u m : Int) (p : Prg) : Prg := (u :: p.1, m + p.2)
/-- One upper slat is tried. -/
def tryP (g : Int → Int → Option Int) (i : Int) (t : Nat) (f : Nat → Prg) (k : Nat) (p : Prg) : Prg :=
  match g i k with
  | some m => if Nat.testBit t k = true then p else if p.2 ≤ m + (f (t ||| 2 ^ k)).2 then befP k m (f (t ||| 2 ^ k)) else p
  | none => p
/-- All upper slats, from the last one on. -/
def scanP (g : Int → Int → Option Int) (i : Int) (t : Nat) (f : Nat → Prg) : Nat → Prg → Prg
  | 0, p => p
  | k + 1, p => scanP g i t f k (tryP g i t f k p)
/-- The first of the best pairings of the last n lower slats. -/
def pairT (g : Int → Int → Option Int) (L U : Nat) : Nat → Nat → Prg
  | 0, _ => ([], 0)
  | n + 1, t => scanP g ((L : Int) - (n + 1 : Nat)) t (pairT g L U n) U (befP (-1) 0 (pairT g L U n t))
/-- A pairing of n slats. -/
def PrOk (n : Nat) (p : Prg) : Prop := p.1.length = n ∧ 0 ≤ p.2 ∧ p.2 ≤ 10 * (n : Int)
def GOk (g : Int → Int → Option Int) : Prop := ∀ i k m, g i k = some m → 0 ≤ m ∧ m ≤ 10
theorem befP_ok {n : Nat} {u m : Int} {p : Prg} (h : PrOk n p) (h0 : 0 ≤ m) (h1 : m ≤ 10) : PrOk (n + 1) (befP u m p) := by
  obtain ⟨a, b, c⟩ := h
  refine ⟨by simp [befP, a], ?_, ?_⟩
  · show 0 ≤ m + p.2; omega
  · show m + p.2 ≤ _; omega
theorem tryP_ok {g : Int → Int → Option Int} (hg : GOk g) {i : Int} {t : Nat} {f : Nat → Prg} {n : Nat} (hf : ∀ t, PrOk n (f t)) {k : Nat} {p : Prg} (hp : PrOk (n + 1) p) : PrOk (n + 1) (tryP g i t f k p) := by
  unfold tryP
  split
  · rename_i m hm
    split
    · exact hp
    · split
      · exact befP_ok (hf _) (hg _ _ _ hm).1 (hg _ _ _ hm).2
      · exact hp
  · exact hp
theorem scanP_ok {g : Int → Int → Option Int} (hg : GOk g) {i : Int} {t : Nat} {f : Nat → Prg} {n : Nat} (hf : ∀ t, PrOk n (f t)) : ∀ {k : Nat} {p : Prg}, PrOk (n + 1) p → PrOk (n + 1) (scanP g i t f k p)
  | 0, _, h => h
  | k + 1, _, h => scanP_ok hg hf (k := k) (tryP_ok hg hf h)
theorem pairT_ok {g : Int → Int → Option Int} (hg : GOk g) {L U : Nat} : ∀ n t, PrOk n (pairT g L U n t)
  | 0, _ => ⟨rfl, by simp [pairT], by simp [pairT]⟩
  | n + 1, t => scanP_ok hg (pairT_ok hg n) (befP_ok (pairT_ok hg n t) (by omega) (by omega))
theorem tryP_no {g : Int → Int → Option Int} {i : Int} {t : Nat} {f : Nat → Prg} {k : Nat} {p : Prg} (h : g i k = none) : tryP g i t f k p = p := by unfold tryP; rw [h]
theorem tryP_used {g : Int → Int → Option Int} {i m : Int} {t : Nat} {f : Nat → Prg} {k : Nat} {p : Prg} (h : g i k = some m) (ht : Nat.testBit t k = true) : tryP g i t f k p = p := by unfold tryP; rw [h]; simp [ht]
theorem tryP_free {g : Int → Int → Option Int} {i m : Int} {t : Nat} {f : Nat → Prg} {k : Nat} {p : Prg} (h : g i k = some m) (ht : Nat.testBit t k = false) : tryP g i t f k p = if p.2 ≤ m + (f (t ||| 2 ^ k)).2 then befP k m (f (t ||| 2 ^ k)) else p := by unfold tryP; rw [h]; simp [ht]
def cnt5 : Nat → Nat
  | 0 => 0
  | k + 1 => 1 + 8 * cnt5 k

/-! ### What is kept -/
def KeepJ (W W' : World) : Prop := ∀ (g : Nat) (cur : Array Value), W.heap[g]? = some (.cells cur 3 (0, 0)) → W'.heap[g]? = some (.cells cur 3 (0, 0))
theorem KeepJ.refl (W : World) : KeepJ W W := fun _ _ h => h
theorem KeepJ.trans {A B C : World} (h : KeepJ A B) (k : KeepJ B C) : KeepJ A C := fun g c e => k g c (h g c e)
theorem KeepJ.below {W W' : World} (h : Below W.heap.size W W') : KeepJ W W' := fun g _ e => (h.block g (Array.getElem?_eq_some_iff.1 e).1).trans e
theorem KeepJ.grown {W W' : World} {m : Nat} {es : Array MapEntry} {ck : Nat} (h : W.grownBy W' (some m)) (hm : W.heap[m]? = some (.map es ck)) : KeepJ W W' := fun g c e =>
  (h.block g (Array.getElem?_eq_some_iff.1 e).1 (fun h => by cases h; rw [hm] at e; cases e)).trans e
theorem KeepJ.set {W : World} {g : Nat} {t : TypeId} {cs : Array Value} (h : Blk W g t cs) (ht : t ≠ 3) (i : Nat) (u : Value) : KeepJ W (W.setCell ⟨g, i, none⟩ u) := fun k c e =>
  (Below.heap_setCell W ⟨g, i, none⟩ u k (fun h' => by obtain rfl : k = g := h'; rw [show W.heap[k]? = _ from h] at e; cases e; exact ht rfl)).trans e
theorem KeepJ.set2 {W : World} {g : Nat} {t : TypeId} {cs : Array Value} (h : Blk W g t cs) (ht : t ≠ 3) (x y : Value) : KeepJ W (W.setCells g 0 [x, y]) := (KeepJ.set h ht 0 x).trans (KeepJ.set (h.set_ 0 x) ht 1 y)
theorem PlanAt.keepJ {W W' : World} {v : Value} {l : List Int} (h : PlanAt W v l) (hk : KeepJ W W') : PlanAt W' v l := by
  obtain ⟨h1, ⟨h2, h3⟩ | ⟨g, cap, cur, h2, h3, h4, h5⟩⟩ := h
  · exact ⟨h1, .inl ⟨h2, h3⟩⟩
  · exact ⟨h1, .inr ⟨g, cap, cur, h2, h3, hk g cur h4, h5⟩⟩
theorem Blk.grJ {W W' : World} {m g : Nat} {t : TypeId} {cs : Array Value} {es : Array MapEntry} {ck : Nat} (h : Blk W g t cs) (hg : W.grownBy W' (some m)) (hm : W.heap[m]? = some (.map es ck)) : Blk W' g t cs :=
  h.kept hg (fun e => by obtain rfl : g = m := Option.some.inj e; rw [show W.heap[g]? = _ from h] at hm; cases hm)
theorem grown_belowJ {W W' : World} {m : Nat} (h : Below W.heap.size W W') : W.grownBy W' (some m) := ⟨h.os, h.tape, h.output, h.size, fun i hi _ => h.block i hi⟩
theorem grown_transJ {A B C : World} {m : Nat} (h : A.grownBy B (some m)) (k : B.grownBy C (some m)) : A.grownBy C (some m) := ⟨k.os.trans h.os, k.tape.trans h.tape, k.output.trans h.output, Nat.le_trans h.size k.size, fun i hi hne => (k.block i (Nat.lt_of_lt_of_le hi h.size) hne).trans (h.block i hi hne)⟩
theorem MemoAt.isMap {W : World} {m n : Nat} {G : Int → Int → Value → Prop} (h : MemoAt W m n G) : ∃ es ck, W.heap[m]? = some (.map es ck) := by
  obtain ⟨es, ck, h1, -⟩ := h
  exact ⟨es, ck, h1⟩

/-- What an entry says. -/
def PrV (W : World) (v : Value) (r : Prg) : Prop := ∃ A c, v = .agg #[.slice A r.1.length c, .int .i64 r.2] ∧ PlanAt W (.slice A r.1.length c) r.1
theorem PrV.keep {W W' : World} {v : Value} {r : Prg} (h : PrV W v r) (hk : KeepJ W W') : PrV W' v r := by
  obtain ⟨A, c, h1, h2⟩ := h
  exact ⟨A, c, h1, h2.keepJ hk⟩
def GoodP (g : Int → Int → Option Int) (L U : Nat) (W : World) (s t : Int) (v : Value) : Prop := ∀ k tn : Nat, s = (L : Int) - k → t = tn → PrV W v (pairT g L U k tn)
theorem GoodP.keep {g : Int → Int → Option Int} {L U : Nat} {W W' : World} {s t : Int} {v : Value} (h : GoodP g L U W s t v) (hk : KeepJ W W') : GoodP g L U W' s t v := fun k tn h1 h2 => (h k tn h1 h2).keep hk
theorem GoodP.mk {g : Int → Int → Option Int} {L U : Nat} {W : World} {v : Value} {k tn : Nat} (h : PrV W v (pairT g L U k tn)) : GoodP g L U W ((L : Int) - k) tn v := fun k' tn' h1 h2 => by
  obtain rfl : k = k' := by omega
  obtain rfl : tn = tn' := by omega
  exact h
/-- What best has captured. -/
structure EnvP (g : Int → Int → Option Int) (L U bl kb fb ub cb km cm n : Nat) (W : World) : Prop where
  xl : Blk W bl 3 #[.int .i64 L]
  xk : Blk W kb 123 #[.map (some km)]
  xf : Blk W fb 124 #[.func (.func 64) #[] #[.pointer (some ⟨bl, 0, none⟩), .pointer (some ⟨kb, 0, none⟩), .pointer (some ⟨fb, 0, none⟩), .pointer (some ⟨ub, 0, none⟩), .pointer (some ⟨cb, 0, none⟩)]]
  xu : Blk W ub 3 #[.int .i64 U]
  xc : Blk W cb 85 #[.map (some cm)]
  hc : PairsAt W cm 49 g
  known : MemoAt W km n (GoodP g L U W)
  ne : cm ≠ km
section
variable {g : Int → Int → Option Int} {L U bl kb fb ub cb km cm n n' : Nat} {W W' : World}
theorem EnvP.gr (h : EnvP g L U bl kb fb ub cb km cm n W) (hg : W.grownBy W' (some km)) (hk : MemoAt W' km n' (GoodP g L U W')) : EnvP g L U bl kb fb ub cb km cm n' W' := by
  obtain ⟨es, ck, hm⟩ := h.known.isMap
  exact ⟨h.xl.grJ hg hm, h.xk.grJ hg hm, h.xf.grJ hg hm, h.xu.grJ hg hm, h.xc.grJ hg hm, h.hc.kept (hg.block cm h.hc.lt (fun e => h.ne (Option.some.inj e))), hk, h.ne⟩
theorem EnvP.call (h : EnvP g L U bl kb fb ub cb km cm n W) (hb : Below W.heap.size W W') : EnvP g L U bl kb fb ub cb km cm n W' :=
  h.gr (grown_belowJ hb) ((h.known.below hb h.known.lt).imp fun _ _ _ hG => hG.keep (.below hb))
/-- While a turn is played. -/
structure BpS (g : Int → Int → Option Int) (L U bl kb fb ub cb km cm : Nat) (W : World) (i : Int) (t n : Nat) (V : World) : Prop where
  hg : W.grownBy V (some km)
  env : EnvP g L U bl kb fb ub cb km cm n V
  kt : Blk V W.heap.size 126 #[.int .i64 i, .int .i64 t]
  kr : Blk V (W.heap.size + 1) 83 #[.slice none 0 0, .int .i64 0]
variable {i : Int} {t : Nat} {V V' : World}
theorem BpS.gr (h : BpS g L U bl kb fb ub cb km cm W i t n V) (hg : V.grownBy V' (some km)) (hk : MemoAt V' km n' (GoodP g L U V')) : BpS g L U bl kb fb ub cb km cm W i t n' V' := by
  obtain ⟨es, ck, hm⟩ := h.env.known.isMap
  exact ⟨grown_transJ h.hg hg, h.env.gr hg hk, h.kt.grJ hg hm, h.kr.grJ hg hm⟩
theorem BpS.call (h : BpS g L U bl kb fb ub cb km cm W i t n V) (hb : Below V.heap.size V V') : BpS g L U bl kb fb ub cb km cm W i t n V' :=
  h.gr (grown_belowJ hb) ((h.env.known.below hb h.env.known.lt).imp fun _ _ _ hG => hG.keep (.below hb))
theorem BpS.low (h : BpS g L U bl kb fb ub cb km cm W i t n V) (hlt : bl < W.heap.size ∧ kb < W.heap.size ∧ fb < W.heap.size ∧ ub < W.heap.size ∧ cb < W.heap.size ∧ km < W.heap.size ∧ cm < W.heap.size) (hb : Below (W.heap.size + 1 + 1) V V') (hk : KeepJ V V') : BpS g L U bl kb fb ub cb km cm W i t n V' := by
  obtain ⟨l1, l2, l3, l4, l5, l6, l7⟩ := hlt
  exact ⟨⟨hb.os.trans h.hg.os, hb.tape.trans h.hg.tape, hb.output.trans h.hg.output, Nat.le_trans h.hg.size hb.size, fun j hj hne => (hb.block j (by omega)).trans (h.hg.block j hj hne)⟩,
    ⟨h.env.xl.below hb (by omega), h.env.xk.below hb (by omega), h.env.xf.below hb (by omega), h.env.xu.below hb (by omega), h.env.xc.below hb (by omega), h.env.hc.below hb (by omega), (h.env.known.below hb (by omega)).imp fun _ _ _ hG => hG.keep hk, h.env.ne⟩,
    h.kt.below hb (by omega), h.kr.below hb (by omega)⟩
theorem BpS.start (h : EnvP g L U bl kb fb ub cb km cm n W) : BpS g L U bl kb fb ub cb km cm W i t n ((W.alloc (.cells #[.int .i64 i, .int .i64 t] 126)).alloc (.cells #[.slice none 0 0, .int .i64 0] 83)) := by
  have hb : Below W.heap.size W ((W.alloc (.cells #[.int .i64 i, .int .i64 t] 126)).alloc (.cells #[.slice none 0 0, .int .i64 0] 83)) := ((Below.refl _ _).alloc (Nat.le_refl _) _).alloc (by simp) _
  exact ⟨grown_belowJ hb, h.call hb, (Blk.new _ _ _).below ((Below.refl _ _).alloc (Nat.le_refl _) _) (by simp), blk5 _ _ (by simp) rfl⟩
theorem EnvP.lts (h : EnvP g L U bl kb fb ub cb km cm n W) : bl < W.heap.size ∧ kb < W.heap.size ∧ fb < W.heap.size ∧ ub < W.heap.size ∧ cb < W.heap.size ∧ km < W.heap.size ∧ cm < W.heap.size := ⟨h.xl.lt, h.xk.lt, h.xf.lt, h.xu.lt, h.xc.lt, h.known.lt, h.hc.lt⟩
end
/-- What comes back from best. -/
def RetPr (g : Int → Int → Option Int) (L U km n : Nat) (r : Prg) (k : Nat) (W : World) (e : Ending) (W' : World) : Prop :=
  ∃ A c, e = .returned (.agg #[.slice A r.1.length c, .int .i64 r.2]) ∧ PlanAt W' (.slice A r.1.length c) r.1 ∧ W.grownBy W' (some km) ∧ MemoAt W' km (n + cnt5 k) (GoodP g L U W')
/-- The result is stored in the box of the result. -/
theorem ret_store {g : Int → Int → Option Int} {L U km n : Nat} {r : Prg} {k : Nat} {W V : World} {A : Option Addr} {c : Nat} {cs : Array Value} (hg : W.grownBy V (some km)) (hk : MemoAt V km (n + cnt5 k) (GoodP g L U V)) (kr : Blk V (W.heap.size + 1) 83 cs) (hlt : km < W.heap.size) (hp : PlanAt V (.slice A r.1.length c) r.1) :
    RetPr g L U km n r k W (.returned (.agg #[.slice A r.1.length c, .int .i64 r.2])) (V.setCells (W.heap.size + 1) 0 [.slice A r.1.length c, .int .i64 r.2]) := by
  have hkj := KeepJ.set2 kr (by decide) (.slice A r.1.length c) (.int .i64 r.2)
  have hb : Below (W.heap.size + 1) V (V.setCells (W.heap.size + 1) 0 [.slice A r.1.length c, .int .i64 r.2]) := below_set2 (Below.refl _ _) (Nat.le_refl _)
  exact ⟨A, c, rfl, hp.keepJ hkj, ⟨hb.os.trans hg.os, hb.tape.trans hg.tape, hb.output.trans hg.output, Nat.le_trans hg.size hb.size, fun j hj hne => (hb.block j (by omega)).trans (hg.block j hj hne)⟩, (hk.below hb (by omega)).imp fun _ _ _ hG => hG.keep hkj⟩
end Go.Proofs.Ytfpfafijockfnaa
