/- The best rest of a plan, in plain words; what is kept in memory while it is sought. -/
import Derived.Test.YtdadgljllnkppaaBf
namespace Go.Proofs.Ytdadgljllnkppaa
open Go.RowKit Go.Shelf

def stepR (p : Press) (x : Draw) (s : Sta) (sub : Nat → Rst) (best : Rst) (n : Nat) : Rst :=
  if doesB (p.die n) p.shrink x (s.get n) = true then (if betterB ⟨(n : Int) :: (sub n).plan, stepCost p.change s n + (sub n).cost, (sub n).good⟩ best = true then ⟨(n : Int) :: (sub n).plan, stepCost p.change s n + (sub n).cost, (sub n).good⟩ else best) else best
def scanTo (p : Press) (x : Draw) (s : Sta) (sub : Nat → Rst) (k : Nat) : Rst := (List.range k).foldl (stepR p x s sub) ⟨[], 0, false⟩
def bestOf (p : Press) : List Draw → Sta → Rst
  | [], _ => ⟨[], 0, true⟩
  | x :: l, s => scanTo p x s (fun n => bestOf p l (s.after x.len n)) p.dies.length
theorem scan_succ (p : Press) (x : Draw) (s : Sta) (sub : Nat → Rst) (k : Nat) : scanTo p x s sub (k + 1) = stepR p x s sub (scanTo p x s sub k) k := by simp [scanTo, List.range_succ]
theorem stepCost_bd {ch : Int} (h0 : 0 ≤ ch) (h1 : ch ≤ 10000) (s : Sta) {n : Nat} (hn : n < 4) : (n : Int) ≤ stepCost ch s n ∧ stepCost ch s n ≤ 10003 := by
  unfold stepCost; split <;> omega
def Rst.bd (r : Rst) (k : Nat) : Prop := 0 ≤ r.cost ∧ r.cost ≤ 10003 * k ∧ r.plan.length ≤ k
theorem scan_bd {p : Press} {x : Draw} {s : Sta} {sub : Nat → Rst} {m : Nat} (h0 : 0 ≤ p.change) (h1 : p.change ≤ 10000) (hs : ∀ n, (sub n).bd m) : ∀ k, k ≤ 4 → (scanTo p x s sub k).bd (m + 1)
  | 0, _ => by simp [scanTo, Rst.bd]; omega
  | k + 1, hk => by
    rw [scan_succ]
    have ih := scan_bd (x := x) (s := s) h0 h1 hs k (by omega)
    have hc := stepCost_bd h0 h1 s (n := k) (by omega)
    obtain ⟨a, b, c⟩ := hs k
    unfold stepR
    split
    · split
      · refine ⟨?_, ?_, ?_⟩
        · simp only; omega
        · simp only; omega
        · simp only [List.length_cons]; omega
      · exact ih
    · exact ih
theorem best_bd {p : Press} (hp : pressOk p = true) : ∀ (l : List Draw) (s : Sta), (bestOf p l s).bd l.length
  | [], _ => by simp [bestOf, Rst.bd]
  | x :: l, s => by
    obtain ⟨h1, -, -, h4, h5⟩ := press_parts hp
    exact scan_bd h4 h5 (fun n => best_bd hp l _) _ h1.2
theorem scan_stop {p : Press} {x : Draw} {s : Sta} {sub : Nat → Rst} {m : Nat} (h0 : 0 ≤ p.change) (h1 : p.change ≤ 10000) (hs : ∀ n, (sub n).bd m) {k : Nat} (hg : (scanTo p x s sub k).good = true) (hc : (scanTo p x s sub k).cost ≤ k) : ∀ j, k + j ≤ 4 → scanTo p x s sub (k + j) = scanTo p x s sub k
  | 0, _ => rfl
  | j + 1, hj => by
    rw [show k + (j + 1) = (k + j) + 1 by omega, scan_succ, scan_stop h0 h1 hs hg hc j (by omega)]
    have hb := stepCost_bd h0 h1 s (n := k + j) (by omega)
    obtain ⟨a, -⟩ := hs (k + j)
    have hf : betterB ⟨((k + j : Nat) : Int) :: (sub (k + j)).plan, stepCost p.change s (k + j) + (sub (k + j)).cost, (sub (k + j)).good⟩ (scanTo p x s sub k) = false := by
      unfold betterB
      rw [hg]
      have : decide (stepCost p.change s (k + j) + (sub (k + j)).cost < (scanTo p x s sub k).cost) = false := decide_eq_false (by omega)
      simp only [this]
      simp
    unfold stepR
    rw [hf]
    simp

def lenSum (l : List Draw) : Int := (l.map Draw.len).sum
theorem lenSum_cons (x : Draw) (l : List Draw) : lenSum (x :: l) = x.len + lenSum l := by simp [lenSum]
theorem lenSum_append (a b : List Draw) : lenSum (a ++ b) = lenSum a + lenSum b := by simp [lenSum]
theorem lenSum_pos {l : List Draw} (h : ∀ d ∈ l, 1 ≤ d.len) : (l.length : Int) ≤ lenSum l := by
  induction l with
  | nil => simp [lenSum]
  | cons x l ih =>
    rw [lenSum_cons]
    have := h x (by simp)
    have := ih fun d hd => h d (by simp [hd])
    simp only [List.length_cons]
    omega
theorem lenSum_le {l : List Draw} (h : ∀ d ∈ l, d.len ≤ 1000) : lenSum l ≤ 1000 * l.length := by
  induction l with
  | nil => simp [lenSum]
  | cons x l ih =>
    rw [lenSum_cons]
    have := h x (by simp)
    have := ih fun d hd => h d (by simp [hd])
    simp only [List.length_cons]
    omega
theorem suffix_eq {L a b : List Draw} (hL : ∀ d ∈ L, 1 ≤ d.len) (ha : a <:+ L) (hb : b <:+ L) (h : lenSum a = lenSum b) : a = b := by
  have aux : ∀ {a b : List Draw}, b <:+ L → a <:+ b → lenSum a = lenSum b → a = b := by
    rintro a b hb ⟨t, rfl⟩ h
    rw [lenSum_append] at h
    have ht := lenSum_pos (l := t) fun d hd => hL d (hb.subset (by simp [hd]))
    have h0 : t.length = 0 := by omega
    rw [List.eq_nil_of_length_eq_zero h0]
    rfl
  rcases List.suffix_or_suffix_of_suffix ha hb with h1 | h1
  · exact aux hb h1 h
  · exact (aux ha h1 h.symm).symm

/-- Lists of numbers that the program has made lie as they lay. -/
def KeepI (W W' : World) : Prop := ∀ (g : Nat) (cur : Array Value), W.heap[g]? = some (.cells cur 3 (0, 0)) → W'.heap[g]? = some (.cells cur 3 (0, 0))
theorem KeepI.refl (W : World) : KeepI W W := fun _ _ h => h
theorem KeepI.trans {A B C : World} (h : KeepI A B) (k : KeepI B C) : KeepI A C := fun g c e => k g c (h g c e)
theorem KeepI.below {W W' : World} (h : Below W.heap.size W W') : KeepI W W' := fun g _ e => (h.block g (Array.getElem?_eq_some_iff.1 e).1).trans e
theorem KeepI.grown {W W' : World} {m : Nat} {es : Array MapEntry} {ck : Nat} (h : W.grownBy W' (some m)) (hm : W.heap[m]? = some (.map es ck)) : KeepI W W' := fun g c e =>
  (h.block g (Array.getElem?_eq_some_iff.1 e).1 (fun h => by cases h; rw [hm] at e; cases e)).trans e
theorem KeepI.set {W : World} {g : Nat} {t : TypeId} {cs : Array Value} (h : Blk W g t cs) (ht : t ≠ 3) (i : Nat) (u : Value) : KeepI W (W.setCell ⟨g, i, none⟩ u) := fun k c e =>
  (Below.heap_setCell W ⟨g, i, none⟩ u k (fun h' => by obtain rfl : k = g := h'; rw [show W.heap[k]? = _ from h] at e; cases e; exact ht rfl)).trans e
theorem KeepI.row {W : World} {g : Nat} {t : TypeId} {cs : Array Value} (h : Blk W g t cs) (ht : t ≠ 3) (r : Array Value) : KeepI W (W.setRow g r) := fun k c e =>
  (setRow_other W g k r (fun h' => by obtain rfl : k = g := h'; rw [show W.heap[k]? = _ from h] at e; cases e; exact ht rfl)).trans e
theorem PlanAt.keep {W W' : World} {v : Value} {l : List Int} (h : PlanAt W v l) (hk : KeepI W W') : PlanAt W' v l := by
  obtain ⟨h1, ⟨h2, h3⟩ | ⟨g, cap, cur, h2, h3, h4, h5⟩⟩ := h
  · exact ⟨h1, .inl ⟨h2, h3⟩⟩
  · exact ⟨h1, .inr ⟨g, cap, cur, h2, h3, hk g cur h4, h5⟩⟩
/-- A rest in memory. -/
def RestV (W : World) (v : Value) (r : Rst) : Prop := ∃ A c, v = .agg #[.slice A r.plan.length c, .int .i64 r.cost, .bool r.good] ∧ PlanAt W (.slice A r.plan.length c) r.plan
theorem RestV.keep {W W' : World} {v : Value} {r : Rst} (h : RestV W v r) (hk : KeepI W W') : RestV W' v r := by
  obtain ⟨A, c, h1, h2⟩ := h
  exact ⟨A, c, h1, h2.keep hk⟩
/-- What an entry of the map says: the best rest, of whatever draws are left then. -/
def Good (p : Press) (L : List Draw) (W : World) (s : Sta) (v : Value) : Prop := ∀ l, l <:+ L → s.sum + lenSum l = lenSum L → RestV W v (bestOf p l s)
theorem Good.keep {p : Press} {L : List Draw} {W W' : World} {s : Sta} {v : Value} (h : Good p L W s v) (hk : KeepI W W') : Good p L W' s v := fun l hl hs => (h l hl hs).keep hk
theorem good_mk {p : Press} {L l : List Draw} {W : World} {s : Sta} {v : Value} (hL : ∀ d ∈ L, 1 ≤ d.len) (hl : l <:+ L) (hs : s.sum + lenSum l = lenSum L) (h : RestV W v (bestOf p l s)) : Good p L W s v := fun l' hl' hs' => by
  rw [suffix_eq hL hl' hl (by omega)]; exact h
def cnt : Nat → Nat
  | 0 => 0
  | k + 1 => 1 + 4 * cnt k

/-- What try has captured, and what its box, the press and the map hold. -/
structure Env (p : Press) (L : List Draw) (A : Option Addr) (c kb pb tb m b off n : Nat) (W : World) : Prop where
  bk : Blk W kb 158 #[.map (some m)]
  bp : Blk W pb 26 #[.slice A p.dies.length c, .int .i64 p.shrink.lo, .int .i64 p.shrink.hi, .int .i64 p.change]
  bt : Blk W tb 159 #[.func (.func 102) #[] #[.pointer (some ⟨kb, 0, none⟩), .pointer (some ⟨pb, 0, none⟩), .pointer (some ⟨tb, 0, none⟩)]]
  dies : A = some ⟨b, off, none⟩ ∧ b < W.heap.size ∧ At3 dieF W b off p.dies
  known : KnownAt W m n (Good p L W)
section
variable {p : Press} {L : List Draw} {A : Option Addr} {c kb pb tb m b off n n' : Nat} {W W' : World}
theorem KnownAt.isMap {G : Sta → Value → Prop} (h : KnownAt W m n G) : ∃ es ck, W.heap[m]? = some (.map es ck) := by
  obtain ⟨es, ck, h1, -⟩ := h
  exact ⟨es, ck, h1⟩
theorem At3.gr {α : Type} {f : α → Int × Int × Int} {l : List α} {es : Array MapEntry} {ck : Nat} (h : At3 f W b off l) (hg : W.grownBy W' (some m)) (hm : W.heap[m]? = some (.map es ck)) : At3 f W' b off l := fun i hi => by
  have hne : ∀ {j : Nat} {v : Value}, W.cell? ⟨b, j, none⟩ = some v → W'.cell? ⟨b, j, none⟩ = some v := fun {j v} hv => hg.cell hv (fun e => by
    cases e
    simp [World.cell?, hm] at hv)
  obtain ⟨h0, h1, h2⟩ := h i hi
  exact ⟨hne h0, hne h1, hne h2⟩
theorem Sl3.gr {α : Type} {f : α → Int × Int × Int} {l : List α} {T : Option Addr} {es : Array MapEntry} {ck : Nat} (h : Sl3 f W W.heap.size T l) (hg : W.grownBy W' (some m)) (hm : W.heap[m]? = some (.map es ck)) : Sl3 f W' W'.heap.size T l := fun hne => by
  obtain ⟨b, off, e, hlt, hs⟩ := h hne
  exact ⟨b, off, e, Nat.lt_of_lt_of_le hlt hg.size, hs.gr hg hm⟩
theorem Blk.gr {g : Nat} {t : TypeId} {cs : Array Value} {es : Array MapEntry} {ck : Nat} (h : Blk W g t cs) (hg : W.grownBy W' (some m)) (hm : W.heap[m]? = some (.map es ck)) : Blk W' g t cs :=
  h.kept hg (fun e => by obtain rfl : g = m := Option.some.inj e; rw [show W.heap[g]? = _ from h] at hm; cases hm)
/-- After a call of try itself. -/
theorem Env.gr (h : Env p L A c kb pb tb m b off n W) (hg : W.grownBy W' (some m)) (hk : KnownAt W' m n' (Good p L W')) : Env p L A c kb pb tb m b off n' W' := by
  obtain ⟨es, ck, hm⟩ := h.known.isMap
  exact ⟨h.bk.gr hg hm, h.bp.gr hg hm, h.bt.gr hg hm, ⟨h.dies.1, Nat.lt_of_lt_of_le h.dies.2.1 hg.size, h.dies.2.2.gr hg hm⟩, hk⟩
theorem Env.call (h : Env p L A c kb pb tb m b off n W) (hb : Below W.heap.size W W') : Env p L A c kb pb tb m b off n W' :=
  ⟨h.bk.below hb h.bk.lt, h.bp.below hb h.bp.lt, h.bt.below hb h.bt.lt, ⟨h.dies.1, Nat.lt_of_lt_of_le h.dies.2.1 hb.size, h.dies.2.2.below hb h.dies.2.1⟩, (h.known.below hb h.known.lt).imp fun _ _ hG => hG.keep (.below hb)⟩
end
end Go.Proofs.Ytdadgljllnkppaa
