/- Plain: the assignment, number after number as great as can be. -/
import Derived.Test.YtngoagfkcjkeoaaLt
namespace Go.Proofs.Ytngoagfkcjkeoaa

def greatT (f : Int → Bool) : Nat → Int
  | 0 => 0
  | M + 1 => if f ((M : Int) + 1) = true then (M : Int) + 1 else greatT f M
theorem greatT_of (f : Int → Bool) : ∀ M : Nat, GreatOf f (M : Int) (greatT f M)
  | 0 => ⟨⟨Int.le_refl _, Int.le_refl _⟩, .inl rfl, fun x h h' => by have : (0 : Int) < x := h; omega⟩
  | M + 1 => by
    have h := greatT_of f M
    unfold greatT
    split
    · rename_i hf
      exact ⟨⟨by omega, by omega⟩, .inr hf, fun x h h' => by omega⟩
    · rename_i hf
      obtain ⟨⟨h1, h2⟩, h3, h4⟩ := h
      refine ⟨⟨h1, by omega⟩, h3, fun x hx hx' => ?_⟩
      by_cases e : x ≤ M
      · exact h4 x hx e
      · have : x = (M : Int) + 1 := by omega
        rw [this]
        simpa using hf
/-- The state of the assignment: what sets have and need, what is left of the pile, and the numbers. -/
structure AsSt where
  cf : Nat → Int × Int
  many : Int
  L : List Int
def capQ (q : Nat) (st : AsSt) : Int := min st.many (st.cf (2 ^ q)).2
def takeQ (m o q : Nat) (st : AsSt) : Int := greatT (canSellC st.cf m o q) (capQ q st).toNat
def stepQ (m i o : Nat) (st : AsSt) (q : Nat) : AsSt := if o.testBit q = true then ⟨soldF st.cf o q (takeQ m o q st), st.many - takeQ m o q st, st.L.set (i * 8 + q) (takeQ m o q st)⟩ else st
def rowQ (m i o : Nat) (k : Nat) (st : AsSt) : AsSt := (List.range k).foldl (stepQ m i o) st
theorem rowQ_next (m i o k : Nat) (st : AsSt) : rowQ m i o (k + 1) st = stepQ m i o (rowQ m i o k st) k := by
  unfold rowQ
  rw [List.range_succ, List.foldl_append]
  rfl
def begQ (p : Pile) (st : AsSt) : AsSt := { st with many := p.many }
def pileQ (m : Nat) : List Pile → Nat → AsSt → AsSt
  | [], _, st => st
  | p :: r, i, st => pileQ m r (i + 1) (rowQ m i p.shades.toNat m (begQ p st))
theorem pileQ_app (m : Nat) : ∀ (a b : List Pile) (i : Nat) (st : AsSt), pileQ m (a ++ b) i st = pileQ m b (i + a.length) (pileQ m a i st)
  | [], b, i, st => by simp [pileQ]
  | p :: a, b, i, st => by
    rw [List.cons_append, pileQ, pileQ, pileQ_app m a b (i + 1), List.length_cons]
    congr 1
    omega
theorem pileQ_next (m : Nat) (l : List Pile) (st : AsSt) (k : Nat) (h : k < l.length) : pileQ m (l.take (k + 1)) 0 st = rowQ m k l[k].shades.toNat m (begQ l[k] (pileQ m (l.take k) 0 st)) := by
  rw [List.take_succ_eq_append_getElem h, pileQ_app, List.length_take, Nat.min_eq_left (by omega), Nat.zero_add]
  rfl
/-- What holds of the state while k numbers at most have been made. -/
structure AsIn (m : Nat) (k : Nat) (st : AsSt) : Prop where
  bd : CountM (410000000 + 1048576 * (k : Int)) st.cf
  open_ : ∀ q < m, 0 ≤ (st.cf (2 ^ q)).2
  many : 0 ≤ st.many ∧ st.many ≤ 1048576
  len : st.L.length = 64
theorem take_in {m o q k : Nat} {st : AsSt} (h : AsIn m k st) (hq : q < m) : 0 ≤ capQ q st ∧ capQ q st ≤ 1048576 ∧ GreatOf (canSellC st.cf m o q) (capQ q st) (takeQ m o q st) := by
  have h1 := h.open_ q hq
  have h2 := h.many
  have h3 : 0 ≤ capQ q st := by unfold capQ; omega
  refine ⟨h3, by unfold capQ; omega, ?_⟩
  have := greatT_of (canSellC st.cf m o q) (capQ q st).toNat
  rwa [Int.toNat_of_nonneg h3] at this
theorem step_in {m i o q k : Nat} {st : AsSt} (h : AsIn m k st) (hq : q < m) : AsIn m (k + 1) (stepQ m i o st q) := by
  obtain ⟨c1, c2, ⟨g1, g2⟩, -, -⟩ := take_in (o := o) h hq
  have hm := h.many
  have hc : capQ q st ≤ st.many ∧ capQ q st ≤ (st.cf (2 ^ q)).2 := ⟨Int.min_le_left _ _, Int.min_le_right _ _⟩
  unfold stepQ
  split
  · refine ⟨fun s => ?_, fun q' hq' => ?_, ⟨by dsimp only; omega, by dsimp only; omega⟩, by simpa using h.len⟩
    · have := sold_bd (o := o) (q := q) g1 h.bd s
      dsimp only at this ⊢
      omega
    · dsimp only [soldF, sold1]
      have := h.open_ q' hq'
      split
      · rename_i hb
        rw [Nat.testBit_two_pow] at hb
        have : q' = q := by simpa using hb
        subst this
        omega
      · exact this
  · refine ⟨fun s => ?_, h.open_, h.many, h.len⟩
    have := h.bd s
    omega
theorem beg_in {m k : Nat} {st : AsSt} (h : AsIn m k st) {p : Pile} (hp : 0 ≤ p.many ∧ p.many ≤ 1048576) : AsIn m k (begQ p st) := ⟨h.bd, h.open_, hp, h.len⟩
theorem row_in {m i o k : Nat} {st : AsSt} (h : AsIn m k st) : ∀ j ≤ m, AsIn m (k + j) (rowQ m i o j st)
  | 0, _ => h
  | j + 1, hj => by rw [rowQ_next]; exact step_in (row_in h j (by omega)) (by omega)
theorem pile_in {m : Nat} (hm : m ≤ 8) : ∀ (l : List Pile) (i k : Nat) (st : AsSt), (∀ p ∈ l, 0 ≤ p.many ∧ p.many ≤ 1048576) → AsIn m k st → AsIn m (k + 8 * l.length) (pileQ m l i st)
  | [], _, _, _, _, h => h
  | p :: r, i, k, st, hp, h => by
    have h1 := row_in (i := i) (o := p.shades.toNat) (beg_in h (hp p List.mem_cons_self)) m (Nat.le_refl _)
    have h2 : AsIn m (k + 8) (rowQ m i p.shades.toNat m (begQ p st)) := ⟨fun s => by have := h1.bd s; omega, h1.open_, h1.many, h1.len⟩
    have h3 := pile_in hm r (i + 1) (k + 8) _ (fun p hp' => hp p (List.mem_cons_of_mem _ hp')) h2
    rw [List.length_cons, show k + 8 * (r.length + 1) = k + 8 + 8 * r.length by omega]
    exact h3
theorem sell_anti (cf : Nat → Int × Int) (m o q : Nat) {i j : Int} (hij : i ≤ j) (h : canSellC cf m o q j = true) : canSellC cf m o q i = true := by
  unfold canSellC at *
  rw [List.all_eq_true] at *
  intro s hs
  have h9 := h s hs
  cases hb : badC cf o q i s with
  | false => rfl
  | true =>
    have : badC cf o q j s = true := by
      unfold badC at hb ⊢
      rw [Bool.and_eq_true, decide_eq_true_eq] at hb ⊢
      exact ⟨hb.1, by omega⟩
    rw [this] at h9
    exact h9
end Go.Proofs.Ytngoagfkcjkeoaa
