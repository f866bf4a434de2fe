/- Plain: what holds along the document's rows. -/
import Derived.Test.YtngoagfkcjkeoaaKc
namespace Go.Proofs.Ytngoagfkcjkeoaa

theorem it_ds {m o : Nat} {rest : List Pile} {left : List Int} {many : Int} (hrest : ∀ p ∈ rest, 0 ≤ p.many) (h : DS m o 0 rest left many) : ∀ q, q ≤ m → DS m o q rest (itR m o rest left many q).2.1 (itR m o rest left many q).2.2 ∧ (∀ k, (itR m o rest left many q).2.1.getD k 0 ≤ left.getD k 0) ∧ (itR m o rest left many q).2.2 ≤ many
  | 0, _ => ⟨h, fun _ => Int.le_refl _, Int.le_refl _⟩
  | q + 1, hq => by
    obtain ⟨h1, h2, h3⟩ := it_ds hrest h q (by omega)
    rw [itR_next]
    generalize itR m o rest left many q = st at *
    unfold itQ
    cases hb : o.testBit q with
    | true =>
      rw [if_pos rfl]
      have h4 := ds_take h1 (by omega) hb hrest
      have h0 := docN_nn h1
      have hl := left_at (o := o) (p := docN m o q rest st.2.1 st.2.2) hb (by rw [h1.len]; omega)
      refine ⟨h4, fun k => ?_, by dsimp only; omega⟩
      dsimp only
      rw [hl]
      have := h2 k
      split <;> omega
    | false =>
      rw [if_neg (by simp)]
      exact ⟨ds_skip h1 hb, h2, h3⟩
theorem leftN_ds {m : Nat} : ∀ (l : List Pile) (left : List Int) (i : Nat) (h : i < l.length), left.length = m → (∀ k, 0 ≤ left.getD k 0) → (∀ p ∈ l, 0 ≤ p.many) → (∀ s < 2 ^ m, needS left s ≤ hasS l s) →
    DS m l[i].shades.toNat 0 (l.drop (i + 1)) (leftN m l left i) l[i].many ∧ ∀ k, (leftN m l left i).getD k 0 ≤ left.getD k 0
  | p :: rest, left, 0, _, hll, hnn, hp, hh => by
    have hmt : ∀ s, meetB p.shades s = (s &&& p.shades.toNat != 0) := fun s => by unfold meetB; rw [Nat.and_comm]
    exact ⟨⟨hll, fun s hs => by
      have := hh s hs
      show needS left s ≤ (if mt p.shades.toNat 0 s = true then p.many else 0) + hasS rest s
      rw [mt_zero, ← hmt]
      exact this, hnn, hp p List.mem_cons_self, .inr fun k hk => by omega⟩, fun _ => Int.le_refl _⟩
  | p :: rest, left, i + 1, h, hll, hnn, hp, hh => by
    have hrest : ∀ q ∈ rest, 0 ≤ q.many := fun q hq => hp q (List.mem_cons_of_mem _ hq)
    have hmt : ∀ s, meetB p.shades s = (s &&& p.shades.toNat != 0) := fun s => by unfold meetB; rw [Nat.and_comm]
    have hd : DS m p.shades.toNat 0 rest left p.many := ⟨hll, fun s hs => by
      have := hh s hs
      rw [mt_zero, ← hmt]
      exact this, hnn, hp p List.mem_cons_self, .inr fun k hk => by omega⟩
    obtain ⟨d1, d2, d3, d4, d5⟩ := run_ds hrest m 0 left p.many (by omega) hd
    obtain ⟨i1, i2⟩ := leftN_ds rest (docRun m p.shades.toNat rest m 0 left p.many).2.1 i (by simpa using h) d1.len d1.nn hrest (fun s hs => by
      have := d1.cov s hs
      rw [mt_full hs] at this
      simpa using this)
    refine ⟨i1, fun k => Int.le_trans (i2 k) ?_⟩
    rw [d5 k]
    have := (d4 (k - 0)).1
    simp only [Nat.zero_le, if_true]
    omega
theorem docRun_len2 (m o : Nat) (rest : List Pile) : ∀ (f q : Nat) (left : List Int) (many : Int), (docRun m o rest f q left many).2.1.length = left.length
  | 0, _, _, _ => rfl
  | f + 1, q, left, many => by
    unfold docRun
    split
    · dsimp only
      rw [docRun_len2 m o rest f]
      unfold leftQ
      split <;> simp
    · exact docRun_len2 m o rest f _ _ _
theorem leftN_len' (m : Nat) : ∀ (l : List Pile) (left : List Int) (i : Nat), (leftN m l left i).length = left.length
  | [], _, _ => rfl
  | _ :: _, _, 0 => rfl
  | p :: rest, left, i + 1 => by
    unfold leftN
    rw [leftN_len' m rest, docRun_len2]
end Go.Proofs.Ytngoagfkcjkeoaa
