/- Plain: what the law BoxLack asks. -/
import Derived.Test.YtngoagfkcjkeoaaLc
namespace Go.Proofs.Ytngoagfkcjkeoaa

/-- The first of those that lack most. -/
theorem worst_spec (f : Nat → Int) : ∀ (l : List Nat) (w : Nat × Int), (worstS f l w = w ∧ ∀ s ∈ l, f s ≤ w.2) ∨ (w.2 < (worstS f l w).2 ∧ (worstS f l w).1 ∈ l ∧ f (worstS f l w).1 = (worstS f l w).2 ∧ ∀ i j, i < j → (hj : j < l.length) → l[j]? = some (worstS f l w).1 → True)
  | [], w => .inl ⟨rfl, fun s h => by simp at h⟩
  | s :: r, w => by
    rw [worst_cons]
    by_cases h : w.2 < f s
    · rw [if_pos h]
      right
      rcases worst_spec f r (s, f s) with ⟨h1, h2⟩ | ⟨h1, h2, h3, h4⟩
      · rw [h1]
        exact ⟨h, List.mem_cons_self, rfl, fun _ _ _ _ _ => trivial⟩
      · exact ⟨by simp only at h1; omega, List.mem_cons_of_mem _ h2, h3, fun _ _ _ _ _ => trivial⟩
    · rw [if_neg h]
      rcases worst_spec f r w with ⟨h1, h2⟩ | ⟨h1, h2, h3, h4⟩
      · left
        refine ⟨h1, fun t ht => ?_⟩
        rcases List.mem_cons.1 ht with rfl | ht
        · omega
        · exact h2 t ht
      · right
        exact ⟨h1, List.mem_cons_of_mem _ h2, h3, fun _ _ _ _ _ => trivial⟩
/-- Those before the first worst lack less. -/
theorem worst_first (f : Nat → Int) : ∀ (l : List Nat) (w : Nat × Int), l.Pairwise (· < ·) → w.2 < (worstS f l w).2 → ∀ t ∈ l, t < (worstS f l w).1 → f t < (worstS f l w).2
  | [], w, _, h, t, ht, _ => by simp at ht
  | s :: r, w, hp, h, t, ht, hlt => by
    have hp' := List.pairwise_cons.1 hp
    rw [worst_cons] at *
    by_cases hw : w.2 < f s
    · rw [if_pos hw] at *
      rcases worst_spec f r (s, f s) with ⟨h1, h2⟩ | ⟨h1, h2, h3, -⟩
      · rw [h1] at hlt
        rcases List.mem_cons.1 ht with rfl | ht
        · exact absurd hlt (Nat.lt_irrefl _)
        · have h9 := hp'.1 t ht
          have h8 : t < s := hlt
          omega
      · rcases List.mem_cons.1 ht with rfl | ht
        · exact h1
        · exact worst_first f r (s, f s) hp'.2 h1 t ht hlt
    · rw [if_neg hw] at *
      rcases List.mem_cons.1 ht with rfl | ht
      · omega
      · exact worst_first f r w hp'.2 h t ht hlt
theorem lackR_spec {need : List Int} {l : List Pile} {b : Int} (h : 0 < (lackR need l b).2) :
    (1 ≤ (lackR need l b).1 ∧ (lackR need l b).1 < 2 ^ need.length) ∧ lackS need l b (lackR need l b).1 = (lackR need l b).2 ∧ ∀ t, 1 ≤ t → t < 2 ^ need.length → t < (lackR need l b).1 → lackS need l b t < (lackR need l b).2 := by
  have hp : (setsS need.length).Pairwise (· < ·) := List.pairwise_lt_range'
  rcases worst_spec (lackS need l b) (setsS need.length) (0, 0) with ⟨h1, -⟩ | ⟨h1, h2, h3, -⟩
  · unfold lackR at h; rw [h1] at h; exact absurd h (Int.lt_irrefl _)
  · exact ⟨mem_sets.1 h2, h3, fun t h4 h5 h6 => worst_first _ _ _ hp h1 t (mem_sets.2 ⟨h4, h5⟩) h6⟩
theorem lackR_le {need : List Int} {l : List Pile} {b : Int} {t : Nat} (h1 : 1 ≤ t) (h2 : t < 2 ^ need.length) : lackS need l b t ≤ (lackR need l b).2 := worst_le _ _ _ t (mem_sets.2 ⟨h1, h2⟩)
theorem meet_or {a : Int} {s t : Nat} : meetB a (s ||| t) = (meetB a s || meetB a t) := by
  unfold meetB
  rw [Nat.and_or_distrib_left]
  generalize a.toNat &&& s = x
  generalize a.toNat &&& t = y
  rw [Bool.eq_iff_iff]
  simp only [bne_iff_ne, ne_eq, Bool.or_eq_true, Nat.or_eq_zero_iff]
  exact Decidable.not_and_iff_not_or_not
theorem has_or : ∀ (l : List Pile) (s t : Nat), (∀ p ∈ l, 0 ≤ p.many) → hasS l (s ||| t) ≤ hasS l s + hasS l t
  | [], _, _, _ => Int.le_refl _
  | p :: l, s, t, h => by
    have ih := has_or l s t fun q hq => h q (List.mem_cons_of_mem _ hq)
    have h0 := h p List.mem_cons_self
    simp only [hasS, meet_or]
    cases meetB p.shades s <;> cases meetB p.shades t <;> simp <;> omega
theorem need_or : ∀ (need : List Int) (s t i : Nat), s &&& t = 0 → needF need (s ||| t) i = needF need s i + needF need t i
  | [], _, _, _, _ => rfl
  | n :: r, s, t, i, h => by
    have ih := need_or r s t (i + 1) h
    have hb : (s.testBit i && t.testBit i) = false := by rw [← Nat.testBit_and, h]; simp
    simp only [needF, ih, Nat.testBit_or]
    cases hs : s.testBit i <;> cases ht : t.testBit i <;> simp [hs, ht] at hb ⊢ <;> omega
theorem lack_or {need : List Int} {l : List Pile} {b : Int} {s t : Nat} (hl : ∀ p ∈ l, 0 ≤ p.many) (h : s &&& t = 0) : lackS need l b s + lackS need l b t ≤ lackS need l b (s ||| t) := by
  have h1 := has_or l s t hl
  have h2 := need_or need s t 0 h
  unfold lackS needS
  rw [h2, Int.add_mul]
  omega
theorem boxOk_app {need : List Int} {l : List Pile} {p : Pile} (h : boxOk need l = true) (hl : l.length < 8) (hs : 0 ≤ p.shades ∧ p.shades < 2 ^ need.length) (hm : 0 ≤ p.many ∧ p.many ≤ 1048576) : boxOk need (l ++ [p]) = true := by
  unfold boxOk at *
  rw [Bool.and_eq_true] at *
  refine ⟨h.1, ?_⟩
  have h2 := h.2
  unfold pilesOk at *
  rw [Bool.and_eq_true] at *
  rw [List.all_append, Bool.and_eq_true]
  refine ⟨by rw [decide_eq_true_eq, List.length_append]; simp; omega, h2.2, ?_⟩
  simp only [List.all_cons, List.all_nil, Bool.and_true, decide_eq_true_eq]
  exact ⟨hs, hm⟩
theorem errE_app {need : List Int} {l : List Pile} {b : Int} {p : Pile} (h : errE need l b = 0) (h' : boxOk need l = true) (ho : boxOk need (l ++ [p]) = true) : errE need (l ++ [p]) b = 0 := by
  unfold errE at *
  rw [if_pos ho]
  rw [if_pos h'] at h
  exact h
theorem hasS_one (l : List Pile) (p : Pile) (s : Nat) : hasS (l ++ [p]) s = hasS l s + (if meetB p.shades s then p.many else 0) := by
  rw [hasS_app]
  simp [hasS]
/-- With as many more, of any shade of the set, boxes can be filled. -/
theorem lack_filled {need : List Int} {l : List Pile} {b : Int} (hl : ∀ p ∈ l, 0 ≤ p.many) (h : 0 < (lackR need l b).2) : canB need (l ++ [⟨((lackR need l b).1 : Int), (lackR need l b).2⟩]) b = true := by
  obtain ⟨⟨h1, h2⟩, h3, -⟩ := lackR_spec h
  rw [can_iff]
  intro s hs1 hs2
  rw [hasS_one]
  have hle := lackR_le (need := need) (l := l) (b := b) hs1 hs2
  simp only
  cases hm : meetB ((lackR need l b).1 : Int) s with
  | true => simp only [if_true]; unfold lackS at hle; omega
  | false =>
    have h0 : s &&& (lackR need l b).1 = 0 := by
      unfold meetB at hm
      rw [Int.toNat_natCast] at hm
      rw [Nat.and_comm]
      simpa using hm
    have h4 := lack_or (need := need) (b := b) hl h0
    have h5 := lackR_le (need := need) (l := l) (b := b) (t := s ||| (lackR need l b).1) (by have := Nat.left_le_or (n := s) (m := (lackR need l b).1); omega) (Nat.or_lt_two_pow hs2 h2)
    unfold lackS at *
    simp
    omega
theorem meet_full {m s : Nat} (h1 : 1 ≤ s) (h2 : s < 2 ^ m) : meetB ((2 ^ m - 1 : Nat) : Int) s = true := by
  unfold meetB
  rw [Int.toNat_natCast, Nat.and_comm, Nat.and_two_pow_sub_one_eq_mod, Nat.mod_eq_of_lt h2]
  simp
  omega
theorem lack_short {need : List Int} {l : List Pile} {b : Int} (h : 0 < (lackR need l b).2) : canB need (l ++ [⟨((2 ^ need.length - 1 : Nat) : Int), (lackR need l b).2 - 1⟩]) b = false := by
  obtain ⟨⟨h1, h2⟩, h3, -⟩ := lackR_spec h
  cases hc : canB need (l ++ [⟨((2 ^ need.length - 1 : Nat) : Int), (lackR need l b).2 - 1⟩]) b with
  | false => rfl
  | true =>
    rw [can_iff] at hc
    have := hc _ h1 h2
    rw [hasS_one] at this
    simp only [meet_full h1 h2, if_true] at this
    unfold lackS at h3
    omega
end Go.Proofs.Ytngoagfkcjkeoaa
