/- Plain part of layer 9: what sets of shades have and need, how many boxes can be filled, what lacks. -/
import Derived.Test.YtngoagfkcjkeoaaRows
namespace Go.Proofs.Ytngoagfkcjkeoaa

/-- Pencils that may be sold as each shade of a set. -/
structure Pile where
  shades : Int
  many : Int
def meetB (a : Int) (s : Nat) : Bool := a.toNat &&& s != 0
def hasS : List Pile → Nat → Int
  | [], _ => 0
  | p :: l, s => (if meetB p.shades s then p.many else 0) + hasS l s
def needF : List Int → Nat → Nat → Int
  | [], _, _ => 0
  | n :: r, s, i => (if s.testBit i then n else 0) + needF r s (i + 1)
def needS (need : List Int) (s : Nat) : Int := needF need s 0
def setsS (n : Nat) : List Nat := List.range' 1 (2 ^ n - 1)
theorem mem_sets {n s : Nat} : s ∈ setsS n ↔ 1 ≤ s ∧ s < 2 ^ n := by
  have := Nat.two_pow_pos n
  simp only [setsS, List.mem_range'_1]
  omega
def shortB (need : List Int) (l : List Pile) (b : Int) (s : Nat) : Bool := decide (hasS l s < needS need s * b)
def lackingS (need : List Int) (l : List Pile) (b : Int) : Nat := ((setsS need.length).find? (shortB need l b)).getD 0
def canB (need : List Int) (l : List Pile) (b : Int) : Bool := lackingS need l b == 0
theorem can_iff {need : List Int} {l : List Pile} {b : Int} : canB need l b = true ↔ ∀ s, 1 ≤ s → s < 2 ^ need.length → needS need s * b ≤ hasS l s := by
  unfold canB lackingS
  rw [beq_iff_eq]
  constructor
  · intro h s h1 h2
    cases hf : (setsS need.length).find? (shortB need l b) with
    | none =>
      have := List.find?_eq_none.1 hf s (mem_sets.2 ⟨h1, h2⟩)
      simp only [shortB, decide_eq_true_eq] at this
      omega
    | some t =>
      rw [hf] at h
      simp only [Option.getD_some] at h
      have := (mem_sets.1 (List.mem_of_find?_eq_some hf)).1
      omega
  · intro h
    have hf : (setsS need.length).find? (shortB need l b) = none := by
      rw [List.find?_eq_none]
      intro s hs
      obtain ⟨h1, h2⟩ := mem_sets.1 hs
      have := h s h1 h2
      simp only [shortB, decide_eq_true_eq]
      omega
    rw [hf]
    rfl
/-- The greatest number up to M that can be. -/
def GreatOf (f : Int → Bool) (M r : Int) : Prop := (0 ≤ r ∧ r ≤ M) ∧ (r = 0 ∨ f r = true) ∧ ∀ x, r < x → x ≤ M → f x = false
theorem great_uniq {f : Int → Bool} {M r t : Int} (h : GreatOf f M r) (k : GreatOf f M t) : r = t := by
  obtain ⟨⟨h1, h2⟩, h3, h4⟩ := h
  obtain ⟨⟨k1, k2⟩, k3, k4⟩ := k
  rcases Int.lt_trichotomy r t with c | c | c
  · rcases k3 with e | e
    · omega
    · rw [h4 t c k2] at e; cases e
  · exact c
  · rcases h3 with e | e
    · omega
    · rw [k4 r c h2] at e; cases e
/-- What is asked of what a box needs, and of piles. -/
def needOk (need : List Int) : Bool := decide (1 ≤ need.length ∧ need.length ≤ 8) && need.all (fun n => decide (0 ≤ n ∧ n ≤ 48)) && need.any (fun n => decide (0 < n))
def pilesOk (l : List Pile) (n : Nat) : Bool := decide (l.length ≤ 8) && l.all fun p => decide ((0 ≤ p.shades ∧ p.shades < 2 ^ n) ∧ 0 ≤ p.many ∧ p.many ≤ 1048576)
def boxOk (need : List Int) (l : List Pile) : Bool := needOk need && pilesOk l need.length
/-- What a set lacks, and the first of those that lack most. -/
def lackS (need : List Int) (l : List Pile) (b : Int) (s : Nat) : Int := needS need s * b - hasS l s
def worstS (f : Nat → Int) : List Nat → Nat × Int → Nat × Int
  | [], w => w
  | s :: r, w => worstS f r (if w.2 < f s then (s, f s) else w)
theorem worst_cons (f : Nat → Int) (s : Nat) (r : List Nat) (w : Nat × Int) : worstS f (s :: r) w = worstS f r (if w.2 < f s then (s, f s) else w) := rfl
theorem worst_mono (f : Nat → Int) : ∀ (l : List Nat) (w : Nat × Int), w.2 ≤ (worstS f l w).2
  | [], _ => Int.le_refl _
  | s :: r, w => by
    have := worst_mono f r (if w.2 < f s then (s, f s) else w)
    unfold worstS
    split at this <;> rename_i h
    · rw [if_pos h]; simp only at this; omega
    · rw [if_neg h]; exact this
theorem worst_le (f : Nat → Int) : ∀ (l : List Nat) (w : Nat × Int), ∀ s ∈ l, f s ≤ (worstS f l w).2
  | [], _, s, h => by simp at h
  | t :: r, w, s, h => by
    rcases List.mem_cons.1 h with rfl | h
    · have := worst_mono f r (if w.2 < f s then (s, f s) else w)
      unfold worstS
      split at this <;> rename_i h1
      · rw [if_pos h1]; exact this
      · rw [if_neg h1]; omega
    · exact worst_le f r _ s h
/-- From two beginnings below 0: the worst is the same if something lacks. -/
theorem worst_from (f : Nat → Int) : ∀ (l : List Nat) (v w : Nat × Int), v.2 ≤ 0 → w.2 ≤ 0 → (worstS f l v = worstS f l w ∧ 0 < (worstS f l v).2) ∨ ((worstS f l v).2 ≤ 0 ∧ (worstS f l w).2 ≤ 0)
  | [], v, w, h, k => .inr ⟨h, k⟩
  | s :: r, v, w, h, k => by
    unfold worstS
    by_cases h0 : 0 < f s
    · rw [if_pos (by omega), if_pos (by omega)]
      left
      exact ⟨rfl, Int.lt_of_lt_of_le h0 (worst_mono f r (s, f s))⟩
    · exact worst_from f r _ _ (by split <;> omega) (by split <;> omega)
/-- The document's own way: from nothing, what is more than 0. -/
def lackR (need : List Int) (l : List Pile) (b : Int) : Nat × Int := worstS (lackS need l b) (setsS need.length) (0, 0)
/-- The program's way: from the first one. -/
def lackP (need : List Int) (l : List Pile) (b : Int) : Nat × Int := match setsS need.length with
  | [] => (0, 0)
  | s :: r => worstS (lackS need l b) r (s, lackS need l b s)
theorem lack_same (need : List Int) (l : List Pile) (b : Int) : (lackP need l b = lackR need l b ∧ 0 < (lackR need l b).2) ∨ ((lackP need l b).2 ≤ 0 ∧ (lackR need l b).2 ≤ 0) := by
  unfold lackP lackR
  cases setsS need.length with
  | nil => right; exact ⟨Int.le_refl _, Int.le_refl _⟩
  | cons s r =>
    simp only [worst_cons]
    by_cases h0 : 0 < lackS need l b s
    · rw [if_pos h0]
      left
      exact ⟨rfl, Int.lt_of_lt_of_le h0 (worst_mono _ r _)⟩
    · rw [if_neg h0]
      rcases worst_from (lackS need l b) r (s, lackS need l b s) (0, 0) (by omega) (Int.le_refl _) with ⟨h1, h2⟩ | h
      · left; exact ⟨h1, by rw [← h1]; exact h2⟩
      · right; exact h
/-- The document's number of boxes: the least of what the sets have for what they need. -/
def bestR (need : List Int) (l : List Pile) : List Nat → Int → Int
  | [], b => b
  | s :: r, b => bestR need l r (if 0 < needS need s ∧ (b < 0 ∨ hasS l s / needS need s < b) then hasS l s / needS need s else b)
theorem best_spec (need : List Int) (l : List Pile) (hn : ∀ s, 0 ≤ hasS l s) : ∀ (m : List Nat) (b : Int), -1 ≤ b →
    (bestR need l m b = -1 ∧ b = -1 ∧ ∀ s ∈ m, ¬ 0 < needS need s) ∨ (0 ≤ bestR need l m b ∧ (b = -1 ∨ bestR need l m b ≤ b) ∧ (∀ s ∈ m, 0 < needS need s → bestR need l m b ≤ hasS l s / needS need s) ∧ (bestR need l m b = b ∨ ∃ s ∈ m, 0 < needS need s ∧ bestR need l m b = hasS l s / needS need s))
  | [], b, hb => by
    unfold bestR
    by_cases h : b = -1
    · left; exact ⟨h, h, fun s hs => by simp at hs⟩
    · right; exact ⟨by omega, .inr (Int.le_refl _), fun s hs => by simp at hs, .inl rfl⟩
  | s :: r, b, hb => by
    unfold bestR
    by_cases hp : 0 < needS need s
    · have hd : 0 ≤ hasS l s / needS need s := Int.ediv_nonneg (hn s) (Int.le_of_lt hp)
      by_cases hc : b < 0 ∨ hasS l s / needS need s < b
      · rw [if_pos ⟨hp, hc⟩]
        rcases best_spec need l hn r (hasS l s / needS need s) (by omega) with ⟨h1, h2, -⟩ | ⟨h1, h2, h3, h4⟩
        · omega
        · right
          refine ⟨h1, by omega, fun t ht h0 => ?_, ?_⟩
          · rcases List.mem_cons.1 ht with rfl | ht
            · omega
            · exact h3 t ht h0
          · right
            rcases h4 with h4 | ⟨t, ht, h5⟩
            · exact ⟨s, List.mem_cons_self, hp, h4⟩
            · exact ⟨t, List.mem_cons_of_mem _ ht, h5⟩
      · rw [if_neg (fun h => hc h.2)]
        rcases best_spec need l hn r b hb with ⟨h1, h2, -⟩ | ⟨h1, h2, h3, h4⟩
        · omega
        · right
          refine ⟨h1, h2, fun t ht h0 => ?_, ?_⟩
          · rcases List.mem_cons.1 ht with rfl | ht
            · omega
            · exact h3 t ht h0
          · rcases h4 with h4 | ⟨t, ht, h5⟩
            · exact .inl h4
            · exact .inr ⟨t, List.mem_cons_of_mem _ ht, h5⟩
    · rw [if_neg (fun h => hp h.1)]
      rcases best_spec need l hn r b hb with ⟨h1, h2, h3⟩ | ⟨h1, h2, h3, h4⟩
      · left
        refine ⟨h1, h2, fun t ht => ?_⟩
        rcases List.mem_cons.1 ht with rfl | ht
        · exact hp
        · exact h3 t ht
      · right
        refine ⟨h1, h2, fun t ht h0 => ?_, ?_⟩
        · rcases List.mem_cons.1 ht with rfl | ht
          · exact absurd h0 hp
          · exact h3 t ht h0
        · rcases h4 with h4 | ⟨t, ht, h5⟩
          · exact .inl h4
          · exact .inr ⟨t, List.mem_cons_of_mem _ ht, h5⟩
theorem pile_parts {l : List Pile} {n : Nat} (h : pilesOk l n = true) : l.length ≤ 8 ∧ ∀ p ∈ l, (0 ≤ p.shades ∧ p.shades < 2 ^ n) ∧ 0 ≤ p.many ∧ p.many ≤ 1048576 := by
  unfold pilesOk at h
  rw [Bool.and_eq_true, decide_eq_true_eq, List.all_eq_true] at h
  exact ⟨h.1, fun p hp => by have := h.2 p hp; rwa [decide_eq_true_eq] at this⟩
theorem need_parts {need : List Int} (h : needOk need = true) : (1 ≤ need.length ∧ need.length ≤ 8) ∧ (∀ n ∈ need, 0 ≤ n ∧ n ≤ 48) ∧ ∃ n ∈ need, 0 < n := by
  unfold needOk at h
  rw [Bool.and_eq_true, Bool.and_eq_true, decide_eq_true_eq, List.all_eq_true, List.any_eq_true] at h
  obtain ⟨⟨h1, h2⟩, n, hn, h3⟩ := h
  exact ⟨h1, fun n hn => by have := h2 n hn; rwa [decide_eq_true_eq] at this, n, hn, by rwa [decide_eq_true_eq] at h3⟩
theorem has_bd : ∀ (l : List Pile) (s : Nat), (∀ p ∈ l, 0 ≤ p.many ∧ p.many ≤ 1048576) → 0 ≤ hasS l s ∧ hasS l s ≤ 1048576 * l.length
  | [], _, _ => by simp [hasS]
  | p :: l, s, h => by
    have h1 := has_bd l s (fun q hq => h q (List.mem_cons_of_mem _ hq))
    have h2 := h p List.mem_cons_self
    unfold hasS
    rw [List.length_cons]
    split <;> omega
theorem needF_bd : ∀ (need : List Int) (s i : Nat), (∀ n ∈ need, 0 ≤ n ∧ n ≤ 48) → 0 ≤ needF need s i ∧ needF need s i ≤ 48 * need.length
  | [], _, _, _ => by simp [needF]
  | n :: r, s, i, h => by
    have h1 := needF_bd r s (i + 1) (fun q hq => h q (List.mem_cons_of_mem _ hq))
    have h2 := h n List.mem_cons_self
    unfold needF
    rw [List.length_cons]
    split <;> omega
theorem needF_full : ∀ (need : List Int) (s i : Nat), (∀ k, k < need.length → s.testBit (i + k) = true) → needF need s i = need.sum
  | [], _, _, _ => rfl
  | n :: r, s, i, h => by
    unfold needF
    rw [if_pos (by have := h 0 (by simp); simpa using this), needF_full r s (i + 1) (fun k hk => by have := h (k + 1) (by simpa using hk); rwa [show i + (k + 1) = i + 1 + k by omega] at this)]
    simp
theorem sum_pos : ∀ (need : List Int), (∀ n ∈ need, 0 ≤ n) → (∃ n ∈ need, 0 < n) → 0 < need.sum
  | [], _, ⟨n, hn, _⟩ => by simp at hn
  | n :: r, h, ⟨m, hm, h0⟩ => by
    have hs : 0 ≤ r.sum := by
      clear hm h0
      have h1 : ∀ n ∈ r, (0 : Int) ≤ n := fun q hq => h q (List.mem_cons_of_mem _ hq)
      clear h
      induction r with
      | nil => simp
      | cons a r ih =>
        have := h1 a List.mem_cons_self
        have := ih (fun q hq => h1 q (List.mem_cons_of_mem _ hq))
        simp; omega
    have hn := h n List.mem_cons_self
    rw [List.sum_cons]
    rcases List.mem_cons.1 hm with rfl | hm
    · omega
    · have := sum_pos r (fun q hq => h q (List.mem_cons_of_mem _ hq)) ⟨m, hm, h0⟩
      omega
/-- All shades together need something. -/
theorem need_full {need : List Int} (h : needOk need = true) : 0 < needS need (2 ^ need.length - 1) := by
  obtain ⟨-, h2, h3⟩ := need_parts h
  unfold needS
  rw [needF_full need _ 0 (fun k hk => by rw [Nat.zero_add, Nat.testBit_two_pow_sub_one]; simpa using hk)]
  exact sum_pos need (fun n hn => (h2 n hn).1) h3
/-- The greatest number of boxes, found either way. -/
theorem most_same {need : List Int} {l : List Pile} (h : boxOk need l = true) {r : Int} (hr : GreatOf (canB need l) 8388608 r) : bestR need l (setsS need.length) (-1) = r := by
  unfold boxOk at h
  rw [Bool.and_eq_true] at h
  obtain ⟨h8, hp⟩ := pile_parts h.2
  obtain ⟨hn1, hn2, -⟩ := need_parts h.1
  have hbd : ∀ s, 0 ≤ hasS l s ∧ hasS l s ≤ 8388608 := fun s => by
    have := has_bd l s (fun p hq => (hp p hq).2)
    have : (l.length : Int) ≤ 8 := by omega
    omega
  have hfl := need_full h.1
  have hmem : (2 ^ need.length - 1) ∈ setsS need.length := by
    have : 2 ^ 1 ≤ 2 ^ need.length := Nat.pow_le_pow_right (by omega) hn1.1
    exact mem_sets.2 ⟨by omega, by omega⟩
  have hnn : ∀ s, 0 ≤ needS need s := fun s => (needF_bd need s 0 hn2).1
  rcases best_spec need l (fun s => (hbd s).1) (setsS need.length) (-1) (Int.le_refl _) with ⟨-, -, h3⟩ | ⟨h1, -, h3, h4⟩
  · exact absurd hfl (h3 _ hmem)
  · generalize bestR need l (setsS need.length) (-1) = b at *
    have hcan : ∀ x, canB need l x = true ↔ ∀ s, 1 ≤ s → s < 2 ^ need.length → needS need s * x ≤ hasS l s := fun x => can_iff
    refine great_uniq ?_ hr
    refine ⟨⟨h1, ?_⟩, .inr ((hcan b).2 fun s hs1 hs2 => ?_), fun x hx hM => ?_⟩
    · have h5 := h3 _ hmem hfl
      have h6 := Int.ediv_le_self (b := needS need (2 ^ need.length - 1)) (hbd (2 ^ need.length - 1)).1
      have := (hbd (2 ^ need.length - 1)).2
      omega
    · rcases Int.lt_or_le 0 (needS need s) with h0 | h0
      · have h5 := h3 s (mem_sets.2 ⟨hs1, hs2⟩) h0
        have h6 := Int.mul_le_mul_of_nonneg_left h5 (Int.le_of_lt h0)
        have h7 := Int.mul_ediv_self_le (x := hasS l s) (k := needS need s) (by omega)
        omega
      · have := hnn s
        have e : needS need s = 0 := by omega
        rw [e, Int.zero_mul]; exact (hbd s).1
    · rcases h4 with h4 | ⟨s, hs, h0, h4⟩
      · omega
      · cases hc : canB need l x with
        | false => rfl
        | true =>
          exfalso
          obtain ⟨hs1, hs2⟩ := mem_sets.1 hs
          have h5 := (hcan x).1 hc s hs1 hs2
          have h6 := (Int.le_ediv_iff_mul_le h0).2 (by rw [Int.mul_comm]; exact h5)
          omega
theorem lack_nonneg (need : List Int) (l : List Pile) (b : Int) : 0 ≤ (lackR need l b).2 := worst_mono _ _ (0, 0)
theorem can_lack {need : List Int} {l : List Pile} {b : Int} : canB need l b = true ↔ (lackR need l b).2 = 0 := by
  rw [can_iff]
  constructor
  · intro h
    have h9 : ∀ (m : List Nat) (w : Nat × Int), w.2 ≤ 0 → (∀ s ∈ m, lackS need l b s ≤ 0) → (worstS (lackS need l b) m w).2 ≤ 0 := by
      intro m
      induction m with
      | nil => intro w hw _; exact hw
      | cons s r ih =>
        intro w hw hs
        unfold worstS
        refine ih _ ?_ (fun t ht => hs t (List.mem_cons_of_mem _ ht))
        have := hs s List.mem_cons_self
        split <;> omega
    have h1 := h9 (setsS need.length) (0, 0) (Int.le_refl _) (fun s hs => by
      obtain ⟨h1, h2⟩ := mem_sets.1 hs
      have := h s h1 h2
      unfold lackS; omega)
    have h2 := lack_nonneg need l b
    unfold lackR at *
    omega
  · intro h s h1 h2
    have := worst_le (lackS need l b) (setsS need.length) (0, 0) s (mem_sets.2 ⟨h1, h2⟩)
    unfold lackR at h
    unfold lackS at *
    omega
end Go.Proofs.Ytngoagfkcjkeoaa
