/- Plain: the assignment is one (Hall), its numbers are the document's. -/
import Derived.Test.YtngoagfkcjkeoaaPk
import Derived.Test.YtngoagfkcjkeoaaAc
namespace Go.Proofs.Ytngoagfkcjkeoaa

/-- Do two sets have a shade in common from k on? -/
def mt (o k s : Nat) : Bool := (s &&& o) >>> k != 0
theorem mt_iff {o k s : Nat} : mt o k s = true ↔ ∃ j, k ≤ j ∧ o.testBit j = true ∧ s.testBit j = true := by
  unfold mt
  rw [bne_iff_ne]
  constructor
  · intro h
    obtain ⟨i, hi⟩ := Nat.exists_testBit_of_ne_zero h
    rw [Nat.testBit_shiftRight, Nat.testBit_and, Bool.and_eq_true] at hi
    exact ⟨k + i, Nat.le_add_right _ _, hi.2, hi.1⟩
  · rintro ⟨j, hj, h1, h2⟩ h
    have : ((s &&& o) >>> k).testBit (j - k) = true := by rw [Nat.testBit_shiftRight, Nat.add_sub_cancel' hj, Nat.testBit_and, h1, h2]; rfl
    rw [h] at this
    simp at this
theorem mt_zero (o s : Nat) : mt o 0 s = (s &&& o != 0) := by simp [mt]
theorem mt_not {o k s : Nat} : mt o k s = false ↔ ∀ j, k ≤ j → o.testBit j = true → s.testBit j = false := by
  rw [← Bool.not_eq_true, mt_iff]
  constructor
  · intro h j h1 h2
    cases h3 : s.testBit j with
    | false => rfl
    | true => exact absurd ⟨j, h1, h2, h3⟩ h
  · rintro h ⟨j, h1, h2, h3⟩
    rw [h j h1 h2] at h3
    cases h3
theorem mt_weak {o k s : Nat} (h : mt o (k + 1) s = true) : mt o k s = true := by
  obtain ⟨j, h1, h2⟩ := mt_iff.1 h
  exact mt_iff.2 ⟨j, by omega, h2⟩
theorem mt_full {o m s : Nat} (h : s < 2 ^ m) : mt o m s = false := mt_not.2 fun j h1 _ => Nat.testBit_lt_two_pow (Nat.lt_of_lt_of_le h (Nat.pow_le_pow_right (by omega) h1))
theorem meet_mt (a : Int) (s : Nat) : meetB a s = mt a.toNat 0 s := by rw [mt_zero, meetB, Nat.and_comm]
theorem meet_iff {a : Int} {s : Nat} : meetB a s = true ↔ ∃ j, a.toNat.testBit j = true ∧ s.testBit j = true := by
  rw [meet_mt, mt_iff]
  exact ⟨fun ⟨j, _, h⟩ => ⟨j, h⟩, fun ⟨j, h⟩ => ⟨j, Nat.zero_le _, h⟩⟩
/-- What two sets have together and in common, they have no more of than each. -/
theorem has_sub : ∀ (l : List Pile) (s t : Nat), (∀ p ∈ l, 0 ≤ p.many) → hasS l (s ||| t) + hasS l (s &&& t) ≤ hasS l s + hasS l t
  | [], _, _, _ => Int.le_refl _
  | p :: l, s, t, h => by
    have ih := has_sub l s t fun q hq => h q (List.mem_cons_of_mem _ hq)
    have h0 := h p List.mem_cons_self
    have e1 : meetB p.shades (s &&& t) = true → meetB p.shades s = true ∧ meetB p.shades t = true := fun h => by
      obtain ⟨j, h1, h2⟩ := meet_iff.1 h
      rw [Nat.testBit_and, Bool.and_eq_true] at h2
      exact ⟨meet_iff.2 ⟨j, h1, h2.1⟩, meet_iff.2 ⟨j, h1, h2.2⟩⟩
    simp only [hasS, meet_or]
    cases h1 : meetB p.shades (s &&& t) with
    | true =>
      obtain ⟨h2, h3⟩ := e1 h1
      simp only [h2, h3, Bool.or_true, if_true]
      omega
    | false => cases meetB p.shades s <;> cases meetB p.shades t <;> simp <;> omega
theorem has_mono : ∀ (l : List Pile) (s t : Nat), (∀ p ∈ l, 0 ≤ p.many) → (∀ j, s.testBit j = true → t.testBit j = true) → hasS l s ≤ hasS l t
  | [], _, _, _, _ => Int.le_refl _
  | p :: l, s, t, h, hst => by
    have ih := has_mono l s t (fun q hq => h q (List.mem_cons_of_mem _ hq)) hst
    have h0 := h p List.mem_cons_self
    have e1 : meetB p.shades s = true → meetB p.shades t = true := fun h => by
      obtain ⟨j, h1, h2⟩ := meet_iff.1 h
      exact meet_iff.2 ⟨j, h1, hst j h2⟩
    simp only [hasS]
    cases h1 : meetB p.shades s with
    | true => rw [e1 h1]; simp only [if_true]; omega
    | false =>
      simp only [Bool.false_eq_true, if_false]
      split <;> omega
theorem need_mod : ∀ (need : List Int) (s t i : Nat), needF need (s ||| t) i + needF need (s &&& t) i = needF need s i + needF need t i
  | [], _, _, _ => rfl
  | n :: r, s, t, i => by
    have ih := need_mod r s t (i + 1)
    simp only [needF, Nat.testBit_or, Nat.testBit_and]
    cases s.testBit i <;> cases t.testBit i <;> simp <;> omega
theorem need_set : ∀ (need : List Int) (s i q : Nat) (x : Int) (h : q < need.length), needF (need.set q x) s i = needF need s i + (if s.testBit (i + q) then x - need[q] else 0)
  | n :: r, s, i, 0, x, _ => by
    simp only [List.set_cons_zero, needF, List.getElem_cons_zero, Nat.add_zero]
    split <;> omega
  | n :: r, s, i, q + 1, x, h => by
    have ih := need_set r s (i + 1) q x (by simpa using h)
    simp only [List.set_cons_succ, needF, List.getElem_cons_succ, ih]
    rw [show i + 1 + q = i + (q + 1) by omega]
    split <;> omega
theorem need_one : ∀ (need : List Int) (i q : Nat) (h : q < need.length), needF need (2 ^ (i + q)) i = need[q]
  | n :: r, i, 0, _ => by
    have : ∀ (r : List Int) (k j : Nat), k < j → needF r (2 ^ k) j = 0 := by
      intro r
      induction r with
      | nil => intros; rfl
      | cons a r ih =>
        intro k j h
        simp only [needF, Nat.testBit_two_pow]
        rw [ih k (j + 1) (by omega)]
        simp
        omega
    simp only [needF, Nat.add_zero, Nat.testBit_two_pow, this r i (i + 1) (by omega), List.getElem_cons_zero]
    simp
  | n :: r, i, q + 1, h => by
    have ih := need_one r (i + 1) q (by simpa using h)
    rw [show i + 1 + q = i + (q + 1) by omega] at ih
    simp only [needF, ih, List.getElem_cons_succ, Nat.testBit_two_pow]
    simp
/-- What is left of a pile (from shade k on) and of the later ones is enough for what is left of each set. -/
def Cov (m o k : Nat) (rest : List Pile) (left : List Int) (many : Int) : Prop := ∀ s < 2 ^ m, needS left s ≤ (if mt o k s then many else 0) + hasS rest s
/-- The table says what is left; what earlier piles have left over, nobody needs. -/
structure Rel (m o : Nat) (rest gone : List Pile) (left : List Int) (st : AsSt) : Prop where
  len : left.length = m
  cf : ∀ s, st.cf s = ((if s &&& o != 0 then st.many else 0) + hasS rest s + hasS gone s, needS left s)
  gone : ∀ p ∈ gone, 0 ≤ p.many ∧ (0 < p.many → ∀ k, p.shades.toNat.testBit k = true → left.getD k 0 = 0)
theorem Rel.at {m o q : Nat} {rest gone : List Pile} {left : List Int} {st : AsSt} (h : Rel m o rest gone left st) (hq : q < m) : (st.cf (2 ^ q)).2 = left[q]'(by rw [h.len]; exact hq) := by
  rw [h.cf]
  have := need_one left 0 q (by rw [h.len]; exact hq)
  rwa [Nat.zero_add] at this
def leftQ (o q : Nat) (left : List Int) (p : Int) : List Int := if o.testBit q = true then left.set q (left.getD q 0 - p) else left
theorem rel_step {m i o q : Nat} {rest gone : List Pile} {left : List Int} {st : AsSt} (h : Rel m o rest gone left st) (hq : q < m) (hi : 0 ≤ takeQ m o q st ∧ takeQ m o q st ≤ left.getD q 0) : Rel m o rest gone (leftQ o q left (takeQ m o q st)) (stepQ m i o st q) := by
  unfold leftQ stepQ
  generalize takeQ m o q st = p at *
  have hq' : q < left.length := by rw [h.len]; exact hq
  split
  · rename_i hb
    refine ⟨by rw [List.length_set]; exact h.len, fun s => ?_, fun p' hp' => ⟨(h.gone p' hp').1, fun h0 k hk => ?_⟩⟩
    have e := need_set left s 0 q (left.getD q 0 - p) hq'
    rw [List.getD_eq_getElem?_getD, List.getElem?_eq_getElem hq', Option.getD_some, Nat.zero_add] at e
    have e2 : s.testBit q = true → (s &&& o != 0) = true := fun hs => by
      rw [← mt_zero]; exact mt_iff.2 ⟨q, Nat.zero_le _, hb, hs⟩
    dsimp only [soldF, sold1]
    rw [h.cf s]
    refine Prod.ext ?_ ?_
    · dsimp only
      cases (s &&& o != 0)
      · simp
      · simp only [if_true]; omega
    · dsimp only
      unfold needS
      rw [List.getD_eq_getElem?_getD, List.getElem?_eq_getElem hq', Option.getD_some, e]
      split <;> omega
    · have h9 := (h.gone p' hp').2 h0 k hk
      rw [List.getD_eq_getElem?_getD, List.getElem?_set]
      by_cases e9 : q = k
      · subst e9
        rw [if_pos rfl, if_pos hq', Option.getD_some]
        omega
      · rw [if_neg e9, ← List.getD_eq_getElem?_getD]
        exact h9
  · exact h
theorem sell_all {cf : Nat → Int × Int} {m o q : Nat} {p : Int} (h : canSellC cf m o q p = true) {s : Nat} (h1 : 1 ≤ s) (h2 : s < 2 ^ m) (hq : s.testBit q = false) (ho : (s &&& o != 0) = true) : (cf s).2 ≤ (cf s).1 - p := by
  unfold canSellC at h
  rw [List.all_eq_true] at h
  have := h s (mem_sets.2 ⟨h1, h2⟩)
  unfold badC at this
  rw [hq, ho] at this
  simp at this
  omega
theorem sell_not {cf : Nat → Int × Int} {m o q : Nat} {p : Int} (h : canSellC cf m o q p = false) : ∃ s, 1 ≤ s ∧ s < 2 ^ m ∧ s.testBit q = false ∧ (s &&& o != 0) = true ∧ (cf s).1 - p < (cf s).2 := by
  unfold canSellC at h
  rw [List.all_eq_false] at h
  obtain ⟨s, hs, hb⟩ := h
  obtain ⟨h1, h2⟩ := mem_sets.1 hs
  unfold badC at hb
  simp at hb
  exact ⟨s, h1, h2, by simpa using hb.1.1, by simpa using hb.1.2, hb.2⟩
theorem need_left {m o q : Nat} {left : List Int} {p : Int} (hl : left.length = m) (hq : q < m) (hb : o.testBit q = true) (s : Nat) : needS (leftQ o q left p) s = needS left s - (if s.testBit q then p else 0) := by
  have hq' : q < left.length := by omega
  unfold leftQ needS
  rw [if_pos hb]
  have e := need_set left s 0 q (left.getD q 0 - p) hq'
  rw [List.getD_eq_getElem?_getD, List.getElem?_eq_getElem hq', Option.getD_some, Nat.zero_add] at e
  rw [List.getD_eq_getElem?_getD, List.getElem?_eq_getElem hq', Option.getD_some, e]
  split <;> omega
theorem need_out {left : List Int} {q : Nat} (h : q < left.length) {s : Nat} (hs : s.testBit q = true) : needS left s - left[q] = needS left (s ^^^ 2 ^ q) := by
  have e := need_mod left (s ^^^ 2 ^ q) (2 ^ q) 0
  have e1 := need_one left 0 q h
  rw [Nat.zero_add] at e1
  have e2 : (s ^^^ 2 ^ q) ||| 2 ^ q = s := by
    apply Nat.eq_of_testBit_eq
    intro j
    rw [Nat.testBit_or, Nat.testBit_xor, Nat.testBit_two_pow]
    by_cases hj : q = j
    · subst hj; simp [hs]
    · simp [hj]
  have e3 : (s ^^^ 2 ^ q) &&& 2 ^ q = 0 := by
    apply Nat.eq_of_testBit_eq
    intro j
    rw [Nat.testBit_and, Nat.testBit_xor, Nat.testBit_two_pow, Nat.zero_testBit]
    by_cases hj : q = j
    · subst hj; simp [hs]
    · simp [hj]
  have e4 : needF left 0 0 = 0 := by
    have : ∀ (r : List Int) (i : Nat), needF r 0 i = 0 := by
      intro r
      induction r with
      | nil => intro; rfl
      | cons a r ih => intro i; simp [needF, ih]
    exact this _ _
  rw [e2, e3, e1, e4] at e
  unfold needS
  omega
theorem xor_lt {s m q : Nat} (h : s < 2 ^ m) (hq : q < m) : s ^^^ 2 ^ q < 2 ^ m := Nat.xor_lt_two_pow h (Nat.pow_lt_pow_right (by omega) hq)
/-- The document's number: as great as what is left of the pile and of the shade, and as what others need. -/
def docN (m o q : Nat) (rest : List Pile) (left : List Int) (many : Int) : Int := (setsS m).foldl (fun n t => if (!t.testBit q && mt o (q + 1) t) = true then min n (many + hasS rest t - needS left t) else n) (min many (left.getD q 0))
theorem fold_min (f : Nat → Int) (c : Nat → Bool) : ∀ (l : List Nat) (n : Int), (l.foldl (fun n t => if c t = true then min n (f t) else n) n ≤ n) ∧ (∀ t ∈ l, c t = true → l.foldl (fun n t => if c t = true then min n (f t) else n) n ≤ f t) ∧
    (l.foldl (fun n t => if c t = true then min n (f t) else n) n = n ∨ ∃ t ∈ l, c t = true ∧ l.foldl (fun n t => if c t = true then min n (f t) else n) n = f t)
  | [], n => ⟨Int.le_refl _, fun t h => by simp at h, .inl rfl⟩
  | a :: r, n => by
    obtain ⟨h1, h2, h3⟩ := fold_min f c r (if c a = true then min n (f a) else n)
    rw [List.foldl_cons]
    generalize List.foldl _ _ r = z at *
    refine ⟨?_, fun t ht hc => ?_, ?_⟩
    · split at h1 <;> omega
    · rcases List.mem_cons.1 ht with rfl | ht
      · rw [if_pos hc] at h1; omega
      · exact h2 t ht hc
    · rcases h3 with h3 | ⟨t, ht, hc, h3⟩
      · by_cases hc : c a = true
        · rw [if_pos hc] at h3
          rcases Int.le_total n (f a) with h | h
          · left; omega
          · right; exact ⟨a, List.mem_cons_self, hc, by omega⟩
        · rw [if_neg hc] at h3; left; exact h3
      · right; exact ⟨t, List.mem_cons_of_mem _ ht, hc, h3⟩
theorem docN_spec (m o q : Nat) (rest : List Pile) (left : List Int) (many : Int) : docN m o q rest left many ≤ min many (left.getD q 0) ∧ (∀ t, 1 ≤ t → t < 2 ^ m → t.testBit q = false → mt o (q + 1) t = true → docN m o q rest left many ≤ many + hasS rest t - needS left t) ∧
    (docN m o q rest left many = min many (left.getD q 0) ∨ ∃ t, 1 ≤ t ∧ t < 2 ^ m ∧ t.testBit q = false ∧ mt o (q + 1) t = true ∧ docN m o q rest left many = many + hasS rest t - needS left t) := by
  obtain ⟨h1, h2, h3⟩ := fold_min (fun t => many + hasS rest t - needS left t) (fun t => !t.testBit q && mt o (q + 1) t) (setsS m) (min many (left.getD q 0))
  refine ⟨h1, fun t a b c d => h2 t (mem_sets.2 ⟨a, b⟩) (by simp [c, d]), ?_⟩
  rcases h3 with h | ⟨t, ht, hc, h⟩
  · exact .inl h
  · obtain ⟨a, b⟩ := mem_sets.1 ht
    rw [Bool.and_eq_true] at hc
    exact .inr ⟨t, a, b, by simpa using hc.1, hc.2, h⟩
theorem need_only : ∀ (left : List Int) (s t i : Nat), (∀ k, left.getD k 0 ≠ 0 → s.testBit (i + k) = t.testBit (i + k)) → needF left s i = needF left t i
  | [], _, _, _, _ => rfl
  | n :: r, s, t, i, h => by
    have ih := need_only r s t (i + 1) (fun k hk => by
      have := h (k + 1) (by simpa using hk)
      rwa [show i + (k + 1) = i + 1 + k by omega] at this)
    have h0 := h 0
    simp only [needF, ih, Nat.add_zero] at *
    by_cases e : n = 0
    · subst e; simp
    · rw [h0 (by simpa using e)]
theorem bits_of (f : Nat → Bool) : ∀ m : Nat, ∃ s : Nat, s < 2 ^ m ∧ ∀ j, s.testBit j = (decide (j < m) && f j)
  | 0 => ⟨0, by simp, fun j => by simp⟩
  | m + 1 => by
    obtain ⟨s, h1, h2⟩ := bits_of f m
    have hp : 2 ^ m < 2 ^ (m + 1) := Nat.pow_lt_pow_right (by omega) (by omega)
    cases hf : f m with
    | false =>
      refine ⟨s, by omega, fun j => ?_⟩
      rw [h2]
      by_cases e : j = m
      · subst e; simp [hf]
      · by_cases e2 : j < m
        · simp [e2, show j < m + 1 by omega]
        · simp [e2, show ¬ j < m + 1 by omega]
    | true =>
      refine ⟨s ||| 2 ^ m, Nat.or_lt_two_pow (by omega) hp, fun j => ?_⟩
      rw [Nat.testBit_or, h2, Nat.testBit_two_pow]
      by_cases e : j = m
      · subst e; simp [hf]
      · by_cases e2 : j < m
        · simp [e2, show j < m + 1 by omega, show ¬ m = j by omega]
        · simp [e2, show ¬ j < m + 1 by omega, show ¬ m = j by omega]
/-- Without the shades that nobody needs any more, a set needs as much, and nothing that is gone is in it. -/
theorem cut_zero {m o : Nat} {rest gone : List Pile} {left : List Int} {st : AsSt} (hr : Rel m o rest gone left st) (hrest : ∀ p ∈ rest, 0 ≤ p.many) {t : Nat} (ht : t < 2 ^ m) :
    ∃ t', t' < 2 ^ m ∧ (∀ j, t'.testBit j = true → t.testBit j = true) ∧ needS left t' = needS left t ∧ hasS gone t' = 0 ∧ hasS rest t' ≤ hasS rest t := by
  obtain ⟨t', h1, h2⟩ := bits_of (fun j => t.testBit j && decide (left.getD j 0 ≠ 0)) m
  have h3 : ∀ j, t'.testBit j = true → t.testBit j = true := fun j hj => by
    rw [h2] at hj
    simp only [Bool.and_eq_true] at hj
    exact hj.2.1
  refine ⟨t', h1, h3, need_only left t' t 0 (fun k hk => ?_), ?_, has_mono rest t' t hrest h3⟩
  · rw [Nat.zero_add, h2]
    by_cases e : k < m
    · rw [decide_eq_true e, decide_eq_true hk]; simp
    · rw [Nat.testBit_lt_two_pow (Nat.lt_of_lt_of_le ht (Nat.pow_le_pow_right (by omega) (by omega)))]
      simp
  · have hg := hr.gone
    clear hr
    induction gone with
    | nil => rfl
    | cons p r ih =>
      have := ih (fun q hq => hg q (List.mem_cons_of_mem _ hq))
      simp only [hasS, this, Int.add_zero]
      cases hm : meetB p.shades t' with
      | false => rfl
      | true =>
        obtain ⟨j, hj1, hj2⟩ := meet_iff.1 hm
        obtain ⟨g1, g2⟩ := hg p List.mem_cons_self
        simp only [if_true]
        by_cases e : 0 < p.many
        · have := g2 e j hj1
          rw [h2, Bool.and_eq_true, Bool.and_eq_true, decide_eq_true_eq, decide_eq_true_eq] at hj2
          exact absurd this hj2.2.2
        · omega
theorem has_nonneg : ∀ (l : List Pile) (s : Nat), (∀ p ∈ l, 0 ≤ p.many) → 0 ≤ hasS l s
  | [], _, _ => Int.le_refl _
  | p :: l, s, h => by
    have := has_nonneg l s fun q hq => h q (List.mem_cons_of_mem _ hq)
    have := h p List.mem_cons_self
    simp only [hasS]
    split <;> omega
/-- The program's number is the document's. -/
theorem take_doc {m o q n : Nat} {rest gone : List Pile} {left : List Int} {st : AsSt} (hr : Rel m o rest gone left st) (hi : AsIn m n st) (hq : q < m) (hrest : ∀ p ∈ rest, 0 ≤ p.many) (hc : Cov m o q rest left st.many) : takeQ m o q st = docN m o q rest left st.many ∧ 0 ≤ docN m o q rest left st.many := by
  obtain ⟨c1, c2, hg⟩ := take_in (o := o) hi hq
  obtain ⟨d1, d2, d3⟩ := docN_spec m o q rest left st.many
  have hq' : q < left.length := by rw [hr.len]; exact hq
  have hcap : capQ q st = min st.many (left.getD q 0) := by
    unfold capQ
    rw [hr.at hq, List.getD_eq_getElem?_getD, List.getElem?_eq_getElem hq', Option.getD_some]
  have h0 : 0 ≤ docN m o q rest left st.many := by
    rcases d3 with h | ⟨t, a, b, c, d, h⟩
    · omega
    · have := hc t b
      rw [if_pos (mt_weak d)] at this
      omega
  have hmany := hi.many
  refine ⟨great_uniq hg ⟨⟨h0, by omega⟩, ?_, fun x hx hx' => ?_⟩, h0⟩
  · right
    cases hs : canSellC st.cf m o q (docN m o q rest left st.many) with
    | true => rfl
    | false =>
      obtain ⟨t, a, b, c, d, h⟩ := sell_not hs
      rw [hr.cf t, if_pos d] at h
      dsimp only at h
      have hgn := has_nonneg gone t fun p hp => (hr.gone p hp).1
      cases hm : mt o (q + 1) t with
      | true => have := d2 t a b c hm; omega
      | false =>
        have h9 : mt o q t = false := mt_not.2 fun j hj ho => by
          by_cases e : j = q
          · rw [e]; exact c
          · exact mt_not.1 hm j (by omega) ho
        have := hc t b
        rw [h9] at this
        simp at this
        omega
  · cases hs : canSellC st.cf m o q x with
    | false => rfl
    | true =>
      rcases d3 with h | ⟨t, a, b, c, d, h⟩
      · omega
      · obtain ⟨t', e1, e2, e3, e4, e5⟩ := cut_zero hr hrest b
        have c' : t'.testBit q = false := by
          cases h9 : t'.testBit q with
          | false => rfl
          | true => rw [e2 q h9] at c; cases c
        cases ho : (t' &&& o != 0) with
        | true =>
          have h1 : 1 ≤ t' := by
            rcases Nat.eq_zero_or_pos t' with e | e
            · subst e; simp at ho
            · exact e
          have := sell_all hs h1 e1 c' ho
          rw [hr.cf t', if_pos ho] at this
          dsimp only at this
          omega
        | false =>
          have h9 : mt o q t' = false := by
            cases h8 : mt o q t' with
            | false => rfl
            | true =>
              obtain ⟨j, j1, j2, j3⟩ := mt_iff.1 h8
              have : mt o 0 t' = true := mt_iff.2 ⟨j, Nat.zero_le _, j2, j3⟩
              rw [mt_zero, ho] at this
              cases this
          have := hc t' e1
          rw [h9] at this
          simp at this
          omega
theorem cov_skip {m o q : Nat} {rest : List Pile} {left : List Int} {many : Int} (hb : o.testBit q = false) (hc : Cov m o q rest left many) : Cov m o (q + 1) rest left many := fun s hs => by
  have h := hc s hs
  cases h1 : mt o (q + 1) s with
  | true => rwa [mt_weak h1] at h
  | false =>
    rw [show mt o q s = false from mt_not.2 fun j hj ho => by
      by_cases e : j = q
      · rw [e, hb] at ho; cases ho
      · exact mt_not.1 h1 j (by omega) ho] at h
    exact h
theorem cov_take {m o q : Nat} {rest : List Pile} {left : List Int} {many : Int} (hl : left.length = m) (hq : q < m) (hb : o.testBit q = true) (hrest : ∀ p ∈ rest, 0 ≤ p.many) (hm : 0 ≤ many) (hc : Cov m o q rest left many) :
    Cov m o (q + 1) rest (leftQ o q left (docN m o q rest left many)) (many - docN m o q rest left many) := fun s hs => by
  obtain ⟨d1, d2, d3⟩ := docN_spec m o q rest left many
  rw [need_left hl hq hb]
  generalize docN m o q rest left many = p at *
  have hq' : q < left.length := by omega
  rw [List.getD_eq_getElem?_getD, List.getElem?_eq_getElem hq', Option.getD_some] at d1 d3
  have hcs := hc s hs
  cases hsq : s.testBit q with
  | false =>
    simp only [Bool.false_eq_true, if_false, Int.sub_zero]
    cases h1 : mt o (q + 1) s with
    | true =>
      have hs1 : 1 ≤ s := by
        rcases Nat.eq_zero_or_pos s with e | e
        · subst e; simp [mt] at h1
        · exact e
      have := d2 s hs1 hs hsq h1
      simp only [if_true]
      omega
    | false =>
      rw [show mt o q s = false from mt_not.2 fun j hj ho => by
        by_cases e : j = q
        · rw [e]; exact hsq
        · exact mt_not.1 h1 j (by omega) ho] at hcs
      exact hcs
  | true =>
    rw [show mt o q s = true from mt_iff.2 ⟨q, Nat.le_refl _, hb, hsq⟩] at hcs
    simp only [if_true] at hcs ⊢
    cases h1 : mt o (q + 1) s with
    | true => simp only [if_true]; omega
    | false =>
      simp only [Bool.false_eq_true, if_false]
      have hout := need_out hq' hsq
      have hx : needS left (s ^^^ 2 ^ q) ≤ hasS rest s := by
        have h2 := hc _ (xor_lt hs hq)
        rw [show mt o q (s ^^^ 2 ^ q) = false from mt_not.2 fun j hj ho => by
          rw [Nat.testBit_xor, Nat.testBit_two_pow]
          by_cases e : q = j
          · subst e; simp [hsq]
          · simp [e, mt_not.1 h1 j (by omega) ho]] at h2
        have h3 := has_mono rest (s ^^^ 2 ^ q) s hrest (fun j hj => by
          rw [Nat.testBit_xor, Nat.testBit_two_pow] at hj
          by_cases e : q = j
          · subst e; exact hsq
          · simpa [e] using hj)
        simp at h2
        omega
      rcases d3 with h | ⟨t, a, b, c, d, h⟩
      · omega
      · have h2 := hc (s ||| t) (Nat.or_lt_two_pow hs b)
        have h3 := hc (s &&& t) (Nat.lt_of_le_of_lt Nat.and_le_left hs)
        rw [show mt o q (s &&& t) = false from mt_not.2 fun j hj ho => by
          rw [Nat.testBit_and]
          by_cases e : j = q
          · rw [e, c]; simp
          · rw [mt_not.1 h1 j (by omega) ho]; simp] at h3
        have h4 := need_mod left s t 0
        have h5 := has_sub rest s t hrest
        unfold needS at *
        simp at h3
        split at h2 <;> omega
def docRun (m o : Nat) (rest : List Pile) : Nat → Nat → List Int → Int → List Int × List Int × Int
  | 0, _, left, many => ([], left, many)
  | f + 1, q, left, many => if o.testBit q = true then
      ((docN m o q rest left many) :: (docRun m o rest f (q + 1) (leftQ o q left (docN m o q rest left many)) (many - docN m o q rest left many)).1, (docRun m o rest f (q + 1) (leftQ o q left (docN m o q rest left many)) (many - docN m o q rest left many)).2)
    else (0 :: (docRun m o rest f (q + 1) left many).1, (docRun m o rest f (q + 1) left many).2)
/-- The document's rows. -/
def docRows (m : Nat) : List Pile → List Int → List (List Int)
  | [], _ => []
  | p :: rest, left => (docRun m p.shades.toNat rest m 0 left p.many).1 :: docRows m rest (docRun m p.shades.toNat rest m 0 left p.many).2.1
/-- What is left over of a pile, nobody needs: its shades are done, or a set is just enough. -/
def Tg (m o q : Nat) (rest : List Pile) (left : List Int) (many : Int) : Prop := many = 0 ∨ ∀ k < q, o.testBit k = true → left.getD k 0 = 0 ∨ ∃ t < 2 ^ m, needS left t = many + hasS rest t
structure DS (m o q : Nat) (rest : List Pile) (left : List Int) (many : Int) : Prop where
  len : left.length = m
  cov : Cov m o q rest left many
  nn : ∀ k, 0 ≤ left.getD k 0
  mn : 0 ≤ many
  tg : Tg m o q rest left many
theorem left_at {o q : Nat} {left : List Int} {p : Int} (hb : o.testBit q = true) (hq : q < left.length) (k : Nat) : (leftQ o q left p).getD k 0 = left.getD k 0 - (if k = q then p else 0) := by
  unfold leftQ
  rw [if_pos hb, List.getD_eq_getElem?_getD, List.getElem?_set]
  by_cases e : q = k
  · subst e
    rw [if_pos rfl, if_pos hq, if_pos rfl, Option.getD_some]
  · rw [if_neg e, if_neg (fun h => e h.symm), ← List.getD_eq_getElem?_getD]
    omega
theorem ds_skip {m o q : Nat} {rest : List Pile} {left : List Int} {many : Int} (h : DS m o q rest left many) (hb : o.testBit q = false) : DS m o (q + 1) rest left many := by
  refine ⟨h.len, cov_skip hb h.cov, h.nn, h.mn, ?_⟩
  rcases h.tg with e | e
  · exact .inl e
  · refine .inr fun k hk ho => ?_
    by_cases e2 : k = q
    · subst e2; rw [hb] at ho; cases ho
    · exact e k (by omega) ho
theorem docN_nn {m o q : Nat} {rest : List Pile} {left : List Int} {many : Int} (h : DS m o q rest left many) : 0 ≤ docN m o q rest left many := by
  obtain ⟨d1, d2, d3⟩ := docN_spec m o q rest left many
  have h1 := h.nn q
  have h2 := h.mn
  rcases d3 with e | ⟨t, a, b, c, d, e⟩
  · omega
  · have := h.cov t b
    rw [if_pos (mt_weak d)] at this
    omega
theorem ds_take {m o q : Nat} {rest : List Pile} {left : List Int} {many : Int} (h : DS m o q rest left many) (hq : q < m) (hb : o.testBit q = true) (hrest : ∀ p ∈ rest, 0 ≤ p.many) : DS m o (q + 1) rest (leftQ o q left (docN m o q rest left many)) (many - docN m o q rest left many) := by
  have h0 := docN_nn h
  have hcov := cov_take h.len hq hb hrest h.mn h.cov
  obtain ⟨d1, d2, d3⟩ := docN_spec m o q rest left many
  have hq' : q < left.length := by rw [h.len]; exact hq
  have hn := need_left (o := o) (p := docN m o q rest left many) h.len hq hb
  generalize docN m o q rest left many = p at *
  have hl := left_at (p := p) hb hq'
  refine ⟨by unfold leftQ; rw [if_pos hb, List.length_set]; exact h.len, hcov, fun k => ?_, by omega, ?_⟩
  · rw [hl]
    have := h.nn k
    split
    · rename_i e; subst e; omega
    · omega
  · by_cases hz : many - p = 0
    · exact .inl hz
    · refine .inr fun k hk ho => ?_
      have hmz : many ≠ 0 := fun e => by omega
      by_cases e2 : k = q
      · subst e2
        rcases d3 with e | ⟨t, a, b, c, d, e⟩
        · left
          rw [hl, if_pos rfl]
          omega
        · right
          refine ⟨t, b, ?_⟩
          rw [hn, c]
          simp
          omega
      · rcases h.tg with e | e
        · exact absurd e hmz
        · rcases e k (by omega) ho with e3 | ⟨t, b, e3⟩
          · left
            rw [hl, if_neg e2]
            omega
          · right
            refine ⟨t, b, ?_⟩
            rw [hn]
            cases ht : t.testBit q with
            | true => simp only [if_true]; omega
            | false =>
              simp only [Bool.false_eq_true, if_false]
              cases hm : mt o (q + 1) t with
              | true =>
                have ht1 : 1 ≤ t := by
                  rcases Nat.eq_zero_or_pos t with e9 | e9
                  · subst e9; simp [mt] at hm
                  · exact e9
                have := d2 t ht1 b ht hm
                omega
              | false =>
                have h9 : mt o q t = false := mt_not.2 fun j hj ho' => by
                  by_cases e9 : j = q
                  · rw [e9]; exact ht
                  · exact mt_not.1 hm j (by omega) ho'
                have := h.cov t b
                rw [h9] at this
                simp at this
                have := h.mn
                omega
theorem run_ds {m o : Nat} {rest : List Pile} (hrest : ∀ p ∈ rest, 0 ≤ p.many) : ∀ (f q : Nat) (left : List Int) (many : Int), q + f = m → DS m o q rest left many →
    DS m o m rest (docRun m o rest f q left many).2.1 (docRun m o rest f q left many).2.2 ∧ (docRun m o rest f q left many).1.length = f ∧ (docRun m o rest f q left many).1.sum + (docRun m o rest f q left many).2.2 = many ∧
    (∀ t, 0 ≤ (docRun m o rest f q left many).1.getD t 0 ∧ (0 < (docRun m o rest f q left many).1.getD t 0 → o.testBit (q + t) = true)) ∧
    ∀ k, (docRun m o rest f q left many).2.1.getD k 0 = left.getD k 0 - (if q ≤ k then (docRun m o rest f q left many).1.getD (k - q) 0 else 0)
  | 0, q, left, many, hqf, h => by
    obtain rfl : q = m := by omega
    exact ⟨h, rfl, by simp [docRun], fun t => ⟨by simp [docRun], fun h => by simp [docRun] at h⟩, fun k => by simp [docRun]⟩
  | f + 1, q, left, many, hqf, h => by
    have hq : q < m := by omega
    cases hb : o.testBit q with
    | true =>
      have h0 := docN_nn h
      have hs := ds_take h hq hb hrest
      obtain ⟨r1, r2, r3, r4, r5⟩ := run_ds hrest f (q + 1) _ _ (by omega) hs
      have hl := left_at (o := o) (p := docN m o q rest left many) hb (by rw [h.len]; exact hq)
      unfold docRun
      rw [if_pos hb]
      generalize docRun m o rest f (q + 1) _ _ = x at *
      generalize docN m o q rest left many = p at *
      refine ⟨r1, by simp [r2], by simp only [List.sum_cons]; omega, fun t => ?_, fun k => ?_⟩
      · cases t with
        | zero => exact ⟨h0, fun _ => hb⟩
        | succ t =>
          have := r4 t
          rw [show q + 1 + t = q + (t + 1) by omega] at this
          simpa using this
      · rw [r5, hl]
        by_cases e : k = q
        · subst e
          rw [if_pos rfl, if_neg (by omega), if_pos (Nat.le_refl _), Nat.sub_self]
          simp
        · by_cases e2 : q ≤ k
          · rw [if_neg e, if_pos (by omega), if_pos e2, show k - q = k - (q + 1) + 1 by omega]
            simp
          · rw [if_neg e, if_neg (by omega), if_neg e2]
            omega
    | false =>
      have hs := ds_skip h hb
      obtain ⟨r1, r2, r3, r4, r5⟩ := run_ds hrest f (q + 1) _ _ (by omega) hs
      unfold docRun
      rw [if_neg (by rw [hb]; simp)]
      generalize docRun m o rest f (q + 1) _ _ = x at *
      refine ⟨r1, by simp [r2], by simp only [List.sum_cons]; omega, fun t => ?_, fun k => ?_⟩
      · cases t with
        | zero => exact ⟨Int.le_refl _, fun h => absurd h (Int.lt_irrefl _)⟩
        | succ t =>
          have := r4 t
          rw [show q + 1 + t = q + (t + 1) by omega] at this
          simpa using this
      · rw [r5]
        by_cases e : k = q
        · subst e
          rw [if_neg (by omega), if_pos (Nat.le_refl _), Nat.sub_self]
          simp
        · by_cases e2 : q ≤ k
          · rw [if_pos (by omega), if_pos e2, show k - q = k - (q + 1) + 1 by omega]
            simp
          · rw [if_neg (by omega), if_neg e2]
/-- The program's way through a pile is the document's. -/
theorem run_prog {m i o : Nat} {rest gone : List Pile} (hi : i < 8) (hm : m ≤ 8) (hrest : ∀ p ∈ rest, 0 ≤ p.many) : ∀ (f q n : Nat) (left : List Int) (st : AsSt), q + f = m → Rel m o rest gone left st → AsIn m n st → DS m o q rest left st.many → (∀ j, i * 8 + q ≤ j → st.L.getD j 0 = 0) →
    Rel m o rest gone (docRun m o rest f q left st.many).2.1 ((List.range' q f).foldl (stepQ m i o) st) ∧ AsIn m (n + f) ((List.range' q f).foldl (stepQ m i o) st) ∧ ((List.range' q f).foldl (stepQ m i o) st).many = (docRun m o rest f q left st.many).2.2 ∧
    (∀ t, t < f → ((List.range' q f).foldl (stepQ m i o) st).L.getD (i * 8 + q + t) 0 = (docRun m o rest f q left st.many).1.getD t 0) ∧ (∀ j, j < i * 8 + q → ((List.range' q f).foldl (stepQ m i o) st).L.getD j 0 = st.L.getD j 0) ∧ (∀ j, i * 8 + q + f ≤ j → ((List.range' q f).foldl (stepQ m i o) st).L.getD j 0 = 0)
  | 0, q, n, left, st, hqf, hr, ha, hd, hz => ⟨hr, ha, rfl, fun t h => by omega, fun _ _ => rfl, fun j hj => hz j (by omega)⟩
  | f + 1, q, n, left, st, hqf, hr, ha, hd, hz => by
    have hq : q < m := by omega
    rw [List.range'_succ, List.foldl_cons]
    cases hb : o.testBit q with
    | true =>
      obtain ⟨t1, t2⟩ := take_doc hr ha hq hrest hd.cov
      have hs := ds_take hd hq hb hrest
      have d1 := (docN_spec m o q rest left st.many).1
      have hr2 := rel_step (i := i) hr hq (by rw [t1]; exact ⟨t2, by omega⟩)
      have ha2 := step_in (i := i) (o := o) ha hq
      have e : stepQ m i o st q = ⟨soldF st.cf o q (docN m o q rest left st.many), st.many - docN m o q rest left st.many, st.L.set (i * 8 + q) (docN m o q rest left st.many)⟩ := by unfold stepQ; rw [if_pos hb, t1]
      rw [t1] at hr2
      have em : (stepQ m i o st q).many = st.many - docN m o q rest left st.many := by rw [e]
      have eL : (stepQ m i o st q).L = st.L.set (i * 8 + q) (docN m o q rest left st.many) := by rw [e]
      clear e
      generalize stepQ m i o st q = st2 at *
      rw [← em] at hs
      have hlen := ha.len
      have hz2 : ∀ j, (st.L.set (i * 8 + q) (docN m o q rest left st.many)).getD j 0 = if j = i * 8 + q then docN m o q rest left st.many else st.L.getD j 0 := fun j => by
        rw [List.getD_eq_getElem?_getD, List.getElem?_set]
        by_cases e9 : i * 8 + q = j
        · subst e9
          rw [if_pos rfl, if_pos (by omega), if_pos rfl, Option.getD_some]
        · rw [if_neg e9, if_neg (fun h => e9 h.symm), ← List.getD_eq_getElem?_getD]
      obtain ⟨r1, r2, r3, r4, r5, r6⟩ := run_prog hi hm hrest f (q + 1) (n + 1) _ _ (by omega) hr2 ha2 hs (fun j hj => by
        rw [eL, hz2, if_neg (by omega)]
        exact hz j (by omega))
      unfold docRun
      rw [if_pos hb]
      rw [em] at r1 r3 r4
      refine ⟨r1, by rw [show n + (f + 1) = n + 1 + f by omega]; exact r2, r3, fun t ht => ?_, fun j hj => ?_, fun j hj => r6 j (by omega)⟩
      · cases t with
        | zero =>
          rw [r5 _ (by omega), eL, hz2, if_pos (by omega)]
          rfl
        | succ t =>
          have := r4 t (by omega)
          rw [show i * 8 + (q + 1) + t = i * 8 + q + (t + 1) by omega] at this
          simpa using this
      · rw [r5 j (by omega), eL, hz2, if_neg (by omega)]
    | false =>
      have hs := ds_skip hd hb
      have e : stepQ m i o st q = st := by unfold stepQ; rw [if_neg (by rw [hb]; simp)]
      have ha2 := step_in (i := i) (o := o) ha hq
      rw [e] at *
      obtain ⟨r1, r2, r3, r4, r5, r6⟩ := run_prog hi hm hrest f (q + 1) (n + 1) _ _ (by omega) hr ha2 hs (fun j hj => hz j (by omega))
      unfold docRun
      rw [if_neg (by rw [hb]; simp)]
      dsimp only at *
      refine ⟨r1, by rw [show n + (f + 1) = n + 1 + f by omega]; exact r2, r3, fun t ht => ?_, fun j hj => r5 j (by omega), fun j hj => r6 j (by omega)⟩
      cases t with
      | zero =>
        rw [r5 _ (by omega), hz _ (by omega)]
        rfl
      | succ t =>
        have := r4 t (by omega)
        rw [show i * 8 + (q + 1) + t = i * 8 + q + (t + 1) by omega] at this
        simpa using this
theorem rowQ_range (m i o f : Nat) (st : AsSt) : rowQ m i o f st = (List.range' 0 f).foldl (stepQ m i o) st := by
  unfold rowQ
  rw [List.range_eq_range']
theorem docRows_len (m : Nat) : ∀ (l : List Pile) (left : List Int), (docRows m l left).length = l.length
  | [], _ => rfl
  | _ :: l, left => by simp only [docRows, List.length_cons, docRows_len m l]
/-- All piles: the program's numbers are the document's. -/
theorem prog_piles {m : Nat} (hm : m ≤ 8) : ∀ (l : List Pile) (i n : Nat) (gone : List Pile) (left : List Int) (st : AsSt), i + l.length ≤ 8 → (∀ p ∈ l, 0 ≤ p.many ∧ p.many ≤ 1048576) → left.length = m → (∀ k, 0 ≤ left.getD k 0) →
    (∀ s, st.cf s = (hasS l s + hasS gone s, needS left s)) → (∀ p ∈ gone, 0 ≤ p.many ∧ (0 < p.many → ∀ k, p.shades.toNat.testBit k = true → left.getD k 0 = 0)) → AsIn m n st → (∀ s < 2 ^ m, needS left s ≤ hasS l s) → (∀ p ∈ l, p.shades.toNat < 2 ^ m) → (∀ j, i * 8 ≤ j → st.L.getD j 0 = 0) →
    (∀ a t, a < l.length → t < m → (pileQ m l i st).L.getD ((i + a) * 8 + t) 0 = ((docRows m l left).getD a []).getD t 0) ∧ (∀ j, j < i * 8 → (pileQ m l i st).L.getD j 0 = st.L.getD j 0)
  | [], i, n, gone, left, st, hi, hp, hll, hnn, hcf, hg, ha, hh, hsh, hz => ⟨fun a t h => by simp at h, fun _ _ => rfl⟩
  | p :: rest, i, n, gone, left, st, hi, hp, hll, hnn, hcf, hg, ha, hh, hsh, hz => by
    simp only [List.length_cons] at hi
    obtain ⟨p0, p1⟩ := hp p List.mem_cons_self
    have hrest : ∀ q ∈ rest, 0 ≤ q.many := fun q hq => (hp q (List.mem_cons_of_mem _ hq)).1
    have hmt : ∀ s, meetB p.shades s = (s &&& p.shades.toNat != 0) := fun s => by unfold meetB; rw [Nat.and_comm]
    have hr : Rel m p.shades.toNat rest gone left (begQ p st) := ⟨hll, fun s => by
      show st.cf s = _
      rw [hcf]
      simp only [hasS, hmt, begQ], hg⟩
    have hd : DS m p.shades.toNat 0 rest left (begQ p st).many := ⟨hll, fun s hs => by
      have := hh s hs
      rw [mt_zero, ← hmt]
      exact this, hnn, p0, .inr fun k hk => by omega⟩
    have hb := beg_in ha (p := p) ⟨p0, p1⟩
    obtain ⟨r1, r2, r3, r4, r5, r6⟩ := run_prog (i := i) (by omega) hm hrest m 0 n left (begQ p st) (by omega) hr hb hd (fun j hj => hz j (by omega))
    obtain ⟨d1, d2, d3, d4, d5⟩ := run_ds hrest m 0 left p.many (by omega) hd
    simp only [pileQ, docRows]
    rw [rowQ_range]
    change ∀ t, t < m → _ at r4
    rw [show (begQ p st).many = p.many from rfl] at *
    generalize (List.range' 0 m).foldl (stepQ m i p.shades.toNat) (begQ p st) = st2 at *
    generalize docRun m p.shades.toNat rest m 0 left p.many = x at *
    have hsp := hsh p List.mem_cons_self
    have hgone : ∀ p' ∈ (⟨p.shades, x.2.2⟩ : Pile) :: gone, 0 ≤ p'.many ∧ (0 < p'.many → ∀ k, p'.shades.toNat.testBit k = true → x.2.1.getD k 0 = 0) := fun p' hp' => by
      rcases List.mem_cons.1 hp' with rfl | hp'
      · refine ⟨d1.mn, fun h0 k hk => ?_⟩
        have hkm : k < m := by
          rcases Nat.lt_or_ge k m with h | h
          · exact h
          · have := Nat.testBit_lt_two_pow (Nat.lt_of_lt_of_le hsp (Nat.pow_le_pow_right (by omega) h) : p.shades.toNat < 2 ^ k)
            rw [show ((⟨p.shades, x.2.2⟩ : Pile).shades.toNat.testBit k) = p.shades.toNat.testBit k from rfl, this] at hk
            cases hk
        have h0' : 0 < x.2.2 := h0
        rcases d1.tg with e | e
        · omega
        · rcases e k hkm hk with e | ⟨t, b, e⟩
          · exact e
          · have := d1.cov t b
            rw [mt_full b] at this
            simp at this
            omega
      · exact r1.gone p' hp'
    obtain ⟨i1, i2⟩ := prog_piles hm rest (i + 1) (n + m) (⟨p.shades, x.2.2⟩ :: gone) x.2.1 st2 (by omega) (fun q hq => hp q (List.mem_cons_of_mem _ hq)) d1.len d1.nn
      (fun s => by
        rw [r1.cf, r3]
        refine Prod.ext ?_ rfl
        simp only [hasS, hmt]
        omega) hgone r2 (fun s hs => by
        have := d1.cov s hs
        rw [mt_full hs] at this
        simpa using this) (fun q hq => hsh q (List.mem_cons_of_mem _ hq)) (fun j hj => r6 j (by omega))
    refine ⟨fun a t h1 h2 => ?_, fun j hj => ?_⟩
    · cases a with
      | zero =>
        rw [i2 _ (by omega)]
        have := r4 t h2
        rw [show (i + 0) * 8 + t = i * 8 + 0 + t by omega]
        rw [this]
        rfl
      | succ a =>
        have := i1 a t (by simpa using h1) h2
        rw [show (i + (a + 1)) * 8 + t = (i + 1 + a) * 8 + t by omega, this]
        rfl
    · rw [i2 j (by omega), r5 j (by omega)]
      rfl
theorem docRows_row {m : Nat} : ∀ (l : List Pile) (left : List Int), left.length = m → (∀ k, 0 ≤ left.getD k 0) → (∀ p ∈ l, 0 ≤ p.many) → (∀ s < 2 ^ m, needS left s ≤ hasS l s) →
    (∀ i (h : i < l.length), ((docRows m l left).getD i []).length = m ∧ ((docRows m l left).getD i []).sum ≤ l[i].many ∧ ∀ t, 0 ≤ ((docRows m l left).getD i []).getD t 0 ∧ (0 < ((docRows m l left).getD i []).getD t 0 → l[i].shades.toNat.testBit t = true)) ∧
    ∀ k, ((docRows m l left).map fun r => r.getD k 0).sum = left.getD k 0
  | [], left, hll, hnn, hp, hh => by
    refine ⟨fun i h => by simp at h, fun k => ?_⟩
    simp only [docRows, List.map_nil, List.sum_nil]
    by_cases hk : k < left.length
    · have h1 := need_one left 0 k hk
      rw [Nat.zero_add] at h1
      have h2 := hh (2 ^ k) (Nat.pow_lt_pow_right (by omega) (by omega))
      unfold needS at h2
      rw [h1] at h2
      have h3 := hnn k
      rw [List.getD_eq_getElem?_getD, List.getElem?_eq_getElem hk, Option.getD_some] at *
      simp only [hasS] at h2
      omega
    · rw [List.getD_eq_getElem?_getD, List.getElem?_eq_none (by omega)]
      rfl
  | p :: rest, left, hll, hnn, hp, hh => by
    have hrest : ∀ q ∈ rest, 0 ≤ q.many := fun q hq => hp q (List.mem_cons_of_mem _ hq)
    have hmt : ∀ s, meetB p.shades s = (s &&& p.shades.toNat != 0) := fun s => by unfold meetB; rw [Nat.and_comm]
    have hd : DS m p.shades.toNat 0 rest left p.many := ⟨hll, fun s hs => by
      have := hh s hs
      rw [mt_zero, ← hmt]
      exact this, hnn, hp p List.mem_cons_self, .inr fun k hk => by omega⟩
    obtain ⟨d1, d2, d3, d4, d5⟩ := run_ds hrest m 0 left p.many (by omega) hd
    simp only [docRows]
    generalize docRun m p.shades.toNat rest m 0 left p.many = x at *
    obtain ⟨i1, i2⟩ := docRows_row rest x.2.1 d1.len d1.nn hrest (fun s hs => by
      have := d1.cov s hs
      rw [mt_full hs] at this
      simpa using this)
    have hmn := d1.mn
    refine ⟨fun i h => ?_, fun k => ?_⟩
    · cases i with
      | zero =>
        refine ⟨d2, ?_, fun t => ?_⟩
        · show x.1.sum ≤ p.many
          omega
        · have := d4 t
          rw [Nat.zero_add] at this
          exact this
      | succ i => exact i1 i (by simpa using h)
    · simp only [List.map_cons, List.sum_cons]
      rw [i2, d5]
      simp only [Nat.zero_le, if_true, Nat.sub_zero]
      omega
end Go.Proofs.Ytngoagfkcjkeoaa
