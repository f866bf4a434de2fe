/- Plain: more pencils, more shades, two piles as one, and turned piles and shades. -/
import Derived.Test.YtngoagfkcjkeoaaKe
namespace Go.Proofs.Ytngoagfkcjkeoaa

theorem can_mono {need : List Int} {l l' : List Pile} (h : ∀ s, hasS l s ≤ hasS l' s) {b : Int} (hc : canB need l b = true) : canB need l' b = true :=
  can_iff.2 fun s h1 h2 => Int.le_trans (can_iff.1 hc s h1 h2) (h s)
/-- The greatest number is no less if more can be. -/
theorem great_mono {f g : Int → Bool} {M r t : Int} (h : ∀ b, f b = true → g b = true) (hr : GreatOf f M r) (ht : GreatOf g M t) : r ≤ t := by
  obtain ⟨⟨h1, h2⟩, h3, -⟩ := hr
  obtain ⟨⟨k1, -⟩, -, k4⟩ := ht
  rcases h3 with e | e
  · omega
  · rcases Int.lt_or_le t r with c | c
    · have := k4 r c h2
      rw [h r e] at this
      cases this
    · exact c
theorem has_set_le : ∀ (l : List Pile) (k : Nat) (q : Pile) (s : Nat) (hk : k < l.length), (if meetB l[k].shades s then l[k].many else 0) ≤ (if meetB q.shades s then q.many else 0) → hasS l s ≤ hasS (l.set k q) s
  | p :: r, 0, q, s, _, h => by
    simp only [List.set_cons_zero, List.getElem_cons_zero] at *
    unfold hasS
    omega
  | p :: r, k + 1, q, s, hk, h => by
    simp only [List.set_cons_succ, List.getElem_cons_succ] at *
    have := has_set_le r k q s (by simpa using hk) h
    unfold hasS
    omega
theorem rich_le (l : List Pile) (k : Nat) (hk : k < l.length) (s : Nat) (n : Int) (hn : l[k].many ≤ n) : hasS l s ≤ hasS (l.set k ⟨l[k].shades, n⟩) s := has_set_le l k _ s hk (by dsimp only; split <;> omega)
theorem wide_le (l : List Pile) (k : Nat) (hk : k < l.length) (s o : Nat) (_h0 : 0 ≤ l[k].shades) (hn : 0 ≤ l[k].many) : hasS l s ≤ hasS (l.set k ⟨((l[k].shades.toNat ||| o : Nat) : Int), l[k].many⟩) s := has_set_le l k _ s hk (by
  dsimp only
  by_cases h : meetB l[k].shades s = true
  · have h2 : meetB ((l[k].shades.toNat ||| o : Nat) : Int) s = true := by
      obtain ⟨j, h3, h4⟩ := meet_iff.1 h
      exact meet_iff.2 ⟨j, by rw [Int.toNat_natCast, Nat.testBit_or, h3]; rfl, h4⟩
    rw [if_pos h, if_pos h2]; exact Int.le_refl _
  · rw [if_neg h]; split <;> omega)
theorem has_app : ∀ (l l' : List Pile) (s : Nat), hasS (l ++ l') s = hasS l s + hasS l' s
  | [], l', s => by simp [hasS]
  | p :: r, l', s => by
    have := has_app r l' s
    show (if meetB p.shades s then p.many else 0) + hasS (r ++ l') s = (if meetB p.shades s then p.many else 0) + hasS r s + hasS l' s
    omega
theorem has_set_eq : ∀ (l : List Pile) (k : Nat) (q : Pile) (s : Nat) (hk : k < l.length), hasS (l.set k q) s = hasS l s - (if meetB l[k].shades s then l[k].many else 0) + (if meetB q.shades s then q.many else 0)
  | p :: r, 0, q, s, _ => by
    simp only [List.set_cons_zero, List.getElem_cons_zero]
    show (if meetB q.shades s then q.many else 0) + hasS r s = (if meetB p.shades s then p.many else 0) + hasS r s - _ + _
    omega
  | p :: r, k + 1, q, s, hk => by
    simp only [List.set_cons_succ, List.getElem_cons_succ]
    have := has_set_eq r k q s (by simpa using hk)
    show (if meetB p.shades s then p.many else 0) + hasS (r.set k q) s = (if meetB p.shades s then p.many else 0) + hasS r s - _ + _
    omega
theorem parts_eq (l : List Pile) (k : Nat) (hk : k < l.length) (s : Nat) (n : Int) : hasS (l.set k ⟨l[k].shades, l[k].many - n⟩ ++ [⟨l[k].shades, n⟩]) s = hasS l s := by
  rw [has_app, has_set_eq l k _ s hk]
  show _ - _ + _ + ((if meetB l[k].shades s then n else 0) + 0) = _
  dsimp only
  split <;> omega
/-- Sums along a turned range. -/
def sumT (m t : Nat) (g : Nat → Int) : Nat → Int
  | 0 => 0
  | k + 1 => sumT m t g k + g ((k + t) % m)
theorem sumT_step {m : Nat} (t : Nat) (g : Nat → Int) : ∀ k, sumT m (t + 1) g k = sumT m t g k - (if k = 0 then 0 else g (t % m)) + (if k = 0 then 0 else g ((k + t) % m))
  | 0 => by simp [sumT]
  | k + 1 => by
    show sumT m (t + 1) g k + g ((k + (t + 1)) % m) = sumT m t g k + g ((k + t) % m) - _ + _
    rw [sumT_step t g k, show k + 1 + t = k + (t + 1) by omega, if_neg (show ¬ k + 1 = 0 by omega), if_neg (show ¬ k + 1 = 0 by omega)]
    by_cases e : k = 0
    · subst e
      rw [if_pos rfl, if_pos rfl]
      simp only [Nat.zero_add]
      omega
    · rw [if_neg e, if_neg e]; omega
theorem sumT_turn {m : Nat} (hm : 0 < m) (g : Nat → Int) : ∀ t, sumT m t g m = sumT m 0 g m
  | 0 => rfl
  | t + 1 => by
    rw [sumT_step t g m, if_neg (by omega), if_neg (by omega), Nat.add_mod_left, sumT_turn hm g t]
    omega
theorem sumT_ext {m t : Nat} {f g : Nat → Int} : ∀ k, (∀ i, i < k → f ((i + t) % m) = g ((i + t) % m)) → sumT m t f k = sumT m t g k
  | 0, _ => rfl
  | k + 1, h => by
    show sumT m t f k + _ = sumT m t g k + _
    rw [sumT_ext k fun i hi => h i (by omega), h k (by omega)]
theorem sumT_two {m n t u : Nat} {f g : Nat → Int} : ∀ k, (∀ i, i < k → f ((i + t) % m) = g ((i + u) % n)) → sumT m t f k = sumT n u g k
  | 0, _ => rfl
  | k + 1, h => by
    show sumT m t f k + _ = sumT n u g k + _
    rw [sumT_two k fun i hi => h i (by omega), h k (by omega)]
theorem needF_sum : ∀ (l : List Int) (s i : Nat) (m : Nat) (g : Nat → Int) (c : Int) (k : Nat), k + l.length ≤ m → i = k → (∀ j, j < l.length → g (k + j) = if s.testBit (k + j) then l.getD j 0 else 0) → c = sumT m 0 g k → c + needF l s i = sumT m 0 g (k + l.length)
  | [], s, i, m, g, c, k, _, _, _, hc => by simp [needF, hc]
  | n :: r, s, i, m, g, c, k, hk, hi, hg, hc => by
    subst hi
    have h0 := hg 0 (by simp)
    rw [List.length_cons] at hk
    have hmod : (i + 0) % m = i := Nat.mod_eq_of_lt (by omega)
    have := needF_sum r s (i + 1) m g (c + g i) (i + 1) (by omega) rfl (fun j hj => by
      have := hg (j + 1) (by simpa using hj)
      rw [show i + (j + 1) = i + 1 + j by omega] at this
      simpa using this) (by rw [hc]; show _ = sumT m 0 g i + g ((i + 0) % m); rw [hmod])
    rw [List.length_cons, show i + (r.length + 1) = i + 1 + r.length by omega, ← this]
    simp only [Nat.add_zero, List.getD_cons_zero] at h0
    show c + ((if s.testBit i = true then n else 0) + needF r s (i + 1)) = _
    rw [h0]
    omega
theorem need_sum (l : List Int) (s : Nat) : needS l s = sumT l.length 0 (fun j => if s.testBit j then l.getD j 0 else 0) l.length := by
  have := needF_sum l s 0 l.length (fun j => if s.testBit j then l.getD j 0 else 0) 0 0 (by omega) rfl (fun j hj => by rw [Nat.zero_add]) rfl
  rw [Nat.zero_add, Int.zero_add] at this
  exact this
theorem has_sumF : ∀ (l : List Pile) (s : Nat) (m : Nat) (g : Nat → Int) (c : Int) (k : Nat), k + l.length ≤ m → (∀ j (h : j < l.length), g (k + j) = if meetB l[j].shades s then l[j].many else 0) → c = sumT m 0 g k → c + hasS l s = sumT m 0 g (k + l.length)
  | [], s, m, g, c, k, _, _, hc => by simp [hasS, hc]
  | p :: r, s, m, g, c, k, hk, hg, hc => by
    have h0 := hg 0 (by simp)
    rw [List.length_cons] at hk
    have hmod : (k + 0) % m = k := Nat.mod_eq_of_lt (by omega)
    have := has_sumF r s m g (c + g k) (k + 1) (by omega) (fun j hj => by
      have := hg (j + 1) (by simpa using hj)
      rw [show k + (j + 1) = k + 1 + j by omega] at this
      simpa using this) (by rw [hc]; show _ = sumT m 0 g k + g ((k + 0) % m); rw [hmod])
    rw [List.length_cons, show k + (r.length + 1) = k + 1 + r.length by omega, ← this]
    simp only [Nat.add_zero, List.getElem_cons_zero] at h0
    show c + ((if meetB p.shades s then p.many else 0) + hasS r s) = _
    rw [h0]
    omega
theorem has_sum (l : List Pile) (s : Nat) : hasS l s = sumT l.length 0 (fun j => if h : j < l.length then (if meetB l[j].shades s then l[j].many else 0) else 0) l.length := by
  have := has_sumF l s l.length (fun j => if h : j < l.length then (if meetB l[j].shades s then l[j].many else 0) else 0) 0 0 (by omega) (fun j hj => by rw [Nat.zero_add, dif_pos hj]) rfl
  rw [Nat.zero_add, Int.zero_add] at this
  exact this
theorem has_sumN (l : List Pile) (s n : Nat) (hn : l.length = n) : hasS l s = sumT n 0 (fun j => if h : j < l.length then (if meetB l[j].shades s then l[j].many else 0) else 0) n := by
  subst hn
  exact has_sum l s
/-- Piles and shades, all turned by so many. -/
structure Turned (need own : List Int) (l l' : List Pile) (t : Nat) : Prop where
  olen : own.length = need.length
  own : ∀ k, k < need.length → own.getD ((k + t) % need.length) 0 = need.getD k 0
  llen : l'.length = l.length
  pile : ∀ i (h : i < l'.length) (h' : (i + t) % l.length < l.length), l'[i].many = l[(i + t) % l.length].many ∧ 0 ≤ l'[i].shades ∧ l'[i].shades.toNat < 2 ^ need.length ∧ ∀ k, k < need.length → l'[i].shades.toNat.testBit ((k + t) % need.length) = l[(i + t) % l.length].shades.toNat.testBit k
theorem turn_onto {m t j : Nat} (hm : 0 < m) (hj : j < m) : ∃ k, k < m ∧ (k + t) % m = j := by
  refine ⟨(j + (m - t % m)) % m, Nat.mod_lt _ hm, ?_⟩
  have h1 := Nat.mod_lt t hm
  rw [Nat.mod_add_mod, show j + (m - t % m) + t = j + m * (t / m + 1) by
    have := Nat.div_add_mod t m
    rw [Nat.mul_add, Nat.mul_one]
    omega]
  rw [Nat.add_mul_mod_self_left, Nat.mod_eq_of_lt hj]
theorem turned_sets {need own : List Int} {l l' : List Pile} {t : Nat} (h : Turned need own l l' t) (hm : 0 < need.length) (_hl : ∀ p ∈ l, p.shades.toNat < 2 ^ need.length) {s s' : Nat} (hs : s < 2 ^ need.length) (hs' : s' < 2 ^ need.length) (hb : ∀ k, k < need.length → s'.testBit ((k + t) % need.length) = s.testBit k) : needS own s' = needS need s ∧ hasS l' s' = hasS l s := by
  constructor
  · rw [need_sum, need_sum, h.olen, ← sumT_turn hm _ t]
    refine sumT_two _ fun i hi => ?_
    rw [Nat.add_zero, Nat.mod_eq_of_lt hi, hb i hi, h.own i hi]
  · rcases Nat.eq_zero_or_pos l.length with e | e
    · have e1 : l = [] := List.length_eq_zero_iff.1 e
      have e2 : l' = [] := List.length_eq_zero_iff.1 (by rw [h.llen]; exact e)
      rw [e1, e2]
      rfl
    · rw [has_sumN l' s' l.length h.llen, has_sum l s, ← sumT_turn e (fun j => if h : j < l.length then (if meetB l[j].shades s then l[j].many else 0) else 0) t]
      refine sumT_two _ fun i hi => ?_
      have hmod : (i + 0) % l.length = i := Nat.mod_eq_of_lt (by omega)
      have hlt := Nat.mod_lt (i + t) e
      simp only [hmod]
      rw [dif_pos (by rw [h.llen]; exact hi), dif_pos hlt]
      obtain ⟨p1, -, p2, p3⟩ := h.pile i (by rw [h.llen]; exact hi) hlt
      rw [p1]
      have hil : i < l'.length := by rw [h.llen]; exact hi
      have hme : meetB l'[i].shades s' = meetB l[(i + t) % l.length].shades s := by
        rw [Bool.eq_iff_iff, meet_iff, meet_iff]
        constructor
        · rintro ⟨j, j1, j2⟩
          have hj : j < need.length := by
            rcases Nat.lt_or_ge j need.length with c | c
            · exact c
            · rw [Nat.testBit_lt_two_pow (Nat.lt_of_lt_of_le hs' (Nat.pow_le_pow_right (by omega) c))] at j2
              cases j2
          obtain ⟨k, k1, k2⟩ := turn_onto (t := t) hm hj
          rw [← k2] at j1 j2
          exact ⟨k, by rw [← p3 k k1]; exact j1, by rw [← hb k k1]; exact j2⟩
        · rintro ⟨k, k1, k2⟩
          have hk : k < need.length := by
            rcases Nat.lt_or_ge k need.length with c | c
            · exact c
            · rw [Nat.testBit_lt_two_pow (Nat.lt_of_lt_of_le hs (Nat.pow_le_pow_right (by omega) c))] at k2
              cases k2
          exact ⟨(k + t) % need.length, by rw [p3 k hk]; exact k1, by rw [hb k hk]; exact k2⟩
      rw [hme]
/-- In any order as many boxes can be filled. -/
theorem turned_can {need own : List Int} {l l' : List Pile} {t : Nat} (h : Turned need own l l' t) (hm : 0 < need.length) (hl : ∀ p ∈ l, p.shades.toNat < 2 ^ need.length) (b : Int) : canB own l' b = canB need l b := by
  rw [Bool.eq_iff_iff, can_iff, can_iff, h.olen]
  constructor
  · intro hc s h1 h2
    obtain ⟨s', e1, e2⟩ := bits_of (fun j => s.testBit ((j + (need.length - t % need.length)) % need.length)) need.length
    have hb : ∀ k, k < need.length → s'.testBit ((k + t) % need.length) = s.testBit k := fun k hk => by
      rw [e2]
      have h3 := Nat.mod_lt (k + t) hm
      rw [decide_eq_true h3, Bool.true_and]
      have h4 := Nat.mod_lt t hm
      rw [Nat.mod_add_mod, show k + t + (need.length - t % need.length) = k + need.length * (t / need.length + 1) by
        have := Nat.div_add_mod t need.length
        rw [Nat.mul_add, Nat.mul_one]
        omega, Nat.add_mul_mod_self_left, Nat.mod_eq_of_lt hk]
    obtain ⟨n1, n2⟩ := turned_sets h hm hl h2 e1 hb
    have h0 : 1 ≤ s' := by
      rcases Nat.eq_zero_or_pos s' with e | e
      · subst e
        have : s = 0 := Nat.eq_of_testBit_eq fun k => by
          rw [Nat.zero_testBit]
          rcases Nat.lt_or_ge k need.length with c | c
          · rw [← hb k c, Nat.zero_testBit]
          · exact Nat.testBit_lt_two_pow (Nat.lt_of_lt_of_le h2 (Nat.pow_le_pow_right (by omega) c))
        omega
      · exact e
    rw [← n1, ← n2]
    exact hc s' h0 e1
  · intro hc s' h1 h2
    obtain ⟨s, e1, e2⟩ := bits_of (fun k => s'.testBit ((k + t) % need.length)) need.length
    have hb : ∀ k, k < need.length → s'.testBit ((k + t) % need.length) = s.testBit k := fun k hk => by
      rw [e2, decide_eq_true hk, Bool.true_and]
    obtain ⟨n1, n2⟩ := turned_sets h hm hl e1 h2 hb
    have h0 : 1 ≤ s := by
      rcases Nat.eq_zero_or_pos s with e | e
      · subst e
        have : s' = 0 := Nat.eq_of_testBit_eq fun j => by
          rw [Nat.zero_testBit]
          rcases Nat.lt_or_ge j need.length with c | c
          · obtain ⟨k, k1, k2⟩ := turn_onto (t := t) hm c
            rw [← k2, hb k k1, Nat.zero_testBit]
          · exact Nat.testBit_lt_two_pow (Nat.lt_of_lt_of_le h2 (Nat.pow_le_pow_right (by omega) c))
        omega
      · exact e
    rw [n1, n2]
    exact hc s h0 e1
theorem great_ext {f g : Int → Bool} {M r : Int} (h : ∀ b, g b = f b) (hr : GreatOf f M r) : GreatOf g M r :=
  ⟨hr.1, by rw [h]; exact hr.2.1, fun x a b => by rw [h]; exact hr.2.2 x a b⟩
end Go.Proofs.Ytngoagfkcjkeoaa
