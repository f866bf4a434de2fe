/- Plain: what the law BoxUsed asks. -/
import Derived.Test.YthapgiajbonhgaaFd
import Derived.Test.YthapgiajbonhgaaLw
namespace Go.Proofs.Ythapgiajbonhgaa

theorem need_sub : ∀ (a c d : List Int) (s i : Nat), a.length = c.length → d.length = c.length → (∀ k, a.getD k 0 = c.getD k 0 - d.getD k 0) → needF a s i = needF c s i - needF d s i
  | [], [], [], _, _, _, _, _ => rfl
  | x :: a, y :: c, z :: d, s, i, h1, h2, h => by
    have ih := need_sub a c d s (i + 1) (by simpa using h1) (by simpa using h2) (fun k => by simpa using h (k + 1))
    have h0 : x = y - z := by simpa using h 0
    simp only [needF, ih]
    split <;> omega
  | [], _ :: _, _, _, _, h, _, _ => by simp at h
  | _ :: _, [], _, _, _, h, _, _ => by simp at h
  | [], [], _ :: _, _, _, _, h, _ => by simp at h
  | _ :: _, _ :: _, [], _, _, _, h, _ => by simp at h
/-- Of a row of a pile, a set has no more than the row's sum, and nothing if it does not meet the pile. -/
theorem need_row : ∀ (r : List Int) (o s i : Nat), (∀ t, 0 ≤ r.getD t 0 ∧ (0 < r.getD t 0 → o.testBit (i + t) = true)) → needF r s i ≤ r.sum ∧ 0 ≤ needF r s i ∧ ((∀ j, o.testBit j = true → s.testBit j = true) → needF r s i = r.sum) ∧ ((∀ j, o.testBit j = true → s.testBit j = false) → needF r s i = 0)
  | [], _, _, _, _ => ⟨Int.le_refl _, Int.le_refl _, fun _ => rfl, fun _ => rfl⟩
  | x :: r, o, s, i, h => by
    obtain ⟨a1, a2, a3, a4⟩ := need_row r o s (i + 1) (fun t => by
      have := h (t + 1)
      rw [show i + (t + 1) = i + 1 + t by omega] at this
      simpa using this)
    obtain ⟨h0, h1⟩ := h 0
    simp only [List.getD_cons_zero, Nat.add_zero] at h0 h1
    rw [List.sum_cons]
    simp only [needF]
    refine ⟨by split <;> omega, by split <;> omega, fun hs => ?_, fun hs => ?_⟩
    · rw [a3 hs]
      by_cases e : 0 < x
      · rw [if_pos (hs i (h1 e))]
      · split <;> omega
    · rw [a4 hs]
      by_cases e : 0 < x
      · rw [if_neg (by rw [hs i (h1 e)]; simp)]
        rfl
      · split <;> omega
theorem need_mono : ∀ (a c : List Int) (s i : Nat), a.length = c.length → (∀ k, a.getD k 0 ≤ c.getD k 0) → needF a s i ≤ needF c s i
  | [], [], _, _, _, _ => Int.le_refl _
  | x :: a, y :: c, s, i, h1, h => by
    have ih := need_mono a c s (i + 1) (by simpa using h1) (fun k => by simpa using h (k + 1))
    have h0 : x ≤ y := by simpa using h 0
    simp only [needF]
    split <;> omega
  | [], _ :: _, _, _, h, _ => by simp at h
  | _ :: _, [], _, _, h, _ => by simp at h
/-- The piles, as many of each as are sold. -/
def soldP : List Pile → List (List Int) → List Pile
  | p :: l, r :: O => ⟨p.shades, r.sum⟩ :: soldP l O
  | _, _ => []
/-- What is sold is enough for each set. -/
theorem sold_hall {m : Nat} : ∀ (l : List Pile) (left : List Int), left.length = m → (∀ k, 0 ≤ left.getD k 0) → (∀ p ∈ l, 0 ≤ p.many) → (∀ s < 2 ^ m, needS left s ≤ hasS l s) → ∀ s, s < 2 ^ m → needS left s ≤ hasS (soldP l (docRows m l left)) s
  | [], left, hll, hnn, hp, hh, s, hs => hh s hs
  | p :: rest, left, hll, hnn, hp, hh, s, hs => by
    have hrest : ∀ q ∈ rest, 0 ≤ q.many := fun q hq => hp q (List.mem_cons_of_mem _ hq)
    have hmt : ∀ s, meetB p.shades s = (s &&& p.shades.toNat != 0) := fun s => by unfold meetB; rw [Nat.and_comm]
    have hd : DS m p.shades.toNat 0 rest left p.many := ⟨hll, fun s hs => by
      have := hh s hs
      rw [mt_zero, ← hmt]
      exact this, hnn, hp p List.mem_cons_self, .inr fun k hk => by omega⟩
    obtain ⟨d1, d2, d3, d4, d5⟩ := run_ds hrest m 0 left p.many (by omega) hd
    simp only [docRows, soldP, hasS]
    generalize docRun m p.shades.toNat rest m 0 left p.many = x at *
    have ih := sold_hall rest x.2.1 d1.len d1.nn hrest (fun s hs => by
      have := d1.cov s hs
      rw [mt_full hs] at this
      simpa using this) s hs
    have e := need_sub x.2.1 left x.1 s 0 (by rw [d1.len, hll]) (by rw [d2, hll]) (fun k => by have := d5 k; simpa using this)
    obtain ⟨a1, a2, a3, a4⟩ := need_row x.1 p.shades.toNat s 0 d4
    unfold needS at *
    cases hm : meetB p.shades s with
    | true => simp only [if_true]; omega
    | false =>
      have := a4 fun j hj => by
        rw [meet_mt] at hm
        exact mt_not.1 hm j (Nat.zero_le _) hj
      simp only [Bool.false_eq_true, if_false]
      omega
theorem soldP_le : ∀ (l : List Pile) (O : List (List Int)) (k : Nat) (hk : k < l.length) (s : Nat), O.length = l.length → (∀ i (h : i < l.length), (O.getD i []).sum ≤ l[i].many) → hasS (soldP l O) s ≤ hasS (l.set k ⟨l[k].shades, (O.getD k []).sum⟩) s
  | p :: l, r :: O, 0, _, s, h, h2 => by
    simp only [soldP, hasS, List.set_cons_zero, List.getElem_cons_zero, List.getD_cons_zero]
    have : ∀ (l : List Pile) (O : List (List Int)), O.length = l.length → (∀ i (h : i < l.length), (O.getD i []).sum ≤ l[i].many) → hasS (soldP l O) s ≤ hasS l s := by
      intro l
      induction l with
      | nil => intro O h _; cases O <;> exact Int.le_refl _
      | cons q l ih =>
        intro O h h2
        cases O with
        | nil => simp at h
        | cons r O =>
          have i1 := ih O (by simpa using h) (fun i hi => h2 (i + 1) (by simpa using hi))
          have i2 : r.sum ≤ q.many := h2 0 (by simp)
          simp only [soldP, hasS]
          split <;> omega
    have := this l O (by simpa using h) (fun i hi => h2 (i + 1) (by simpa using hi))
    omega
  | p :: l, r :: O, k + 1, hk, s, h, h2 => by
    have ih := soldP_le l O k (by simpa using hk) s (by simpa using h) (fun i hi => h2 (i + 1) (by simpa using hi))
    have i2 : r.sum ≤ p.many := h2 0 (by simp)
    simp only [soldP, hasS, List.set_cons_succ, List.getElem_cons_succ, List.getD_cons_succ]
    split <;> omega
  | _ :: _, [], _, _, _, h, _ => by simp at h
/-- A pile that comes first sells as many as there are, or as are needed. -/
theorem first_most {m : Nat} {p : Pile} {rest : List Pile} {left : List Int} (hll : left.length = m) (hnn : ∀ k, 0 ≤ left.getD k 0) (hp : ∀ q ∈ p :: rest, 0 ≤ q.many) (hh : ∀ s < 2 ^ m, needS left s ≤ hasS (p :: rest) s) (_hsh : p.shades.toNat < 2 ^ m) :
    ((docRows m (p :: rest) left).getD 0 []).sum = min p.many (needS left p.shades.toNat) := by
  have hrest : ∀ q ∈ rest, 0 ≤ q.many := fun q hq => hp q (List.mem_cons_of_mem _ hq)
  have hmt : ∀ s, meetB p.shades s = (s &&& p.shades.toNat != 0) := fun s => by unfold meetB; rw [Nat.and_comm]
  have hd : DS m p.shades.toNat 0 rest left p.many := ⟨hll, fun s hs => by
    have := hh s hs
    rw [mt_zero, ← hmt]
    exact this, hnn, hp p List.mem_cons_self, .inr fun k hk => by omega⟩
  obtain ⟨d1, d2, d3, d4, d5⟩ := run_ds hrest m 0 left p.many (by omega) hd
  simp only [docRows, List.getD_cons_zero]
  generalize docRun m p.shades.toNat rest m 0 left p.many = x at *
  obtain ⟨a1, a2, a3, a4⟩ := need_row x.1 p.shades.toNat p.shades.toNat 0 d4
  have e1 := a3 fun _ h => h
  have e2 := need_sub x.2.1 left x.1 p.shades.toNat 0 (by rw [d1.len, hll]) (by rw [d2, hll]) (fun k => by have := d5 k; simpa using this)
  have e3 : 0 ≤ needF x.2.1 p.shades.toNat 0 := by
    have := need_mono (List.replicate m 0) x.2.1 p.shades.toNat 0 (by simp [d1.len]) (fun k => by
      have := d1.nn k
      rw [List.getD_eq_getElem?_getD, List.getElem?_replicate]
      split <;> simpa using this)
    have h0 : ∀ (n s i : Nat), needF (List.replicate n 0) s i = 0 := by
      intro n
      induction n with
      | zero => intros; rfl
      | succ n ih => intro s i; simp [List.replicate_succ, needF, ih]
    rwa [h0] at this
  have e4 := d1.mn
  unfold needS
  rcases d1.tg with h | h
  · omega
  · have h9 : needF x.2.1 p.shades.toNat 0 = 0 ∨ x.2.2 = 0 := by
      by_cases hz : x.2.2 = 0
      · exact .inr hz
      · left
        have : ∀ k, p.shades.toNat.testBit k = true → x.2.1.getD k 0 = 0 := fun k hk => by
          by_cases hkm : k < m
          · rcases h k hkm hk with e | ⟨t, b, e⟩
            · exact e
            · have := d1.cov t b
              rw [mt_full b] at this
              simp at this
              omega
          · rw [List.getD_eq_getElem?_getD, List.getElem?_eq_none (by rw [d1.len]; omega)]
            rfl
        have hz2 : ∀ (r : List Int) (s i : Nat), (∀ k, s.testBit (i + k) = true → r.getD k 0 = 0) → needF r s i = 0 := by
          intro r
          induction r with
          | nil => intros; rfl
          | cons a r ih =>
            intro s i h
            have i1 := ih s (i + 1) (fun k hk => by
              have := h (k + 1) (by rw [show i + (k + 1) = i + 1 + k by omega]; exact hk)
              simpa using this)
            simp only [needF, i1]
            by_cases e : s.testBit i = true
            · have := h 0 (by simpa using e)
              rw [if_pos e]
              simp at this
              omega
            · rw [if_neg e]
              rfl
        exact hz2 _ _ _ (fun k hk => this k (by rwa [Nat.zero_add] at hk))
    omega
theorem elem_le : ∀ (l : List Int) (i : Nat) (h : i < l.length), (∀ x ∈ l, 0 ≤ x) → l[i] ≤ l.sum
  | x :: l, 0, _, h => by
    have := sum_nn l fun y hy => h y (List.mem_cons_of_mem _ hy)
    rw [List.sum_cons, List.getElem_cons_zero]
    omega
  | x :: l, i + 1, hi, h => by
    have := elem_le l i (by simpa using hi) fun y hy => h y (List.mem_cons_of_mem _ hy)
    have := h x List.mem_cons_self
    rw [List.sum_cons, List.getElem_cons_succ]
    omega
theorem ok_of {need : List Int} {l l' : List Pile} (h : boxOk need l = true) (hl : l'.length ≤ 8) (hm : ∀ p ∈ l', (0 ≤ p.shades ∧ p.shades < 2 ^ need.length) ∧ 0 ≤ p.many ∧ p.many ≤ 1048576) : boxOk need l' = true := by
  unfold boxOk at *
  rw [Bool.and_eq_true] at *
  refine ⟨h.1, ?_⟩
  unfold pilesOk
  rw [Bool.and_eq_true, decide_eq_true_eq, List.all_eq_true]
  exact ⟨hl, fun p hp => by rw [decide_eq_true_eq]; exact hm p hp⟩
theorem ok_piles {need : List Int} {l : List Pile} (h : boxOk need l = true) : l.length ≤ 8 ∧ ∀ p ∈ l, (0 ≤ p.shades ∧ p.shades < 2 ^ need.length) ∧ 0 ≤ p.many ∧ p.many ≤ 1048576 := by
  unfold boxOk at h
  rw [Bool.and_eq_true] at h
  exact pile_parts h.2
def frontP (l : List Pile) (p : Nat) (h : p < l.length) : List Pile := l[p] :: (l.take p ++ l.drop (p + 1))
theorem front_split (l : List Pile) (p : Nat) (h : p < l.length) : l = l.take p ++ (l[p] :: l.drop (p + 1)) := by
  rw [← List.drop_eq_getElem_cons h, List.take_append_drop]
theorem front_has (l : List Pile) (p : Nat) (h : p < l.length) (s : Nat) : hasS (frontP l p h) s = hasS l s := by
  have e : hasS l s = hasS (l.take p ++ (l[p] :: l.drop (p + 1))) s := congrArg (fun x => hasS x s) (front_split l p h)
  rw [e, hasS_app]
  unfold frontP
  simp only [hasS, hasS_app]
  omega
theorem front_len (l : List Pile) (p : Nat) (h : p < l.length) : (frontP l p h).length = l.length := by
  unfold frontP
  rw [List.length_cons, List.length_append, List.length_take, List.length_drop]
  omega
theorem front_mem {l : List Pile} {p : Nat} {h : p < l.length} {q : Pile} (hq : q ∈ frontP l p h) : q ∈ l := by
  unfold frontP at hq
  rcases List.mem_cons.1 hq with rfl | hq
  · exact List.getElem_mem h
  · rcases List.mem_append.1 hq with hq | hq
    · exact List.mem_of_mem_take hq
    · exact List.mem_of_mem_drop hq
theorem can_same {need : List Int} {l l' : List Pile} {b : Int} (h : ∀ s, hasS l' s = hasS l s) : canB need l' b = canB need l b := by
  rw [Bool.eq_iff_iff, can_iff, can_iff]
  simp only [h]
structure UsedP (need : List Int) (l : List Pile) (b : Int) (p : Nat) (hp : p < l.length) (lo hi : Int) : Prop where
  lo0 : 0 ≤ lo
  lohi : lo ≤ hi
  him : hi ≤ l[p].many
  ulo : lo ≤ ((fillT need l b).getD p []).sum
  uhi : ((fillT need l b).getD p []).sum ≤ hi
  fewok : boxOk need (l.set p ⟨l[p].shades, lo⟩) = true
  few : canB need (l.set p ⟨l[p].shades, lo⟩) b = true
  lessok : 0 < lo → boxOk need (l.set p ⟨l[p].shades, lo - 1⟩) = true ∧ canB need (l.set p ⟨l[p].shades, lo - 1⟩) b = false
  frok : boxOk need (frontP l p hp) = true
  frcan : canB need (frontP l p hp) b = true
  frhi : ((fillT need (frontP l p hp) b).getD 0 []).sum = hi
theorem used_facts {need : List Int} {l : List Pile} {b : Int} (hok : boxOk need l = true) (hb : 0 ≤ b ∧ b ≤ 1048576) (hc : canB need l b = true) {p : Nat} (hp : p < l.length) {r : Int} (hg : GreatOf (lessF need l b p hp) l[p].many r) :
    UsedP need l b p hp (l[p].many - r) (min l[p].many (needS need l[p].shades.toNat * b)) := by
  obtain ⟨hN, hP, hc1, hc8⟩ := ok_in hok
  obtain ⟨hl8, hpm⟩ := ok_piles hok
  have hn48 : ∀ n ∈ need, 0 ≤ n ∧ n ≤ 48 := by
    have h9 := hok
    unfold boxOk at h9
    rw [Bool.and_eq_true] at h9
    exact (need_parts h9.1).2.1
  have hti := times_in hn48 hb
  have hlm : (need.map (b * ·)).length = need.length := List.length_map _
  have hp0 : ∀ p ∈ l, 0 ≤ p.many := fun p hp => (hP.2 p hp).2.1
  have hnn : ∀ k, 0 ≤ (need.map (b * ·)).getD k 0 := fun k => by
    by_cases e : k < (need.map (b * ·)).length
    · rw [List.getD_eq_getElem?_getD, List.getElem?_eq_getElem e, Option.getD_some]
      exact (hti _ (List.getElem_mem e)).1
    · rw [List.getD_eq_getElem?_getD, List.getElem?_eq_none (by omega)]
      exact Int.le_refl _
  have hfd := fill_doc hn48 hc8 hP (shades_lt hok) hb hc
  obtain ⟨R1, R2⟩ := docRows_row l (need.map (b * ·)) hlm hnn hp0 (hall_of hp0 hc)
  obtain ⟨u1, u2, u3⟩ := R1 p hp
  have hsold := sold_hall l (need.map (b * ·)) hlm hnn hp0 (hall_of hp0 hc)
  have hfrok : boxOk need (frontP l p hp) = true := ok_of hok (by rw [front_len]; exact hl8) fun q hq => hpm q (front_mem hq)
  have hfrcan : canB need (frontP l p hp) b = true := by rw [can_same (front_has l p hp)]; exact hc
  obtain ⟨hN', hP', -, -⟩ := ok_in hfrok
  have hfd' := fill_doc hn48 hc8 hP' (shades_lt hfrok) hb hfrcan
  have hp0' : ∀ q ∈ frontP l p hp, 0 ≤ q.many := fun q hq => (hP'.2 q hq).2.1
  have hfm := first_most (p := l[p]) (rest := l.take p ++ l.drop (p + 1)) hlm hnn hp0' (hall_of hp0' hfrcan) (shades_lt hok _ (List.getElem_mem hp))
  have hneed : needS (need.map (b * ·)) l[p].shades.toNat = needS need l[p].shades.toNat * b := by unfold needS; rw [needF_map]
  rw [hneed] at hfm
  have hu0 : 0 ≤ ((docRows need.length l (need.map (b * ·))).getD p []).sum := sum_nn _ (getD_mem fun t => (u3 t).1)
  have hpk : p < (docRows need.length l (need.map (b * ·))).length := by rw [docRows_len]; exact hp
  have hrowle : ∀ k, ((docRows need.length l (need.map (b * ·))).getD p []).getD k 0 ≤ (need.map (b * ·)).getD k 0 := fun k => by
    rw [← R2 k]
    have h9 := elem_le ((docRows need.length l (need.map (b * ·))).map fun r => r.getD k 0) p (by rw [List.length_map]; exact hpk) (fun x hx => by
      obtain ⟨r, hr, rfl⟩ := List.mem_map.1 hx
      obtain ⟨j, hj, rfl⟩ := List.getElem_of_mem hr
      have := ((R1 j (by rw [docRows_len] at hj; exact hj)).2.2 k).1
      rwa [show (docRows need.length l (need.map (b * ·))).getD j [] = (docRows need.length l (need.map (b * ·)))[j] by rw [List.getD_eq_getElem?_getD, List.getElem?_eq_getElem hj, Option.getD_some]] at this)
    rw [List.getElem_map] at h9
    rwa [show (docRows need.length l (need.map (b * ·))).getD p [] = (docRows need.length l (need.map (b * ·)))[p] by rw [List.getD_eq_getElem?_getD, List.getElem?_eq_getElem hpk, Option.getD_some]]
  have huneed : ((docRows need.length l (need.map (b * ·))).getD p []).sum ≤ needS need l[p].shades.toNat * b := by
    obtain ⟨-, -, a3, -⟩ := need_row ((docRows need.length l (need.map (b * ·))).getD p []) l[p].shades.toNat l[p].shades.toNat 0 (fun t => by rw [Nat.zero_add]; exact u3 t)
    rw [← a3 fun _ h => h, ← hneed]
    exact need_mono _ _ _ _ (by rw [u1, hlm]) hrowle
  have hset : ∀ x, 0 ≤ x → x ≤ 1048576 → boxOk need (l.set p ⟨l[p].shades, x⟩) = true := fun x h0 h1 => ok_of hok (by rw [List.length_set]; exact hl8) fun q hq => by
    rcases List.mem_or_eq_of_mem_set hq with hq | rfl
    · exact hpm q hq
    · exact ⟨(hpm _ (List.getElem_mem hp)).1, h0, h1⟩
  have hm := (hpm _ (List.getElem_mem hp)).2
  have husd : lessF need l b p hp (l[p].many - ((docRows need.length l (need.map (b * ·))).getD p []).sum) = true := by
    unfold lessF
    rw [can_iff]
    intro s h1 h2
    have h3 := hsold s h2
    have h4 := soldP_le l (docRows need.length l (need.map (b * ·))) p hp s (docRows_len _ _ _) (fun i hi => (R1 i hi).2.1)
    have h5 : needS (need.map (b * ·)) s = needS need s * b := by unfold needS; rw [needF_map]
    rw [show l[p].many - (l[p].many - ((docRows need.length l (need.map (b * ·))).getD p []).sum) = ((docRows need.length l (need.map (b * ·))).getD p []).sum by omega]
    omega
  obtain ⟨⟨g0, g1⟩, g2, g3⟩ := hg
  have hlo : l[p].many - r ≤ ((docRows need.length l (need.map (b * ·))).getD p []).sum := by
    by_cases e : l[p].many - ((docRows need.length l (need.map (b * ·))).getD p []).sum ≤ r
    · omega
    · have := g3 _ (by omega) (by omega : l[p].many - ((docRows need.length l (need.map (b * ·))).getD p []).sum ≤ l[p].many)
      rw [husd] at this
      cases this
  refine ⟨by omega, by omega, by omega, by rw [hfd]; exact hlo, by rw [hfd]; omega, hset _ (by omega) (by omega), ?_, fun h0 => ⟨hset _ (by omega) (by omega), ?_⟩, hfrok, hfrcan, by rw [hfd']; exact hfm⟩
  · rcases g2 with e | e
    · subst e
      rw [Int.sub_zero, List.set_getElem_self]
      exact hc
    · exact e
  · have := g3 (r + 1) (by omega) (by omega)
    unfold lessF at this
    rwa [show l[p].many - (r + 1) = l[p].many - r - 1 by omega] at this
end Go.Proofs.Ythapgiajbonhgaa
