/- Plain: no number of the document's rows can be one more. -/
import Derived.Test.YtngoagfkcjkeoaaKe
namespace Go.Proofs.Ytngoagfkcjkeoaa

theorem need_set9 : ∀ (l : List Int) (s t i : Nat) (x : Int), t.testBit (i + s) = false → needF (l.set s x) t i = needF l t i
  | [], _, _, _, _, _ => rfl
  | n :: r, 0, t, i, x, h => by
    rw [Nat.add_zero] at h
    simp [needF, h]
  | n :: r, s + 1, t, i, x, h => by
    rw [List.set_cons_succ]
    unfold needF
    rw [need_set9 r s t (i + 1) x (by rw [show i + 1 + s = i + (s + 1) by omega]; exact h)]
/-- One step of a row: what is given, is taken away of the shade and of the pile. -/
theorem it_step {m o : Nat} {rest : List Pile} {left : List Int} {many : Int} (hl : left.length = m) {q : Nat} (hq : q < m) : ∃ x : Int, (itR m o rest left many (q + 1)).1.getD q 0 = (if o.testBit q = true then x else (itR m o rest left many q).1.getD q 0) ∧ (∀ j, j ≠ q → (itR m o rest left many (q + 1)).1.getD j 0 = (itR m o rest left many q).1.getD j 0) ∧
    (itR m o rest left many (q + 1)).2.2 = (itR m o rest left many q).2.2 - (if o.testBit q = true then x else 0) ∧ ∀ k, (itR m o rest left many (q + 1)).2.1.getD k 0 = (itR m o rest left many q).2.1.getD k 0 - (if k = q then (if o.testBit q = true then x else 0) else 0) := by
  obtain ⟨l1, l2⟩ := itR_len m o rest left many q
  refine ⟨docN m o q rest (itR m o rest left many q).2.1 (itR m o rest left many q).2.2, ?_⟩
  rw [itR_next]
  generalize itR m o rest left many q = st at *
  unfold itQ
  cases hb : o.testBit q with
  | true =>
    have hla := left_at (o := o) (p := docN m o q rest st.2.1 st.2.2) hb (by omega : q < st.2.1.length)
    rw [if_pos rfl]
    generalize docN m o q rest st.2.1 st.2.2 = p at *
    refine ⟨?_, fun j hj => ?_, ?_, fun k => ?_⟩
    · rw [if_pos rfl]
      simp only [List.getD_eq_getElem?_getD]
      rw [List.getElem?_set, if_pos rfl, if_pos (by omega), Option.getD_some]
    · simp only [List.getD_eq_getElem?_getD]
      rw [List.getElem?_set, if_neg (fun h => hj h.symm)]
    · rw [if_pos rfl]
    · rw [hla, if_pos rfl]
  | false =>
    simp
theorem it_zero {m o : Nat} {rest : List Pile} {left : List Int} {many : Int} (hl : left.length = m) : ∀ q, q ≤ m → ∀ j, q ≤ j → (itR m o rest left many q).1.getD j 0 = 0
  | 0, _, j, _ => by
    show (List.replicate m (0 : Int)).getD j 0 = 0
    rw [List.getD_eq_getElem?_getD, List.getElem?_replicate]
    split <;> rfl
  | q + 1, hq, j, hj => by
    obtain ⟨x, -, h2, -⟩ := it_step (o := o) (rest := rest) (many := many) hl (by omega : q < m)
    rw [h2 j (by omega)]
    exact it_zero hl q (by omega) j (by omega)
theorem it_final {m o : Nat} {rest : List Pile} {left : List Int} {many : Int} (hl : left.length = m) : ∀ d q, q + d = m → ∀ j, j < q → (itR m o rest left many m).1.getD j 0 = (itR m o rest left many q).1.getD j 0
  | 0, q, h, j, hj => by rw [Nat.add_zero] at h; rw [h]
  | d + 1, q, h, j, hj => by
    obtain ⟨x, -, h2, -⟩ := it_step (o := o) (rest := rest) (many := many) hl (by omega : q < m)
    rw [it_final hl d (q + 1) (by omega) j (by omega), h2 j (by omega)]
/-- Each step takes what the whole row says. -/
theorem it_at {m o : Nat} {rest : List Pile} {left : List Int} {many : Int} (hl : left.length = m) {q : Nat} (hq : q < m) : (itR m o rest left many (q + 1)).2.2 = (itR m o rest left many q).2.2 - (itR m o rest left many m).1.getD q 0 ∧ ∀ k, (itR m o rest left many (q + 1)).2.1.getD k 0 = (itR m o rest left many q).2.1.getD k 0 - (if k = q then (itR m o rest left many m).1.getD q 0 else 0) := by
  obtain ⟨x, h1, -, h3, h4⟩ := it_step (o := o) (rest := rest) (many := many) hl hq
  have hz := it_zero (o := o) (rest := rest) (many := many) hl q (by omega) q (Nat.le_refl _)
  have hf := it_final (o := o) (rest := rest) (many := many) hl (m - (q + 1)) (q + 1) (by omega) q (by omega)
  rw [hz] at h1
  rw [hf, h1]
  exact ⟨h3, h4⟩
theorem it_left {m o : Nat} {rest : List Pile} {left : List Int} {many : Int} (hl : left.length = m) : ∀ q, q ≤ m → ∀ k, (itR m o rest left many q).2.1.getD k 0 = left.getD k 0 - (if k < q then (itR m o rest left many m).1.getD k 0 else 0)
  | 0, _, k => by simp [itR]
  | q + 1, hq, k => by
    rw [(it_at hl (by omega : q < m)).2 k, it_left hl q (by omega) k]
    by_cases e : k = q
    · subst e
      rw [if_pos rfl, if_neg (by omega), if_pos (by omega)]; omega
    · rw [if_neg e]
      by_cases e2 : k < q
      · rw [if_pos e2, if_pos (by omega)]; omega
      · rw [if_neg e2, if_neg (by omega)]; omega
/-- What is left of the shades behind one pile more. -/
theorem leftN_next {m : Nat} {l : List Pile} {left : List Int} (hll : left.length = m) (hnn : ∀ k, 0 ≤ left.getD k 0) (hp : ∀ p ∈ l, 0 ≤ p.many) (hh : ∀ s < 2 ^ m, needS left s ≤ hasS l s) {i : Nat} (h : i < l.length) (k : Nat) : (leftN m l left (i + 1)).getD k 0 = (leftN m l left i).getD k 0 - ((docRows m l left).getD i []).getD k 0 := by
  obtain ⟨d1, -⟩ := leftN_ds l left i h hll hnn hp hh
  obtain ⟨e1, e2⟩ := docRows_at m l left i h
  obtain ⟨-, -, -, -, r5⟩ := run_ds (fun p hq => hp p (List.mem_of_mem_drop hq)) m 0 _ _ (by omega) d1
  rw [e1, e2, r5 k, if_pos (Nat.zero_le _), Nat.sub_zero]
/-- With one pencil more of a pile as some shade, a set of shades is short. -/
theorem greedy_some {m o : Nat} {rest : List Pile} {left : List Int} {many : Int} (hds : DS m o 0 rest left many) (hrest : ∀ p ∈ rest, 0 ≤ p.many) {s : Nat} (hs : s < m) (hb : o.testBit s = true) (h1 : 0 ≤ (itR m o rest left many (s + 1)).2.2 - 1) (h2 : 0 ≤ (itR m o rest left many (s + 1)).2.1.getD s 0 - 1) :
    ∃ t, 1 ≤ t ∧ t < 2 ^ m ∧ hasS (⟨(cutB o (s + 1) : Nat), (itR m o rest left many (s + 1)).2.2 - 1⟩ :: rest) t < needS ((itR m o rest left many (s + 1)).2.1.set s ((itR m o rest left many (s + 1)).2.1.getD s 0 - 1)) t := by
  obtain ⟨d1, -, -⟩ := it_ds hrest hds s (by omega)
  rw [itR_next] at *
  generalize itR m o rest left many s = st at *
  unfold itQ at *
  rw [if_pos hb] at *
  dsimp only at *
  have hla := left_at (o := o) (p := docN m o s rest st.2.1 st.2.2) hb (show s < st.2.1.length by rw [d1.len]; exact hs) s
  rw [if_pos rfl] at hla
  rw [hla] at h2 ⊢
  obtain ⟨-, -, h5⟩ := docN_spec m o s rest st.2.1 st.2.2
  generalize docN m o s rest st.2.1 st.2.2 = n at *
  rcases h5 with h5 | ⟨t, t1, t2, t3, t4, h5⟩
  · omega
  · refine ⟨t, t1, t2, ?_⟩
    have e1 : needS ((leftQ o s st.2.1 n).set s (st.2.1.getD s 0 - n - 1)) t = needS st.2.1 t := by
      unfold leftQ
      rw [if_pos hb, List.set_set]
      exact need_set9 _ _ _ 0 _ (by rw [Nat.zero_add]; exact t3)
    rw [e1]
    have e2 : meetB ((cutB o (s + 1) : Nat) : Int) t = true := by
      rw [meetB, Int.toNat_natCast, Nat.and_comm, cut_common]
      exact t4
    unfold hasS
    rw [if_pos e2]
    dsimp only
    omega
/-- What a law finds: shades taken away pile by pile, then along the row. -/
theorem base_next {X : List Int} {m k : Nat} (hX : X.length = m) (hk : k < m) : (X.take k ++ List.replicate (m - k) 0).set k X[k] = X.take (k + 1) ++ List.replicate (m - (k + 1)) 0 := by
  have e1 : (X.take k).length = k := by rw [List.length_take]; omega
  rw [List.set_append_right _ _ (by omega), e1, Nat.sub_self, show m - k = (m - (k + 1)) + 1 by omega, List.replicate_succ, List.set_cons_zero, List.take_add_one, List.getElem?_eq_getElem (by omega), Option.toList_some, List.append_assoc]
  rfl
theorem base_len {X : List Int} {m k : Nat} (hX : X.length = m) (hk : k ≤ m) : (X.take k ++ List.replicate (m - k) (0 : Int)).length = m := by
  rw [List.length_append, List.length_take, List.length_replicate]; omega
theorem base_end {X : List Int} {m : Nat} (hX : X.length = m) : X.take m ++ List.replicate (m - m) (0 : Int) = X := by
  rw [Nat.sub_self, List.replicate_zero, List.append_nil, List.take_of_length_le (by omega)]
theorem cut_div (o s : Nat) : o / (2 ^ (s + 1)) * 2 ^ (s + 1) = cutB o (s + 1) := by
  unfold cutB
  rw [Nat.shiftRight_eq_div_pow, Nat.shiftLeft_eq]
/-- What the law BoxGreedy finds along its way. -/
structure GreP (need : List Int) (l : List Pile) (b : Int) (O : List (List Int)) (p s : Nat) (hp : p < l.length) (lf : Nat → Nat → Int) (mo : Nat → Int) (X : List Int) : Prop where
  xlen : X.length = need.length
  lf0 : ∀ k (h : k < need.length), lf 0 k = b * need[k]
  lf1 : ∀ i k, i < p → lf (i + 1) k = lf i k - (O.getD i []).getD k 0
  x0 : ∀ k, k < need.length → k ≤ s → X.getD k 0 = lf p k - (O.getD p []).getD k 0
  x1 : ∀ k, k < need.length → s < k → X.getD k 0 = lf p k
  mo0 : mo 0 = l[p].many
  mo1 : ∀ k, k ≤ s → mo (k + 1) = mo k - (O.getD p []).getD k 0
  mo2 : ∀ k, s < k → mo (k + 1) = mo k
  lfb : ∀ i k, i ≤ p → 0 ≤ lf i k ∧ lf i k ≤ 50331648
  mob : ∀ k, 0 ≤ mo k ∧ mo k ≤ 1048576
  xb : ∀ k, 0 ≤ X.getD k 0 ∧ X.getD k 0 ≤ 50331648
  more : 0 ≤ mo need.length - 1 → 0 ≤ X.getD s 0 - 1 → ∃ t, 1 ≤ t ∧ t < 2 ^ need.length ∧ hasS (⟨(cutB l[p].shades.toNat (s + 1) : Nat), mo need.length - 1⟩ :: l.drop (p + 1)) t < needS (X.set s (X.getD s 0 - 1)) t
theorem greedy_facts {need : List Int} {l : List Pile} {b : Int} (hok : boxOk need l = true) (hb : 0 ≤ b ∧ b ≤ 1048576) (hc : canB need l b = true) {p s : Nat} (hp : p < l.length) (hs : s < need.length) (hbit : l[p].shades.toNat.testBit s = true) : ∃ lf mo X, GreP need l b (fillT need l b) p s hp lf mo X := by
  obtain ⟨hN, hP, hc1, hc8⟩ := ok_in hok
  have hn48 : ∀ n ∈ need, 0 ≤ n ∧ n ≤ 48 := by
    have h9 := hok
    unfold boxOk at h9
    rw [Bool.and_eq_true] at h9
    exact (need_parts h9.1).2.1
  have hti := times_in hn48 hb
  have hlm : (need.map (b * ·)).length = need.length := List.length_map _
  have hp0 : ∀ p ∈ l, 0 ≤ p.many := fun p hp => (hP.2 p hp).2.1
  have hnn : ∀ k, 0 ≤ (need.map (b * ·)).getD k 0 ∧ (need.map (b * ·)).getD k 0 ≤ 50331648 := fun k => by
    by_cases e : k < (need.map (b * ·)).length
    · rw [List.getD_eq_getElem?_getD, List.getElem?_eq_getElem e, Option.getD_some]
      exact hti _ (List.getElem_mem e)
    · rw [List.getD_eq_getElem?_getD, List.getElem?_eq_none (by omega)]
      exact ⟨Int.le_refl _, by decide⟩
  have hall := hall_of hp0 hc
  have hfd := fill_doc hn48 hc8 hP (shades_lt hok) hb hc
  have hDS := fun i h => leftN_ds l (need.map (b * ·)) i h hlm (fun k => (hnn k).1) hp0 hall
  have hrest : ∀ q ∈ l.drop (p + 1), 0 ≤ q.many := fun q hq => hp0 q (List.mem_of_mem_drop hq)
  obtain ⟨D1, D2⟩ := hDS p hp
  have hL : (leftN need.length l (need.map (b * ·)) p).length = need.length := by rw [leftN_len']; exact hlm
  have hR : (docRows need.length l (need.map (b * ·))).getD p [] = (itR need.length l[p].shades.toNat (l.drop (p + 1)) (leftN need.length l (need.map (b * ·)) p) l[p].many need.length).1 := by
    rw [(docRows_at need.length l _ p hp).1, it_doc]
  have hIT := fun q hq => it_ds hrest D1 q hq
  have hAT := fun q hq => it_at (o := l[p].shades.toNat) (rest := l.drop (p + 1)) (many := l[p].many) hL (q := q) hq
  have hLE := it_left (o := l[p].shades.toNat) (rest := l.drop (p + 1)) (many := l[p].many) hL (s + 1) (by omega)
  have hIL := (itR_len need.length l[p].shades.toNat (l.drop (p + 1)) (leftN need.length l (need.map (b * ·)) p) l[p].many (s + 1)).2
  refine ⟨fun i k => (leftN need.length l (need.map (b * ·)) i).getD k 0, fun k => (itR need.length l[p].shades.toNat (l.drop (p + 1)) (leftN need.length l (need.map (b * ·)) p) l[p].many (min k (s + 1))).2.2, (itR need.length l[p].shades.toNat (l.drop (p + 1)) (leftN need.length l (need.map (b * ·)) p) l[p].many (s + 1)).2.1, ?_⟩
  refine ⟨by rw [hIL, hL], fun k h => ?_, fun i k h => ?_, fun k h1 h2 => ?_, fun k h1 h2 => ?_, ?_, fun k h => ?_, fun k h => ?_, fun i k h => ?_, fun k => ?_, fun k => ?_, fun h1 h2 => ?_⟩
  · skip
    rw [leftN_zero, List.getD_eq_getElem?_getD, List.getElem?_map, List.getElem?_eq_getElem h]
    rfl
  · rw [hfd]
    exact leftN_next hlm (fun k => (hnn k).1) hp0 hall (by omega) k
  · rw [hfd, hLE k, if_pos (by omega), hR]
  · rw [hLE k, if_neg (by omega)]
    exact Int.sub_zero _
  · skip
    rw [Nat.zero_min]
    rfl
  · skip
    rw [show min (k + 1) (s + 1) = k + 1 by omega, show min k (s + 1) = k by omega, (hAT k (by omega)).1, hfd, hR]
  · skip
    rw [show min (k + 1) (s + 1) = s + 1 by omega, show min k (s + 1) = s + 1 by omega]
  · skip
    have h2 := hDS i (by omega)
    exact ⟨h2.1.nn k, Int.le_trans (h2.2 k) (hnn k).2⟩
  · skip
    have h2 := hIT (min k (s + 1)) (by omega)
    exact ⟨h2.1.mn, Int.le_trans h2.2.2 (hP.2 _ (List.getElem_mem hp)).2.2⟩
  · have h2 := hIT (s + 1) (by omega)
    exact ⟨h2.1.nn k, Int.le_trans (h2.2.1 k) (Int.le_trans (D2 k) (hnn k).2)⟩
  · skip
    rw [show min need.length (s + 1) = s + 1 by omega] at h1 ⊢
    exact greedy_some D1 hrest hs hbit h1 h2
end Go.Proofs.Ytngoagfkcjkeoaa
