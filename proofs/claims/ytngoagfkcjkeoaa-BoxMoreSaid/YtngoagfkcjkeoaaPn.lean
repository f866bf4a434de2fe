/- Plain: what Fill returns is an assignment. -/
import Derived.Test.YtngoagfkcjkeoaaAf
import Derived.Test.YtngoagfkcjkeoaaPf
namespace Go.Proofs.Ytngoagfkcjkeoaa

theorem hall_of {need : List Int} {l : List Pile} {b : Int} (hP : ∀ p ∈ l, 0 ≤ p.many) (hc : canB need l b = true) : ∀ s < 2 ^ need.length, needS (need.map (b * ·)) s ≤ hasS l s := fun s hs => by
  unfold needS
  rw [needF_map]
  rcases Nat.eq_zero_or_pos s with e | e
  · subst e
    have h0 : ∀ (r : List Int) (i : Nat), needF r 0 i = 0 := by
      intro r
      induction r with
      | nil => intro; rfl
      | cons a r ih => intro i; simp [needF, ih]
    rw [h0, Int.zero_mul]
    exact has_nonneg l 0 hP
  · exact can_iff.1 hc s e hs
theorem fill_doc {need : List Int} {l : List Pile} {b : Int} (hn : ∀ n ∈ need, 0 ≤ n ∧ n ≤ 48) (h8 : need.length ≤ 8) (hP : PilesIn l) (hS : ∀ p ∈ l, p.shades.toNat < 2 ^ need.length) (hb : 0 ≤ b ∧ b ≤ 1048576) (hc : canB need l b = true) : fillT need l b = docRows need.length l (need.map (b * ·)) := by
  have hti := times_in hn hb
  have hlm : (need.map (b * ·)).length = need.length := List.length_map _
  have h64 := asg_len hti (by rw [hlm]; exact h8) hP
  have hp0 : ∀ p ∈ l, 0 ≤ p.many := fun p hp => (hP.2 p hp).2.1
  have hnn : ∀ k, 0 ≤ (need.map (b * ·)).getD k 0 := fun k => by
    by_cases e : k < (need.map (b * ·)).length
    · rw [List.getD_eq_getElem?_getD, List.getElem?_eq_getElem e, Option.getD_some]
      exact (hti _ (List.getElem_mem e)).1
    · rw [List.getD_eq_getElem?_getD, List.getElem?_eq_none (by omega)]
      exact Int.le_refl _
  have hpp := (prog_piles h8 l 0 0 [] (need.map (b * ·)) ⟨cfOf (need.map (b * ·)) l, 0, begL⟩ (by have := hP.1; omega) (fun p hp => (hP.2 p hp).2) hlm hnn (fun s => by simp [cfOf, hasS]) (fun p hp => by simp at hp) (by have := beg_as hti (by rw [hlm]; exact h8) hP; rwa [hlm] at this) (hall_of hp0 hc) hS (fun j _ => by
    show begL.getD j 0 = 0
    rw [List.getD_eq_getElem?_getD]
    unfold begL
    rw [List.getElem?_replicate]
    split <;> rfl)).1
  have hdr := (docRows_row l (need.map (b * ·)) hlm hnn hp0 (hall_of hp0 hc)).1
  have hL : (asgT (need.map (b * ·)) l).L = (pileQ need.length l 0 ⟨cfOf (need.map (b * ·)) l, 0, begL⟩).L := by unfold asgT; rw [hlm]
  unfold fillT
  rw [hL] at h64 ⊢
  generalize (pileQ need.length l 0 ⟨cfOf (need.map (b * ·)) l, 0, begL⟩).L = L at *
  refine List.ext_getElem (by rw [rowsT_len, docRows_len]) fun i h1 h2 => ?_
  rw [rowsT_len] at h1
  have hi8 : i < 8 := by have := hP.1; omega
  have e1 : (rowsT L l.length need.length)[i] = rowT L need.length i := by simp [rowsT]
  rw [e1]
  have e2 : (docRows need.length l (need.map (b * ·))).getD i [] = (docRows need.length l (need.map (b * ·)))[i] := by rw [List.getD_eq_getElem?_getD, List.getElem?_eq_getElem h2, Option.getD_some]
  have hd := (hdr i h1).1
  rw [e2] at hd
  refine List.ext_getElem (by rw [rowT_len h64 h8 hi8, hd]) fun t h3 h4 => ?_
  rw [rowT_len h64 h8 hi8] at h3
  have h5 := hpp i t h1 h3
  rw [e2] at h5
  have e3 : (rowT L need.length i)[t]'(by rw [rowT_len h64 h8 hi8]; exact h3) = L.getD (i * 8 + t) 0 := by
    unfold rowT
    rw [List.getElem_take, List.getElem_drop, List.getD_eq_getElem?_getD, List.getElem?_eq_getElem (by rw [h64]; omega), Option.getD_some]
  rw [e3]
  rw [Nat.zero_add] at h5
  rw [h5, List.getD_eq_getElem?_getD, List.getElem?_eq_getElem h4, Option.getD_some]
/-- An assignment for so many boxes. -/
structure GoodP (need : List Int) (l : List Pile) (b : Int) (O : List (List Int)) : Prop where
  len : O.length = l.length
  row : ∀ i (h : i < l.length), (O.getD i []).length = need.length ∧ (O.getD i []).sum ≤ l[i].many ∧ ∀ t, 0 ≤ (O.getD i []).getD t 0 ∧ (0 < (O.getD i []).getD t 0 → l[i].shades.toNat.testBit t = true)
  col : ∀ k (h : k < need.length), (O.map fun r => r.getD k 0).sum = b * need[k]
theorem shades_lt {need : List Int} {l : List Pile} (h : boxOk need l = true) : ∀ p ∈ l, p.shades.toNat < 2 ^ need.length := fun p hp => by
  unfold boxOk at h
  rw [Bool.and_eq_true] at h
  obtain ⟨⟨h1, h2⟩, -⟩ := (pile_parts h.2).2 p hp
  have : ((p.shades.toNat : Nat) : Int) < ((2 ^ need.length : Nat) : Int) := by rw [Int.toNat_of_nonneg h1]; simpa using h2
  omega
theorem fill_good {need : List Int} {l : List Pile} {b : Int} (hok : boxOk need l = true) (hb : 0 ≤ b ∧ b ≤ 1048576) (hc : canB need l b = true) : GoodP need l b (fillT need l b) := by
  obtain ⟨hN, hP, hc1, hc8⟩ := ok_in hok
  have hn48 : ∀ n ∈ need, 0 ≤ n ∧ n ≤ 48 := by
    have h9 := hok
    unfold boxOk at h9
    rw [Bool.and_eq_true] at h9
    exact (need_parts h9.1).2.1
  have hti := times_in hn48 hb
  have hlm : (need.map (b * ·)).length = need.length := List.length_map _
  have hp0 : ∀ p ∈ l, 0 ≤ p.many := fun p hp => (hP.2 p hp).2.1
  have hnn : ∀ k, 0 ≤ (need.map (b * ·)).getD k 0 := fun k => by
    by_cases e : k < (need.map (b * ·)).length
    · rw [List.getD_eq_getElem?_getD, List.getElem?_eq_getElem e, Option.getD_some]
      exact (hti _ (List.getElem_mem e)).1
    · rw [List.getD_eq_getElem?_getD, List.getElem?_eq_none (by omega)]
      exact Int.le_refl _
  rw [fill_doc hn48 hc8 hP (shades_lt hok) hb hc]
  obtain ⟨h1, h2⟩ := docRows_row l (need.map (b * ·)) hlm hnn hp0 (hall_of hp0 hc)
  refine ⟨docRows_len _ _ _, h1, fun k hk => ?_⟩
  rw [h2, List.getD_eq_getElem?_getD, List.getElem?_map, List.getElem?_eq_getElem hk]
  rfl
end Go.Proofs.Ytngoagfkcjkeoaa
