/- Plain: what the law's own check of an assignment adds up. -/
import Derived.Test.YtngoagfkcjkeoaaPn
namespace Go.Proofs.Ytngoagfkcjkeoaa

def colP (O : List (List Int)) (i k : Nat) : Int := ((O.take i).map fun r => r.getD k 0).sum
def soldL (O : List (List Int)) (m i s : Nat) : List Int := (List.range m).map fun k => colP O i k + (if k < s then (O.getD i []).getD k 0 else 0)
theorem soldL_len (O : List (List Int)) (m i s : Nat) : (soldL O m i s).length = m := by simp [soldL]
theorem soldL_at {O : List (List Int)} {m i s k : Nat} (h : k < m) : (soldL O m i s)[k]'(by rw [soldL_len]; exact h) = colP O i k + (if k < s then (O.getD i []).getD k 0 else 0) := by simp [soldL]
theorem soldL_zero (O : List (List Int)) (m : Nat) : soldL O m 0 0 = List.replicate m 0 := by
  refine List.ext_getElem (by simp [soldL_len]) fun k h1 h2 => ?_
  rw [soldL_len] at h1
  rw [soldL_at h1]
  simp [colP]
theorem colP_next {O : List (List Int)} {i : Nat} (h : i < O.length) (k : Nat) : colP O (i + 1) k = colP O i k + (O.getD i []).getD k 0 := by
  unfold colP
  rw [List.take_succ_eq_append_getElem h, List.map_append, List.sum_append]
  rw [show O.getD i [] = O[i] by rw [List.getD_eq_getElem?_getD, List.getElem?_eq_getElem h, Option.getD_some]]
  simp
theorem soldL_row {O : List (List Int)} {m i : Nat} (h : i < O.length) : soldL O m i m = soldL O m (i + 1) 0 := by
  refine List.ext_getElem (by simp [soldL_len]) fun k h1 h2 => ?_
  rw [soldL_len] at h1
  rw [soldL_at h1, soldL_at h1, if_pos h1, if_neg (by omega), colP_next h]
  omega
theorem soldL_set {O : List (List Int)} {m i s : Nat} (_h : s < m) : (soldL O m i s).set s (colP O i s + (O.getD i []).getD s 0) = soldL O m i (s + 1) := by
  refine List.ext_getElem (by simp [soldL_len]) fun k h1 h2 => ?_
  rw [soldL_len] at h2
  rw [soldL_at h2, List.getElem_set]
  by_cases e : s = k
  · subst e
    rw [if_pos rfl, if_pos (by omega)]
  · rw [if_neg e, soldL_at h2]
    by_cases e2 : k < s
    · rw [if_pos e2, if_pos (by omega)]
    · rw [if_neg e2, if_neg (by omega)]
theorem sum_nn : ∀ (l : List Int), (∀ x ∈ l, 0 ≤ x) → 0 ≤ l.sum
  | [], _ => Int.le_refl _
  | x :: l, h => by
    have := sum_nn l fun y hy => h y (List.mem_cons_of_mem _ hy)
    have := h x List.mem_cons_self
    rw [List.sum_cons]
    omega
theorem sum_part (l : List Int) (k : Nat) (h : ∀ x ∈ l, 0 ≤ x) : 0 ≤ (l.take k).sum ∧ (l.take k).sum ≤ l.sum := by
  have h1 := sum_nn (l.take k) fun x hx => h x (List.mem_of_mem_take hx)
  have h2 := sum_nn (l.drop k) fun x hx => h x (List.mem_of_mem_drop hx)
  have h3 : l.sum = (l.take k).sum + (l.drop k).sum := by rw [← List.sum_append, List.take_append_drop]
  omega
theorem getD_mem {l : List Int} (h : ∀ t, 0 ≤ l.getD t 0) : ∀ x ∈ l, 0 ≤ x := fun x hx => by
  obtain ⟨i, hi, rfl⟩ := List.getElem_of_mem hx
  have := h i
  rwa [List.getD_eq_getElem?_getD, List.getElem?_eq_getElem hi, Option.getD_some] at this
theorem colP_bd {need : List Int} {l : List Pile} {b : Int} {O : List (List Int)} (h : GoodP need l b O) {i k : Nat} (hk : k < need.length) : 0 ≤ colP O i k ∧ colP O i k ≤ b * need[k] := by
  have h1 : ∀ x ∈ O.map fun r => r.getD k 0, 0 ≤ x := fun x hx => by
    obtain ⟨r, hr, rfl⟩ := List.mem_map.1 hx
    obtain ⟨j, hj, rfl⟩ := List.getElem_of_mem hr
    have := ((h.row j (by rw [← h.len]; exact hj)).2.2 k).1
    rwa [show O.getD j [] = O[j] by rw [List.getD_eq_getElem?_getD, List.getElem?_eq_getElem hj, Option.getD_some]] at this
  have h2 := sum_part _ i h1
  rw [h.col k hk, ← List.map_take] at h2
  exact h2
theorem row_next {r : List Int} {s : Nat} (h : s < r.length) : (r.take (s + 1)).sum = (r.take s).sum + r[s] := by
  rw [List.take_succ_eq_append_getElem h, List.sum_append]
  simp
theorem used_next {O : List (List Int)} {i : Nat} (h : i < O.length) : (O.take (i + 1)).map List.sum = (O.take i).map List.sum ++ [O[i].sum] := by
  rw [List.take_succ_eq_append_getElem h, List.map_append]
  rfl
end Go.Proofs.Ytngoagfkcjkeoaa
