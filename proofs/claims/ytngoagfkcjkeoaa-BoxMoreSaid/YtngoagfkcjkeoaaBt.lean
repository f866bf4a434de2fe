/- Plain: the document's number of boxes and its proof are the program's. -/
import Derived.Test.YtngoagfkcjkeoaaRc
namespace Go.Proofs.Ytngoagfkcjkeoaa
open Go.RowKit Go.Shelf

theorem can_not {need : List Int} {l : List Pile} (h : boxOk need l = true) : canB need l 8388609 = false := by
  have h0 := h
  obtain ⟨hN, hP, h1, h8⟩ := ok_in h
  unfold boxOk at h0
  rw [Bool.and_eq_true] at h0
  have hf := need_full h0.1
  have hb := has_bd9 hP (2 ^ need.length - 1)
  cases hc : canB need l 8388609 with
  | false => rfl
  | true =>
    have h2 : 2 ^ 1 ≤ 2 ^ need.length := Nat.pow_le_pow_right (by omega) h1
    have := can_iff.1 hc (2 ^ need.length - 1) (by omega) (by omega)
    omega
theorem most_short {need : List Int} {l : List Pile} (h : boxOk need l = true) {r : Int} (hr : GreatOf (canB need l) 8388608 r) : canB need l (r + 1) = false := by
  by_cases c : r < 8388608
  · exact hr.2.2 (r + 1) (by omega) (by omega)
  · have : r = 8388608 := by have := hr.1.2; omega
    rw [this]
    exact can_not h
theorem mostR_eq {need : List Int} {l : List Pile} (h : boxOk need l = true) {r : Int} (hr : GreatOf (canB need l) 8388608 r) : mostR need l = (r, (lackingS need l (r + 1) : Int), 0) := by
  have hs : shortR need l r = shortB need l (r + 1) := by
    funext s
    unfold shortR shortB
    rw [Int.mul_comm]
  have hc := most_short h hr
  unfold mostR
  rw [if_pos h, most_same h hr, hs]
  unfold canB lackingS at hc
  unfold lackingS
  cases hf : (setsS need.length).find? (shortB need l (r + 1)) with
  | none => rw [hf] at hc; simp at hc
  | some s => rfl
theorem mostR_bad {need : List Int} {l : List Pile} (h : boxOk need l = false) : mostR need l = (0, 0, 1) := by
  unfold mostR
  rw [h]
  rfl
end Go.Proofs.Ytngoagfkcjkeoaa
