/- Walks of package sack: function values and small functions. -/
import Derived.Test.YtoiggflhfbfiiaaA
namespace Go.Proofs.Ytoiggflhfbfiiaa
open Go.RowKit

set_option maxHeartbeats 400000 in
theorem mkCarbonOver (n : Int) (w : World) : Calls Try.prog 39 #[.int .i64 n] w fun e w' => e = .returned (.func (.func 66) #[] #[.pointer (some ⟨w.heap.size, 0, none⟩)]) ∧ w' = w.alloc (.cells #[.int .i64 n] 3) := by
  go_enter Try.func39, Try.ntmps39
  go_wp2
  go_ret
  exact ⟨rfl, rfl⟩

set_option maxHeartbeats 400000 in
theorem mkWaterLack (n : Int) (w : World) : Calls Try.prog 44 #[.int .i64 n] w fun e w' => e = .returned (.func (.func 67) #[] #[.pointer (some ⟨w.heap.size, 0, none⟩)]) ∧ w' = w.alloc (.cells #[.int .i64 n] 3) := by
  go_enter Try.func44, Try.ntmps44
  go_wp2
  go_ret
  exact ⟨rfl, rfl⟩

set_option maxHeartbeats 400000 in
theorem waterLack_any (m v c s n : Int) (q : Nat) (w : World) (h : (St.mk m v c s).ok) (hn : 0 ≤ n) (hn' : n ≤ 1000) (hq : w.cell? ⟨q, 0, none⟩ = some (.int .i64 n)) (hlt : q < w.heap.size) :
    Calls Try.prog 67 #[.agg #[.int .i64 m, .int .i64 v, .int .i64 c, .int .i64 s], .pointer (some ⟨q, 0, none⟩)] w (Ret (.int .i64 (waterLack n ⟨m, v, c, s⟩)) w) := by
  have h1 := waterLack_bd h hn hn'
  simp only [waterLack] at h1
  obtain ⟨h1, h2⟩ := h1
  obtain ⟨-, -, h3, h4, -⟩ := h
  simp only at h3 h4
  go_enter Try.func67, Try.ntmps67
  go_wp2
  go_ret
  exact ⟨rfl, (Below.refl _ _).alloc (Nat.le_refl _) _⟩

theorem StS.cellq {B : Nat} {w W : World} {m v c s : Int} (h : StS B w m v c s W) {q : Nat} {x : Value} (hq : w.cell? ⟨q, 0, none⟩ = some x) (hlt : q < B) : W.cell? ⟨q, 0, none⟩ = some x :=
  (h.1.cell (p := ⟨q, 0, none⟩) hlt).trans hq

set_option maxHeartbeats 400000 in
theorem carbonOver_any (m v c s n : Int) (q : Nat) (w : World) (h : (St.mk m v c s).ok) (hn : 0 ≤ n) (hn' : n ≤ 1000) (hq : w.cell? ⟨q, 0, none⟩ = some (.int .i64 n)) (hlt : q < w.heap.size) :
    Calls Try.prog 66 #[.agg #[.int .i64 m, .int .i64 v, .int .i64 c, .int .i64 s], .pointer (some ⟨q, 0, none⟩)] w (Ret (.int .i64 (carbonOver n ⟨m, v, c, s⟩)) w) := by
  have HW : Hid (IntKind.i64.wrap (IntKind.i64.wrap (1000 * (St.mk m v c s).carbon) - IntKind.i64.wrap (n * (St.mk m v c s).lead)) = carbonOver n ⟨m, v, c, s⟩) := by
    have h1 := St.carbon_bd h
    have h2 := tl_bd h hn hn'
    have h3 := carbonOver_bd h hn hn'
    simp only [carbonOver] at h1 h2 h3 ⊢
    show _ = _
    rw [wr (x := 1000 * _) (by omega) (by omega), wr (x := n * _) (by omega) (by omega), wr (by omega) (by omega)]
  have H := Lib.hid h
  have HQ := Lib.hid hq
  clear h hq
  go_enter Try.func66, Try.ntmps66
  go_wp2
  have h0 := StS.start w m v c s
  have hq0 := h0.cellq HQ.out hlt
  have h1 : StS w.heap.size w m v c s (w.alloc (.cells #[.int .i64 m, .int .i64 v, .int .i64 c, .int .i64 s] 101)) ∧ (w.alloc (.cells #[.int .i64 m, .int .i64 v, .int .i64 c, .int .i64 s] 101)).cell? ⟨q, 0, none⟩ = some (.int .i64 n) := ⟨h0, hq0⟩
  clear h0 hq0
  unfold StS at h1
  generalize w.alloc _ = W0 at h1 ⊢
  go_region_held3 (fun W => (Below w.heap.size w W ∧ w.heap.size < W.heap.size ∧ W.cell? ⟨w.heap.size, 0, none⟩ = some (.int .i64 m) ∧ W.cell? ⟨w.heap.size, 1, none⟩ = some (.int .i64 v) ∧ W.cell? ⟨w.heap.size, 2, none⟩ = some (.int .i64 c) ∧ W.cell? ⟨w.heap.size, 3, none⟩ = some (.int .i64 s)) ∧ W.cell? ⟨q, 0, none⟩ = some (.int .i64 n))
    (first | exact ⟨StS.drew h1.1, h1.2⟩ | (have hX := StS.call (by assumption) (And.left (by assumption)); exact ⟨hX, hX.cellq HQ.out hlt⟩) | go_keep)
    (first | (go_at_call 62; refine (carbon_any _ _ _ _ _ H.out).mono ?_; rintro e e' ⟨rfl, hb'⟩) | (go_at_call 65; refine (lead_any _ _ _ _ _ H.out).mono ?_; rintro e e' ⟨rfl, hb'⟩))
  go_wp2
  go_ret
  obtain ⟨⟨hH, -⟩, -⟩ : StS w.heap.size w m v c s _ ∧ _ := by assumption
  exact ⟨ret_int HW.out, hH⟩

set_option maxHeartbeats 400000 in
theorem parts_any (w : World) : Calls Try.prog 33 #[] w (Ret (.agg #[.func (.func 61) #[] #[], .func (.func 62) #[] #[], .func (.func 63) #[] #[], .func (.func 64) #[] #[], .func (.func 65) #[] #[]]) w) := by
  go_enter Try.func33, Try.ntmps33
  go_wp2
  exact bodyPost_ret (by simp [results, Try.results33, go_sem]) rfl ⟨rfl, (Below.refl _ _).alloc (Nat.le_refl _) _⟩

def GrS (B : Nat) (w : World) (a b : Int) (W : World) : Prop := Below B w W ∧ B < W.heap.size ∧ W.cell? ⟨B, 0, none⟩ = some (.int .i64 a) ∧ W.cell? ⟨B, 1, none⟩ = some (.int .i64 b)

set_option maxHeartbeats 400000 in
theorem grams_any (a b : Int) (w : World) (ha : -8000000000000000000 ≤ a) (ha' : a ≤ 8000000000000000000) (hb : -8000000000000000000 ≤ b) (hb' : b ≤ 8000000000000000000) :
    Calls Try.prog 35 #[.agg #[.int .i64 a, .int .i64 b]] w (Ret (.agg #[.int .i64 (a / 1000000000), .int .i64 (cdiv b 1000000000)]) w) := by
  go_enter Try.func35, Try.ntmps35
  go_wp2
  go_region_with (first | (go_at_call 45; refine (down_any _ _ _ (by omega) (by omega) (by omega)).mono ?_; rintro e w' ⟨rfl, rfl⟩) | (go_at_call 43; refine (up_any _ _ _ (by omega) (by omega) (by omega)).mono ?_; rintro e w' ⟨rfl, rfl⟩))
  all_goals go_wp2
  all_goals exact bodyPost_ret (v := .agg #[.int .i64 (a / 1000000000), .int .i64 (cdiv b 1000000000)]) (by simp [results, Try.results35, go_sem]) rfl ⟨rfl, by repeat (first | exact Below.refl _ _ | refine Below.drew ?_ | refine Below.alloc ?_ (by simp) _ | refine Below.setCell ?_ (by simp) _)⟩

set_option maxHeartbeats 400000 in
theorem numbers_ok (a b : Int) (w : World) (h : a ≤ b) : Calls Try.prog 46 #[.int .i64 a, .int .i64 b] w (Ret (.tuple #[.agg #[.int .i64 a, .int .i64 b], .int .i64 0]) w) := by
  go_enter Try.func46, Try.ntmps46
  go_wp2
  exact bodyPost_ret (by simp [results, Try.results46, go_sem]) rfl ⟨rfl, (Below.refl _ _).alloc (Nat.le_refl _) _⟩

set_option maxHeartbeats 400000 in
theorem numbers_no (a b : Int) (w : World) (h : b < a) : Calls Try.prog 46 #[.int .i64 a, .int .i64 b] w (Ret (.tuple #[.agg #[.int .i64 0, .int .i64 0], .int .i64 4]) w) := by
  go_enter Try.func46, Try.ntmps46
  go_wp2
  exact bodyPost_ret (by simp [results, Try.results46, go_sem]) rfl ⟨rfl, (Below.refl _ _).alloc (Nat.le_refl _) _⟩

set_option maxHeartbeats 400000 in
theorem gramOf_any (a b c d e f : Int) (w : World) : Calls Try.prog 53 #[.agg #[.int .i64 a, .int .i64 b, .int .i64 c, .int .i64 d, .int .i64 e, .int .i64 f]] w
    (Ret (.agg #[.int .i64 a, .int .i64 b, .int .i64 c, .int .i64 d, .int .i64 e, .int .i64 f, .int .i64 1, .int .i64 1]) w) := by
  go_enter Try.func53, Try.ntmps53
  go_wp2
  exact bodyPost_ret (by simp [results, Try.results53, go_sem]) rfl ⟨rfl, by repeat (first | exact Below.refl _ _ | refine Below.alloc ?_ (by simp) _)⟩

set_option maxHeartbeats 400000 in
theorem corners_any (a b c d e f g h : Int) (w : World) : Calls Try.prog 68 #[.agg #[.int .i64 a, .int .i64 b, .int .i64 c, .int .i64 d, .int .i64 e, .int .i64 f, .int .i64 g, .int .i64 h]] w
    fun e' w' => e' = .returned (.func (.func 70) #[] #[.pointer (some ⟨w.heap.size, 0, none⟩)]) ∧ w' = w.alloc (.cells #[.int .i64 a, .int .i64 b, .int .i64 c, .int .i64 d, .int .i64 e, .int .i64 f, .int .i64 g, .int .i64 h] 89) := by
  go_enter Try.func68, Try.ntmps68
  go_wp2
  go_ret
  exact ⟨rfl, rfl⟩
end Go.Proofs.Ytoiggflhfbfiiaa
