/- Made by program out of parts: Lf. -/
import Derived.Test.YtfpfafijockfnaaRows
import Derived.Test.YtfpfafijockfnaaLib
/- Walks of the leaves of package die and of the document's own definitions of layer 4. -/
namespace Go.Proofs.Ytfpfafijockfnaa
open Go.RowKit Go.Shelf

theorem tdiv_neg {a b : Int} (hb : 0 < b) (h : a.tmod b < 0) : a.tdiv b - 1 = a / b := by
  have h1 := Int.mul_tdiv_add_tmod a b
  have h2 : -b < a.tmod b := Int.lt_tmod_of_pos a hb
  have := (Int.ediv_emod_unique (a := a) (b := b) (r := a.tmod b + b) (q := a.tdiv b - 1) hb).2 ⟨by rw [Int.mul_sub]; omega, by omega, by omega⟩
  exact this.1.symm
theorem tdiv_pos {a b : Int} (hb : 0 < b) (h : 0 ≤ a.tmod b) : a.tdiv b = a / b := by
  have h1 := Int.mul_tdiv_add_tmod a b
  have h2 := Int.tmod_lt_of_pos a hb
  have := (Int.ediv_emod_unique (a := a) (b := b) (r := a.tmod b) (q := a.tdiv b) hb).2 ⟨by omega, by omega, by omega⟩
  exact this.1.symm
theorem tdiv_bd {a b M : Int} (h : -M ≤ a) (h' : a ≤ M) : -M ≤ a.tdiv b ∧ a.tdiv b ≤ M := by
  have := Int.natAbs_tdiv_le_natAbs a b
  omega

set_option maxHeartbeats 400000 in
theorem down_any (a b : Int) (w : World) (hb : 0 < b) (ha : -9000000000000000000 ≤ a) (ha' : a ≤ 9000000000000000000) :
    Calls Try.prog 89 #[.int .i64 a, .int .i64 b] w fun e w' => e = .returned (.int .i64 (a / b)) ∧ w = w' := by
  have hq := tdiv_bd (b := b) ha ha'
  obtain ⟨hq1, hq2⟩ := hq
  have HN := Lib.hid (@tdiv_neg a b hb)
  have HP := Lib.hid (@tdiv_pos a b hb)
  go_enter Try.func89, Try.ntmps89
  go_wp2
  · go_ret
    exact ⟨ret_int (HN.out (by assumption)), rfl⟩
  · go_ret
    exact ⟨ret_int (HP.out (by assumption)), rfl⟩

set_option maxHeartbeats 400000 in
theorem up_any (a b : Int) (w : World) (hb : 0 < b) (ha : -9000000000000000000 ≤ a) (ha' : a ≤ 9000000000000000000) :
    Calls Try.prog 90 #[.int .i64 a, .int .i64 b] w fun e w' => e = .returned (.int .i64 (cdiv a b)) ∧ w = w' := by
  have h0 : -9000000000000000000 ≤ -a / b ∧ -a / b ≤ 9000000000000000000 := by
    have h1 := Int.ediv_le_ediv hb ha'
    have h3 : -a / b = -a / b := rfl
    constructor
    · rcases Int.le_total 0 (-a) with h | h
      · have := Int.ediv_nonneg h (Int.le_of_lt hb); omega
      · have h4 := (Int.le_ediv_iff_mul_le hb (a := -9000000000000000000) (b := -a)).2 (by
          have : 9000000000000000000 * 1 ≤ 9000000000000000000 * b := Int.mul_le_mul_of_nonneg_left (by omega) (by omega)
          omega)
        exact h4
    · have h4 := Int.ediv_le_of_le_mul hb (a := -a) (b := 9000000000000000000) (by
        have : 9000000000000000000 * 1 ≤ 9000000000000000000 * b := Int.mul_le_mul_of_nonneg_left (by omega) (by omega)
        omega)
      exact h4
  obtain ⟨h1, h2⟩ := h0
  go_enter Try.func90, Try.ntmps90
  go_wp2_with (go_at_call 89; refine (down_any _ _ _ (by omega) (by omega) (by omega)).mono ?_; rintro e w' ⟨rfl, rfl⟩)
  go_ret
  exact ⟨rfl, rfl⟩

set_option maxHeartbeats 400000 in
theorem isFrom_any (n a b : Int) (w : World) : Calls Try.prog 50 #[.int .i64 n, .int .i64 a, .int .i64 b] w fun e w' => e = .returned (.bool (fromB n a b)) ∧ w = w' := by
  go_enter Try.func50, Try.ntmps50
  go_wp2
  all_goals go_ret
  all_goals exact ⟨ret_bool (by rw [Bool.eq_iff_iff]; simp only [fromB, decide_eq_true_eq, Bool.false_eq_true, false_iff]; omega), rfl⟩
set_option maxHeartbeats 400000 in
theorem rin_any (n a b : Int) (w : World) : Calls Try.prog 55 #[.int .i64 n, .int .i64 a, .int .i64 b] w fun e w' => e = .returned (.bool (fromB n a b)) ∧ w = w' := by
  go_enter Try.func55, Try.ntmps55
  go_wp2
  all_goals go_ret
  all_goals exact ⟨ret_bool (by rw [Bool.eq_iff_iff]; simp only [fromB, decide_eq_true_eq, Bool.false_eq_true, false_iff]; omega), rfl⟩
set_option maxHeartbeats 400000 in
theorem within_any (a b c d : Int) (w : World) : Calls Try.prog 91 #[.agg #[.int .i64 a, .int .i64 b], .int .i64 c, .int .i64 d] w (Ret (.bool (withinB ⟨a, b⟩ c d)) w) := by
  go_enter Try.func91, Try.ntmps91
  go_wp2
  all_goals go_ret
  all_goals exact ⟨ret_bool (by rw [Bool.eq_iff_iff]; simp only [withinB, decide_eq_true_eq, Bool.false_eq_true, false_iff]; omega), (Below.refl _ _).alloc (Nat.le_refl _) _⟩
set_option maxHeartbeats 400000 in
theorem rspan_any (a b c d : Int) (w : World) : Calls Try.prog 56 #[.agg #[.int .i64 a, .int .i64 b], .int .i64 c, .int .i64 d] w (Ret (.bool (withinB ⟨a, b⟩ c d)) w) := by
  go_enter Try.func56, Try.ntmps56
  go_wp2
  all_goals go_ret
  all_goals exact ⟨ret_bool (by rw [Bool.eq_iff_iff]; simp only [withinB, decide_eq_true_eq, Bool.false_eq_true, false_iff]; omega), (Below.refl _ _).alloc (Nat.le_refl _) _⟩
set_option maxHeartbeats 400000 in
theorem validWidth_any (a b : Int) (w : World) : Calls Try.prog 106 #[.agg #[.int .i64 a, .int .i64 b]] w (Ret (.bool (withinB ⟨a, b⟩ 0 20000)) w) := by
  go_enter Try.func106, Try.ntmps106
  go_wp2_with (go_at_call 91; refine (within_any _ _ _ _ _).mono ?_; rintro e w' ⟨rfl, hb'⟩)
  go_ret
  exact ⟨rfl, ((Below.refl _ _).alloc (Nat.le_refl _) _ : Below w.heap.size w _).trans (hb'.mono (by simp))⟩
set_option maxHeartbeats 400000 in
theorem isDie_any (A : Option Addr) (n c : Nat) (s t ch i : Int) (w : World) (hn : n ≤ 9223372036854775807) : Calls Try.prog 58 #[.agg #[.slice A n c, .int .i64 s, .int .i64 t, .int .i64 ch], .int .i64 i] w (Ret (.bool (fromB i 0 ((n : Int) - 1))) w) := by
  have hn' : (n : Int) ≤ 9223372036854775807 := by omega
  have hn0 : (0 : Int) ≤ n := by omega
  go_enter Try.func58, Try.ntmps58
  go_wp2_with (go_at_call 50; refine (isFrom_any _ _ _ _).mono ?_; rintro e w' ⟨rfl, rfl⟩)
  go_ret
  exact ⟨rfl, (Below.refl _ _).alloc (Nat.le_refl _) _⟩
end Go.Proofs.Ytfpfafijockfnaa

