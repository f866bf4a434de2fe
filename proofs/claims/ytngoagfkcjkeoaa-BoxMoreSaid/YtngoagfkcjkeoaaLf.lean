/- Walks of the leaves of package box and of the document's own definitions of layer 9. -/
import Derived.Test.YtngoagfkcjkeoaaLib
namespace Go.Proofs.Ytngoagfkcjkeoaa
open Go.RowKit Go.Shelf

set_option maxHeartbeats 400000 in
theorem isFrom_any (n a b : Int) (w : World) : Calls Try.prog 52 #[.int .i64 n, .int .i64 a, .int .i64 b] w fun e w' => e = .returned (.bool (fromB n a b)) ∧ w = w' := by
  go_enter Try.func52, Try.ntmps52
  go_wp2
  all_goals go_ret
  all_goals exact ⟨ret_bool (by rw [Bool.eq_iff_iff]; simp only [fromB, decide_eq_true_eq, Bool.false_eq_true, false_iff]; omega), rfl⟩
set_option maxHeartbeats 400000 in
theorem rin_any (n a b : Int) (w : World) : Calls Try.prog 56 #[.int .i64 n, .int .i64 a, .int .i64 b] w fun e w' => e = .returned (.bool (fromB n a b)) ∧ w = w' := by
  go_enter Try.func56, Try.ntmps56
  go_wp2
  all_goals go_ret
  all_goals exact ⟨ret_bool (by rw [Bool.eq_iff_iff]; simp only [fromB, decide_eq_true_eq, Bool.false_eq_true, false_iff]; omega), rfl⟩
theorem and_tab : ∀ t < 256, ∀ k < 8, bits .and .i64 ((t / 2 ^ k : Nat) : Int) 1 = if Nat.testBit t k then 1 else 0 := by decide +kernel
theorem and_nat (t s : Nat) (ht : t < 256) (hs : s < 256) : bits .and .i64 (t : Int) (s : Int) = ((t &&& s : Nat) : Int) := by
  have h1 : t &&& s ≤ t := Nat.and_le_left
  unfold bits
  simp only [BitVec.ofInt_natCast, BitVec.toNat_and, BitVec.toNat_ofNat]
  rw [show IntKind.bits .i64 = 64 from rfl, Nat.mod_eq_of_lt (by omega), Nat.mod_eq_of_lt (by omega)]
  exact IntWalk.i64_in _ ⟨by omega, by omega⟩
theorem meet_tab (t s : Nat) (ht : t < 256) (hs : s < 256) : (bits .and .i64 (t : Int) (s : Int) == 0) = (t &&& s == 0) := by
  rw [and_nat t s ht hs, Bool.eq_iff_iff, beq_iff_eq, beq_iff_eq]
  omega
theorem pow_tab : ∀ k < 9, wrap64 (2 ^ k) = ((2 ^ k : Nat) : Int) := by decide +kernel
theorem one_tab : ∀ t k : Nat, (t / 2 ^ k) % 2 = if Nat.testBit t k then 1 else 0 := fun t k => by
  rw [Nat.testBit_eq_decide_div_mod_eq]
  have := Nat.mod_two_eq_zero_or_one (t / 2 ^ k)
  rcases this with h | h <;> simp [h]
theorem bit_use {t q : Nat} (ht : t < 256) (hq : q < 8) : bits .and .i64 ((t : Int) / 2 ^ q) 1 = if Nat.testBit t q = true then 1 else 0 := by
  have h := and_tab t ht q hq
  rw [← h]
  norm_cast
set_option maxHeartbeats 2000000 in
theorem holds_any (t q : Nat) (w : World) (ht : t < 256) (hq : q < 8) : Calls Try.prog 54 #[.int .i64 (t : Int), .int .i64 (q : Int)] w fun e w' => e = .returned (.bool (t.testBit q)) ∧ w = w' := by
  have hb := bit_use ht hq
  have hq0 : (0 : Int) ≤ q := by omega
  have hq1 : (q : Int) < 8 := by omega
  cases h : t.testBit q with
  | true =>
    rw [h, if_pos rfl] at hb
    go_enter Try.func54, Try.ntmps54
    go_wp2_with fail
    go_ret
    exact ⟨rfl, rfl⟩
  | false =>
    rw [h, if_neg (by simp)] at hb
    go_enter Try.func54, Try.ntmps54
    go_wp2_with fail
    go_ret
    exact ⟨rfl, rfl⟩
set_option maxHeartbeats 2000000 in
theorem meets_any (t s : Nat) (w : World) (ht : t < 256) (hs : s < 256) : Calls Try.prog 64 #[.int .i64 (t : Int), .int .i64 (s : Int)] w fun e w' => e = .returned (.bool (t &&& s != 0)) ∧ w = w' := by
  have hb := meet_tab t s ht hs
  go_enter Try.func64, Try.ntmps64
  go_wp2_with fail
  go_ret
  refine ⟨ret_bool ?_, rfl⟩
  rw [bne, bne, hb]
set_option maxHeartbeats 2000000 in
theorem only_any (q : Nat) (w : World) (hq : q < 8) : Calls Try.prog 65 #[.int .i64 (q : Int)] w fun e w' => e = .returned (.int .i64 ((2 ^ q : Nat) : Int)) ∧ w = w' := by
  have hp := pow_tab q (by omega)
  have hq0 : (0 : Int) ≤ q := by omega
  have hq1 : (q : Int) ≤ 64 := by omega
  go_enter Try.func65, Try.ntmps65
  go_wp2_with fail
  go_ret
  exact ⟨ret_int hp, rfl⟩
end Go.Proofs.Ytngoagfkcjkeoaa
