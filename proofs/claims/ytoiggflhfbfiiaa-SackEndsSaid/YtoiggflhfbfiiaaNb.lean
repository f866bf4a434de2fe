/- notBelow: between which bounds a number of grams has to be. -/
import Derived.Test.YtoiggflhfbfiiaaM
namespace Go.Proofs.Ytoiggflhfbfiiaa
open Go.RowKit

def notBelow (total one other : Int) : Reach :=
  if 0 < one - other then ⟨cdiv (-total * other) (one - other), total⟩
  else if one - other < 0 then ⟨0, (-(-total * other)) / (-(one - other))⟩
  else if 0 < -total * other then ⟨total, 0⟩ else ⟨0, total⟩


set_option maxRecDepth 100000 in
set_option maxHeartbeats 1000000 in
theorem notBelow_any (total one other : Int) (w : World) (h0 : 0 ≤ total) (h1 : total ≤ 100000) (h2 : -1000000000000 ≤ one) (h3 : one ≤ 1000000000000) (h4 : -1000000000000 ≤ other) (h5 : other ≤ 1000000000000) :
    Calls Try.prog 55 #[.int .i64 total, .int .i64 one, .int .i64 other] w (Ret (.agg #[.int .i64 (notBelow total one other).least, .int .i64 (notBelow total one other).most]) w) := by
  have hb : -100000000000000000 ≤ -total * other ∧ -total * other ≤ 100000000000000000 := by
    rcases Int.le_total 0 other with h | h
    · have := mul_bd h0 h1 h h5
      have e : -total * other = -(total * other) := Int.neg_mul _ _
      omega
    · have := mul_bd h0 h1 (show 0 ≤ -other by omega) (show -other ≤ 1000000000000 by omega)
      have e : -total * other = total * -other := by rw [Int.neg_mul, Int.mul_neg]
      omega
  obtain ⟨hb1, hb2⟩ := hb
  by_cases hp : 0 < one - other
  · have HR : Hid (notBelow total one other = ⟨cdiv (-total * other) (one - other), total⟩) := if_pos hp
    go_enter Try.func55, Try.ntmps55
    go_wp2_with (go_at_call 43; refine (up_any _ _ _ (by omega) (by omega) (by omega)).mono ?_; rintro e w' ⟨rfl, rfl⟩)
    exact bodyPost_ret (results_blk rfl _ rfl (Blk.new _ _ _) (by kernel_rfl) (by kernel_rfl)) rfl ⟨by have h9 := HR.out; simp [h9], (Below.refl _ _).alloc (Nat.le_refl _) _⟩
  · by_cases hn : one - other < 0
    · have HR : Hid (notBelow total one other = ⟨0, (-(-total * other)) / (-(one - other))⟩) := by show _ = _; rw [notBelow, if_neg hp, if_pos hn]
      go_enter Try.func55, Try.ntmps55
      go_wp2_with (go_at_call 45; refine (down_any _ _ _ (by omega) (by omega) (by omega)).mono ?_; rintro e w' ⟨rfl, rfl⟩)
      exact bodyPost_ret (results_blk rfl _ rfl (Blk.new _ _ _) (by kernel_rfl) (by kernel_rfl)) rfl ⟨by have h9 := HR.out; simp [h9], (Below.refl _ _).alloc (Nat.le_refl _) _⟩
    · by_cases hl : 0 < -total * other
      · have HR : Hid (notBelow total one other = ⟨total, 0⟩) := by show _ = _; rw [notBelow, if_neg hp, if_neg hn, if_pos hl]
        go_enter Try.func55, Try.ntmps55
        go_wp2
        exact bodyPost_ret (results_blk rfl _ rfl (Blk.new _ _ _) (by kernel_rfl) (by kernel_rfl)) rfl ⟨by have h9 := HR.out; simp [h9], (Below.refl _ _).alloc (Nat.le_refl _) _⟩
      · have HR : Hid (notBelow total one other = ⟨0, total⟩) := by show _ = _; rw [notBelow, if_neg hp, if_neg hn, if_neg hl]
        go_enter Try.func55, Try.ntmps55
        go_wp2
        exact bodyPost_ret (results_blk rfl _ rfl (Blk.new _ _ _) (by kernel_rfl) (by kernel_rfl)) rfl ⟨by have h9 := HR.out; simp [h9], (Below.refl _ _).alloc (Nat.le_refl _) _⟩
end Go.Proofs.Ytoiggflhfbfiiaa
