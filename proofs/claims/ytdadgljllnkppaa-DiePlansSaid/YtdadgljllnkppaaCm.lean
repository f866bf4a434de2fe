/- Walks: two fractions compared. -/
import Derived.Test.YtdadgljllnkppaaLf
namespace Go.Proofs.Ytdadgljllnkppaa
open Go.RowKit Go.Shelf

theorem nano_method (a : Int) (w : World) : (method 224 154 (.int .i64 a) "pencilworks/die.inOne").run Try.prog w = .ok (168, .int .i64 a) w := by kernel_rfl
theorem micro_method (a : Int) (w : World) : (method 224 157 (.int .i64 a) "pencilworks/die.inOne").run Try.prog w = .ok (169, .int .i64 a) w := by kernel_rfl
set_option maxRecDepth 100000 in
set_option maxHeartbeats 2000000 in
theorem compare_any (a b : Int) (w : World) (a0 : 0 ≤ a) (a1 : a ≤ 2000000000) (b0 : 0 ≤ b) (b1 : b ≤ 20000) :
    Calls Try.prog 101 #[.int .i64 a, .int .i64 b] w fun e w' => e = .returned (.int .i64 (cmpI (a * 1000) (b * 1000000))) ∧ w = w' := by
  have h1 := nano_method a
  have h2 := micro_method b
  go_enter Try.func101, Try.ntmps101
  go_wp2_with fail
  refine (microOne_any _ _).mono ?_
  rintro e w' ⟨rfl, rfl⟩
  go_wp2_with fail
  refine (nanoOne_any _ _).mono ?_
  rintro e w' ⟨rfl, rfl⟩
  go_wp2_with fail
  refine (cmp_any _ _ _).mono ?_
  rintro e w' ⟨rfl, rfl⟩
  go_wp2
  go_ret
  exact ⟨rfl, rfl⟩
end Go.Proofs.Ytdadgljllnkppaa
