/- Walks: the law's large, span. -/
import Derived.Test.YtngoagfkcjkeoaaLs
namespace Go.Proofs.Ytngoagfkcjkeoaa
open Go.RowKit Go.Shelf

set_option maxHeartbeats 2000000 in
theorem large9_any (w : World) (A B : Option Addr) (n m c d : Nat) (hn : n ≤ 9223372036854775807) (hm : m ≤ 9223372036854775807) :
    Calls Try.prog 11 #[.slice A n c, .slice B m d] w fun e w' => e = .returned (.bool (decide (14 < n) || decide (14 < m))) ∧ w = w' := by
  have hn0 : (0 : Int) ≤ n := by omega
  have hn1 : (n : Int) ≤ 9223372036854775807 := by omega
  have hm0 : (0 : Int) ≤ m := by omega
  have hm1 : (m : Int) ≤ 9223372036854775807 := by omega
  by_cases h1 : 14 < n
  · have h1' : (14 : Int) < n := by omega
    go_enter Try.func11, Try.ntmps11
    go_wp2_with fail
    go_ret
    exact ⟨ret_bool (by rw [decide_eq_true h1]; rfl), rfl⟩
  · have h1' : ¬ (14 : Int) < n := by omega
    by_cases h2 : 14 < m
    · have h2' : (14 : Int) < m := by omega
      go_enter Try.func11, Try.ntmps11
      go_wp2_with fail
      go_ret
      exact ⟨ret_bool (by first | rfl | (rw [decide_eq_true h2]; rfl) | (rw [decide_eq_true h2]; simp)), rfl⟩
    · have h2' : ¬ (14 : Int) < m := by omega
      go_enter Try.func11, Try.ntmps11
      go_wp2_with fail
      go_ret
      exact ⟨ret_bool (by first | rfl | (rw [decide_eq_false h2]; rfl) | (rw [decide_eq_false h1, decide_eq_false h2]; rfl)), rfl⟩
set_option maxHeartbeats 2000000 in
theorem span9_any (w : World) (a b : Int) : Calls Try.prog 34 #[.int .i64 a, .int .i64 b] w fun e w' => e = .returned (.agg #[.int .i64 a, .int .i64 b]) ∧ Below w.heap.size w w' := by
  go_enter Try.func34, Try.ntmps34
  go_wp2_with fail
  exact bodyPost_ret (v := .agg #[.int .i64 a, .int .i64 b]) (by simp [results, Try.results34, go_sem]) rfl ⟨rfl, (Below.refl _ _).alloc (Nat.le_refl _) _⟩
set_option maxHeartbeats 2000000 in
theorem sample9_any (w : World) : Calls Try.prog 33 #[] w fun e w' => e = .returned (.tuple #[.slice (some ⟨w.heap.size, 0, none⟩) 3 3, .slice (some ⟨w.heap.size + 1, 0, none⟩) 3 3]) ∧ Below w.heap.size w w' ∧ Blk w' w.heap.size 3 #[.int .i64 2, .int .i64 1, .int .i64 1] ∧ Blk w' (w.heap.size + 1) 46 #[.int .i64 3, .int .i64 10, .int .i64 6, .int .i64 6, .int .i64 4, .int .i64 3] := by
  go_enter Try.func33, Try.ntmps33
  go_wp2_with fail
  exact bodyPost_ret (v := .tuple #[.slice (some ⟨w.heap.size, 0, none⟩) 3 3, .slice (some ⟨w.heap.size + 1, 0, none⟩) 3 3]) (by simp [results, Try.results33, go_sem]) rfl ⟨rfl, by repeat (first | exact Below.refl _ _ | assumption | refine Below.drew ?_ | refine Below.alloc ?_ (by first | omega | (simp only [World.size_alloc]; omega) | simp) _ | refine Below.setCell ?_ (by first | omega | (simp only [World.size_alloc]; omega) | simp) _), (Blk.new _ _ _).alloc _, blk9 _ _ (by simp)⟩
end Go.Proofs.Ytngoagfkcjkeoaa
