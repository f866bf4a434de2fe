/- Walks of slat's small functions on reaches. -/
import Derived.Test.YtfpfafijockfnaaSs
import Derived.Test.YtfpfafijockfnaaLib
namespace Go.Proofs.Ytfpfafijockfnaa
open Go.RowKit Go.Shelf

theorem w64 {x : Int} (h : -9223372036854775808 ≤ x) (h' : x ≤ 9223372036854775807) : wrap64 x = x := by unfold wrap64; omega
theorem blk5 {w : World} {o : Obj} {t : TypeId} (cs : Array Value) (k : Nat) (hk : k = w.heap.size) (ho : o = .cells cs t) : Blk (w.alloc o) k t cs := by subst hk ho; exact Blk.new _ _ _
def Far (s : Span) : Prop := -1000000 ≤ s.lo ∧ s.lo ≤ 1000000 ∧ -1000000 ≤ s.hi ∧ s.hi ≤ 1000000
theorem mul_far {n x : Int} (hn : -1000 ≤ n ∧ n ≤ 1000) (h : -1000000 ≤ x ∧ x ≤ 1000000) : -1000000000 ≤ n * x ∧ n * x ≤ 1000000000 := by
  rcases Int.le_total 0 n with h0 | h0
  · have a := Int.mul_le_mul_of_nonneg_left h.2 h0
    have b := Int.mul_le_mul_of_nonneg_left h.1 h0
    omega
  · have a := Int.mul_le_mul_of_nonpos_left h0 h.2
    have b := Int.mul_le_mul_of_nonpos_left h0 h.1
    omega
set_option maxHeartbeats 2000000 in
theorem times5_any (s : Span) (n : Int) (w : World) (h : Far s) (hn : -1000 ≤ n ∧ n ≤ 1000) :
    Calls Try.prog 77 #[.agg #[.int .i64 s.lo, .int .i64 s.hi], .int .i64 n] w (Ret (.agg #[.int .i64 (timesS n s).lo, .int .i64 (timesS n s).hi]) w) := by
  obtain ⟨a, b⟩ := s
  obtain ⟨h1, h2, h3, h4⟩ := h
  dsimp only at h1 h2 h3 h4
  obtain ⟨m1, m2⟩ := mul_far hn ⟨h1, h2⟩
  obtain ⟨m3, m4⟩ := mul_far hn ⟨h3, h4⟩
  have e1 : wrap64 (n * a) = n * a := w64 (by omega) (by omega)
  have e2 : wrap64 (n * b) = n * b := w64 (by omega) (by omega)
  have hb1 : Below w.heap.size w ((w.alloc (.cells #[.int .i64 a, .int .i64 b] 99)).alloc (.cells #[.int .i64 (n * a), .int .i64 (n * b)] 99)) := by repeat (first | exact Below.refl _ _ | assumption | refine Below.drew ?_ | refine Below.alloc ?_ (by first | omega | (simp only [World.size_alloc]; omega) | simp) _ | refine Below.setCell ?_ (by first | omega | (simp only [World.size_alloc]; omega) | simp) _)
  have hb2 : Below w.heap.size w ((w.alloc (.cells #[.int .i64 a, .int .i64 b] 99)).alloc (.cells #[.int .i64 (n * b), .int .i64 (n * a)] 99)) := by repeat (first | exact Below.refl _ _ | assumption | refine Below.drew ?_ | refine Below.alloc ?_ (by first | omega | (simp only [World.size_alloc]; omega) | simp) _ | refine Below.setCell ?_ (by first | omega | (simp only [World.size_alloc]; omega) | simp) _)
  by_cases hneg : n < 0
  · have hd : decide (n < 0) = true := decide_eq_true hneg
    have ht : timesS n ⟨a, b⟩ = ⟨n * b, n * a⟩ := if_pos hneg
    rw [ht]
    clear hneg ht
    go_enter Try.func77, Try.ntmps77
    go_wp2_with fail
    exact bodyPost_ret (results_blk rfl _ rfl (blk5 _ _ (by simp) rfl) (by kernel_rfl) (by kernel_rfl)) rfl ⟨rfl, hb2⟩
  · have hd : decide (n < 0) = false := decide_eq_false hneg
    have ht : timesS n ⟨a, b⟩ = ⟨n * a, n * b⟩ := if_neg hneg
    rw [ht]
    clear hneg ht
    go_enter Try.func77, Try.ntmps77
    go_wp2_with fail
    exact bodyPost_ret (results_blk rfl _ rfl (blk5 _ _ (by simp) rfl) (by kernel_rfl) (by kernel_rfl)) rfl ⟨rfl, hb1⟩
set_option maxHeartbeats 2000000 in
theorem common5_any (a b c d : Int) (w : World) : Calls Try.prog 76 #[.agg #[.int .i64 a, .int .i64 b], .agg #[.int .i64 c, .int .i64 d]] w (Ret (.agg #[.int .i64 (max a c), .int .i64 (min b d)]) w) := by
  obtain ⟨x, hx⟩ : ∃ x : Int, (if a < c then c else a) = x := ⟨_, rfl⟩
  obtain ⟨y, hy⟩ : ∃ y : Int, (if d < b then d else b) = y := ⟨_, rfl⟩
  have ex : max a c = x := by rw [← hx]; split <;> omega
  have ey : min b d = y := by rw [← hy]; split <;> omega
  rw [ex, ey]
  clear ex ey
  have hb1 : Below w.heap.size w (((w.alloc (.cells #[.int .i64 a, .int .i64 b] 99)).alloc (.cells #[.int .i64 c, .int .i64 d] 99)).alloc (.cells #[.int .i64 x, .int .i64 y] 99)) := by repeat (first | exact Below.refl _ _ | assumption | refine Below.drew ?_ | refine Below.alloc ?_ (by first | omega | (simp only [World.size_alloc]; omega) | simp) _ | refine Below.setCell ?_ (by first | omega | (simp only [World.size_alloc]; omega) | simp) _)
  go_enter Try.func76, Try.ntmps76
  go_wp2_with fail
  exact bodyPost_ret (results_blk rfl _ rfl (blk5 _ _ (by simp) rfl) (by kernel_rfl) (by kernel_rfl)) rfl ⟨rfl, hb1⟩
set_option maxHeartbeats 2000000 in
theorem amount5_any (a b : Int) (w : World) (h : -9000000000000000000 ≤ a ∧ a ≤ 9000000000000000000) : Calls Try.prog 92 #[.agg #[.int .i64 a, .int .i64 b]] w (Ret (.int .i64 (max (-a) b)) w) := by
  have hb1 : Below w.heap.size w (w.alloc (.cells #[.int .i64 a, .int .i64 b] 99)) := (Below.refl _ _).alloc (Nat.le_refl _) _
  have e1 : IntKind.i64.wrap (-a) = -a := IntWalk.i64_in _ ⟨by omega, by omega⟩
  obtain ⟨x, hx⟩ : ∃ x : Int, (if -a < b then b else -a) = x := ⟨_, rfl⟩
  have ex : max (-a) b = x := by rw [← hx]; split <;> omega
  rw [ex]
  clear ex
  go_enter Try.func92, Try.ntmps92
  go_wp2_with fail
  go_ret
  exact ⟨rfl, hb1⟩
set_option maxHeartbeats 2000000 in
theorem meets5_any (a b c d : Int) (w : World) : Calls Try.prog 51 #[.agg #[.int .i64 a, .int .i64 b], .agg #[.int .i64 c, .int .i64 d]] w (Ret (.bool (meetsB ⟨a, b⟩ ⟨c, d⟩)) w) := by
  have hb1 : Below w.heap.size w ((w.alloc (.cells #[.int .i64 a, .int .i64 b] 99)).alloc (.cells #[.int .i64 c, .int .i64 d] 99)) := by repeat (first | exact Below.refl _ _ | assumption | refine Below.drew ?_ | refine Below.alloc ?_ (by first | omega | (simp only [World.size_alloc]; omega) | simp) _ | refine Below.setCell ?_ (by first | omega | (simp only [World.size_alloc]; omega) | simp) _)
  have HB := Lib.hid hb1
  have HD : Hid (meetsB ⟨a, b⟩ ⟨c, d⟩ = decide (max a c ≤ min b d)) := Lib.hid rfl
  clear hb1
  go_enter Try.func51, Try.ntmps51
  go_wp2_with fail
  refine (common5_any _ _ _ _ _).mono ?_
  rintro e W1 ⟨rfl, hb⟩
  have HB1 := Lib.hid (HB.out.trans (hb.mono HB.out.size))
  have HB2 := Lib.hid (HB1.out.alloc HB1.out.size (.cells #[.int .i64 (max a c), .int .i64 (min b d)] 99))
  clear hb HB
  generalize max a c = x at *
  generalize min b d = y at *
  go_wp2_with fail
  go_ret
  exact ⟨ret_bool HD.out.symm, HB2.out⟩
/-- Is it within the bounds: what both have in common is it itself. -/
theorem inside_iff (a b c d : Int) : insideB ⟨a, b⟩ ⟨c, d⟩ = (decide (max a c = a) && decide (min b d = b)) := by
  unfold insideB
  rw [Bool.eq_iff_iff]
  simp only [Bool.and_eq_true, decide_eq_true_eq]
  omega
end Go.Proofs.Ytfpfafijockfnaa
