/- Walk of isWithin. -/
import Derived.Test.YtfpfafijockfnaaSf
namespace Go.Proofs.Ytfpfafijockfnaa
open Go.RowKit Go.Shelf

set_option maxRecDepth 100000 in
set_option maxHeartbeats 2000000 in
theorem within5_any (a b c d : Int) (w : World) : Calls Try.prog 45 #[.agg #[.int .i64 a, .int .i64 b], .agg #[.int .i64 c, .int .i64 d]] w (Ret (.bool (insideB ⟨a, b⟩ ⟨c, d⟩)) w) := by
  have hb1 : Below w.heap.size w ((w.alloc (.cells #[.int .i64 a, .int .i64 b] 99)).alloc (.cells #[.int .i64 c, .int .i64 d] 99)) := by repeat (first | exact Below.refl _ _ | assumption | refine Below.drew ?_ | refine Below.alloc ?_ (by first | omega | (simp only [World.size_alloc]; omega) | simp) _ | refine Below.setCell ?_ (by first | omega | (simp only [World.size_alloc]; omega) | simp) _)
  have hk1 : Blk ((w.alloc (.cells #[.int .i64 a, .int .i64 b] 99)).alloc (.cells #[.int .i64 c, .int .i64 d] 99)) w.heap.size 99 #[.int .i64 a, .int .i64 b] := (Blk.new _ _ _).alloc _
  have hk2 : Blk ((w.alloc (.cells #[.int .i64 a, .int .i64 b] 99)).alloc (.cells #[.int .i64 c, .int .i64 d] 99)) (w.heap.size + 1) 99 #[.int .i64 c, .int .i64 d] := blk5 _ _ (by simp) rfl
  have HI := Lib.hid (inside_iff a b c d)
  generalize insideB ⟨a, b⟩ ⟨c, d⟩ = z at HI ⊢
  go_enter Try.func45, Try.ntmps45
  go_wp2_with fail
  generalize World.alloc (World.alloc w _) _ = V at hb1 hk1 hk2 ⊢
  have HB := Lib.hid hb1
  have K1 := Lib.hid hk1
  have K2 := Lib.hid hk2
  have hS0 : V.cell? ⟨w.heap.size, 0, none⟩ = some (.int .i64 a) ∧ V.cell? ⟨w.heap.size, 1, none⟩ = some (.int .i64 b) ∧ V.cell? ⟨w.heap.size + 1, 0, none⟩ = some (.int .i64 c) ∧ V.cell? ⟨w.heap.size + 1, 1, none⟩ = some (.int .i64 d) := ⟨hk1.cell 0, hk1.cell 1, hk2.cell 0, hk2.cell 1⟩
  have HC : Hid (∀ W, Calls Try.prog 76 #[.agg #[.int .i64 a, .int .i64 b], .agg #[.int .i64 c, .int .i64 d]] W (Ret (.agg #[.int .i64 (max a c), .int .i64 (min b d)]) W)) := Lib.hid fun W => common5_any a b c d W
  generalize max a c = x at *
  generalize min b d = y at *
  clear hb1 hk1 hk2
  by_cases h1 : x = a
  · by_cases h2 : y = b
    · have h1' := h1.symm
      have h2' := h2.symm
      clear h1 h2
      subst h1' h2'
      go_region_held3 (fun W => W.cell? ⟨w.heap.size, 0, none⟩ = some (.int .i64 a) ∧ W.cell? ⟨w.heap.size, 1, none⟩ = some (.int .i64 b) ∧ W.cell? ⟨w.heap.size + 1, 0, none⟩ = some (.int .i64 c) ∧ W.cell? ⟨w.heap.size + 1, 1, none⟩ = some (.int .i64 d)) (first | exact hS0 | exact ⟨M1.out.cell 0, M1.out.cell 1, M2.out.cell 0, M2.out.cell 1⟩ | assumption | fail "keep") (first | (go_at_call 76; (with_reducible refine (HC.out _).mono ?_); rintro e W2 ⟨rfl, hb⟩; have M1 := Lib.hid (K1.out.drew.below hb (K1.out.drew.lt)); have M2 := Lib.hid (K2.out.drew.below hb (K2.out.drew.lt)); have HB2 := Lib.hid (HB.out.drew.trans (hb.mono HB.out.drew.size)); clear hb) | fail "no arm")
      go_wp2_with fail
      go_ret
      exact ⟨ret_bool (by rw [HI.out]; simp), HB2.out⟩
    · have hz : z = false := by rw [HI.out]; simp [h2]
      have hy : (y == b) = false := beq_eq_false_iff_ne.2 h2
      have h1' := h1.symm
      clear h1 h2
      subst h1' hz
      clear HI
      go_region_held3 (fun W => W.cell? ⟨w.heap.size, 0, none⟩ = some (.int .i64 a) ∧ W.cell? ⟨w.heap.size, 1, none⟩ = some (.int .i64 b) ∧ W.cell? ⟨w.heap.size + 1, 0, none⟩ = some (.int .i64 c) ∧ W.cell? ⟨w.heap.size + 1, 1, none⟩ = some (.int .i64 d)) (first | exact hS0 | exact ⟨M1.out.cell 0, M1.out.cell 1, M2.out.cell 0, M2.out.cell 1⟩ | assumption | fail "keep") (first | (go_at_call 76; (with_reducible refine (HC.out _).mono ?_); rintro e W2 ⟨rfl, hb⟩; have M1 := Lib.hid (K1.out.drew.below hb (K1.out.drew.lt)); have M2 := Lib.hid (K2.out.drew.below hb (K2.out.drew.lt)); have HB2 := Lib.hid (HB.out.drew.trans (hb.mono HB.out.drew.size)); clear hb) | fail "no arm")
      go_wp2_with fail
      go_ret
      exact ⟨rfl, HB2.out⟩
  · have hz : z = false := by rw [HI.out]; simp [h1]
    have hx : (x == a) = false := beq_eq_false_iff_ne.2 h1
    subst hz
    clear HI h1
    go_region_held3 (fun W => W.cell? ⟨w.heap.size, 0, none⟩ = some (.int .i64 a) ∧ W.cell? ⟨w.heap.size, 1, none⟩ = some (.int .i64 b) ∧ W.cell? ⟨w.heap.size + 1, 0, none⟩ = some (.int .i64 c) ∧ W.cell? ⟨w.heap.size + 1, 1, none⟩ = some (.int .i64 d)) (first | exact hS0 | exact ⟨M1.out.cell 0, M1.out.cell 1, M2.out.cell 0, M2.out.cell 1⟩ | assumption | fail "keep") (first | (go_at_call 76; (with_reducible refine (HC.out _).mono ?_); rintro e W2 ⟨rfl, hb⟩; have M1 := Lib.hid (K1.out.drew.below hb (K1.out.drew.lt)); have M2 := Lib.hid (K2.out.drew.below hb (K2.out.drew.lt)); have HB2 := Lib.hid (HB.out.drew.trans (hb.mono HB.out.drew.size)); clear hb) | fail "no arm")
    go_wp2_with fail
    go_ret
    exact ⟨rfl, HB2.out⟩
end Go.Proofs.Ytfpfafijockfnaa
