/- Walks of the numbers of a sandwich: play, how the first grooves miss one another. -/
import Derived.Test.YtfpfafijockfnaaSh
namespace Go.Proofs.Ytfpfafijockfnaa
open Go.RowKit Go.Shelf

set_option maxRecDepth 100000 in
set_option maxHeartbeats 2000000 in
theorem play5_any (j : Jig) (a b : Slat) (w : World) (h : 0 ≤ j.play ∧ j.play ≤ 500) : Calls Try.prog 96 #[.agg #[.int .i64 j.glue.lo, .int .i64 j.glue.hi, .int .i64 j.lead.lo, .int .i64 j.lead.hi, .int .i64 j.side.lo, .int .i64 j.side.hi, .int .i64 j.height.lo, .int .i64 j.height.hi, .int .i64 j.play, .int .i64 j.grooves, .int .i64 a.thick.lo, .int .i64 a.thick.hi, .int .i64 a.depth.lo, .int .i64 a.depth.hi, .int .i64 a.shift.lo, .int .i64 a.shift.hi, .int .i64 a.pitch.lo, .int .i64 a.pitch.hi, .int .i64 b.thick.lo, .int .i64 b.thick.hi, .int .i64 b.depth.lo, .int .i64 b.depth.hi, .int .i64 b.shift.lo, .int .i64 b.shift.hi, .int .i64 b.pitch.lo, .int .i64 b.pitch.hi]] w (Ret (.agg #[.int .i64 (playS j).lo, .int .i64 (playS j).hi]) w) := by
  have hb1 : Below w.heap.size w ((w.alloc (.cells #[.int .i64 j.glue.lo, .int .i64 j.glue.hi, .int .i64 j.lead.lo, .int .i64 j.lead.hi, .int .i64 j.side.lo, .int .i64 j.side.hi, .int .i64 j.height.lo, .int .i64 j.height.hi, .int .i64 j.play, .int .i64 j.grooves, .int .i64 a.thick.lo, .int .i64 a.thick.hi, .int .i64 a.depth.lo, .int .i64 a.depth.hi, .int .i64 a.shift.lo, .int .i64 a.shift.hi, .int .i64 a.pitch.lo, .int .i64 a.pitch.hi, .int .i64 b.thick.lo, .int .i64 b.thick.hi, .int .i64 b.depth.lo, .int .i64 b.depth.hi, .int .i64 b.shift.lo, .int .i64 b.shift.hi, .int .i64 b.pitch.lo, .int .i64 b.pitch.hi] 95)).alloc (.cells #[.int .i64 (-j.play), .int .i64 j.play] 99)) := by repeat (first | exact Below.refl _ _ | assumption | refine Below.drew ?_ | refine Below.alloc ?_ (by first | omega | (simp only [World.size_alloc]; omega) | simp) _ | refine Below.setCell ?_ (by first | omega | (simp only [World.size_alloc]; omega) | simp) _)
  have e1 : IntKind.i64.wrap (-j.play) = -j.play := IntWalk.i64_in _ ⟨by omega, by omega⟩
  go_enter Try.func96, Try.ntmps96
  go_wp2_with fail
  exact bodyPost_ret (results_blk rfl _ rfl (blk5 _ _ (by simp) rfl) (by kernel_rfl) (by kernel_rfl)) rfl ⟨rfl, hb1⟩
theorem two_spans {W : World} {g : Nat} {t : TypeId} {s x : Span} (h : Blk W g t #[.int .i64 s.lo, .int .i64 s.hi, .int .i64 x.lo, .int .i64 x.hi]) : SpAt W g 0 [s, x] := fun i hi => by
  match i, hi with
  | 0, _ => exact ⟨h.cell 0, h.cell 1⟩
  | 1, _ => exact ⟨h.cell 2, h.cell 3⟩
theorem slat_far {s : Slat} (h : SlatIn s) : Far s.thick ∧ Far s.depth ∧ Far s.shift ∧ Far s.pitch := by
  obtain ⟨a1, a2, a3, b1, b2, b3, c1, c2, c3, d1, d2, d3⟩ := h
  unfold Far
  omega
theorem mul_far10 {n x : Int} (hn : -9 ≤ n ∧ n ≤ 9) (h : -100000 ≤ x ∧ x ≤ 100000) : -1000000 ≤ n * x ∧ n * x ≤ 1000000 := by
  rcases Int.le_total 0 n with h0 | h0
  · have a := Int.mul_le_mul_of_nonneg_left h.2 h0
    have b := Int.mul_le_mul_of_nonneg_left h.1 h0
    omega
  · have a := Int.mul_le_mul_of_nonpos_left h0 h.2
    have b := Int.mul_le_mul_of_nonpos_left h0 h.1
    omega
theorem times_far {s : Span} {n : Int} (h : -100000 ≤ s.lo ∧ s.lo ≤ 100000 ∧ -100000 ≤ s.hi ∧ s.hi ≤ 100000) (hn : -9 ≤ n ∧ n ≤ 9) : Far (timesS n s) := by
  unfold Far timesS
  have a1 := mul_far10 (x := s.lo) hn ⟨h.1, h.2.1⟩
  have a2 := mul_far10 (x := s.hi) hn h.2.2
  split <;> (dsimp only; omega)
set_option maxRecDepth 100000 in
set_option maxHeartbeats 2000000 in
theorem first5_any (j : Jig) (a b : Slat) (w : World) (ha : SlatIn a) (hb : SlatIn b) : Calls Try.prog 95 #[.agg #[.int .i64 j.glue.lo, .int .i64 j.glue.hi, .int .i64 j.lead.lo, .int .i64 j.lead.hi, .int .i64 j.side.lo, .int .i64 j.side.hi, .int .i64 j.height.lo, .int .i64 j.height.hi, .int .i64 j.play, .int .i64 j.grooves, .int .i64 a.thick.lo, .int .i64 a.thick.hi, .int .i64 a.depth.lo, .int .i64 a.depth.hi, .int .i64 a.shift.lo, .int .i64 a.shift.hi, .int .i64 a.pitch.lo, .int .i64 a.pitch.hi, .int .i64 b.thick.lo, .int .i64 b.thick.hi, .int .i64 b.depth.lo, .int .i64 b.depth.hi, .int .i64 b.shift.lo, .int .i64 b.shift.hi, .int .i64 b.pitch.lo, .int .i64 b.pitch.hi]] w (Ret (.agg #[.int .i64 (firstS a b).lo, .int .i64 (firstS a b).hi]) w) := by
  obtain ⟨-, -, fs, -⟩ := slat_far ha
  have hbs : -100000 ≤ b.shift.lo ∧ b.shift.lo ≤ 100000 ∧ -100000 ≤ b.shift.hi ∧ b.shift.hi ≤ 100000 := by have := hb.s0; have := hb.s1; have := hb.s2; omega
  have hft : Far b.shift := by unfold Far; omega
  have HT : Hid (∀ W : World, Calls Try.prog 77 #[.agg #[.int .i64 b.shift.lo, .int .i64 b.shift.hi], .int .i64 (-1)] W (Ret (.agg #[.int .i64 (-b.shift.hi), .int .i64 (-b.shift.lo)]) W)) := Lib.hid fun W => by
    have h9 := times5_any b.shift (-1) W hft (by omega)
    have e : timesS (-1) b.shift = ⟨-b.shift.hi, -b.shift.lo⟩ := by unfold timesS; rw [if_pos (by omega)]; simp
    rw [e] at h9
    exact h9
  have HU : Hid (∀ W : World, Calls Try.prog 80 #[.slice (some ⟨W.heap.size, 0, none⟩) 2 2] (W.alloc (.cells #[.int .i64 a.shift.lo, .int .i64 a.shift.hi, .int .i64 (-b.shift.hi), .int .i64 (-b.shift.lo)] 99)) (Ret (.agg #[.int .i64 (firstS a b).lo, .int .i64 (firstS a b).hi]) (W.alloc (.cells #[.int .i64 a.shift.lo, .int .i64 a.shift.hi, .int .i64 (-b.shift.hi), .int .i64 (-b.shift.lo)] 99)))) := Lib.hid fun W => by
    have h9 := sum5_any (W.alloc (.cells #[.int .i64 a.shift.lo, .int .i64 a.shift.hi, .int .i64 (-b.shift.hi), .int .i64 (-b.shift.lo)] 99)) W.heap.size 0 2 [a.shift, ⟨-b.shift.hi, -b.shift.lo⟩] (by simp) (two_spans (Blk.new _ _ _)) (by simp) (by
      intro s hs
      simp only [List.mem_cons, List.not_mem_nil, or_false] at hs
      rcases hs with rfl | rfl
      · exact fs
      · unfold Far; dsimp only; omega)
    have e : sumS [a.shift, ⟨-b.shift.hi, -b.shift.lo⟩] = firstS a b := by simp [sumS, addS, firstS]; omega
    rw [e] at h9
    exact h9
  have hb0 : Below w.heap.size w ((w.alloc (.cells #[.int .i64 j.glue.lo, .int .i64 j.glue.hi, .int .i64 j.lead.lo, .int .i64 j.lead.hi, .int .i64 j.side.lo, .int .i64 j.side.hi, .int .i64 j.height.lo, .int .i64 j.height.hi, .int .i64 j.play, .int .i64 j.grooves, .int .i64 a.thick.lo, .int .i64 a.thick.hi, .int .i64 a.depth.lo, .int .i64 a.depth.hi, .int .i64 a.shift.lo, .int .i64 a.shift.hi, .int .i64 a.pitch.lo, .int .i64 a.pitch.hi, .int .i64 b.thick.lo, .int .i64 b.thick.hi, .int .i64 b.depth.lo, .int .i64 b.depth.hi, .int .i64 b.shift.lo, .int .i64 b.shift.hi, .int .i64 b.pitch.lo, .int .i64 b.pitch.hi] 95)).alloc (.cells #[.int .i64 0, .int .i64 0] 99)) := by repeat (first | exact Below.refl _ _ | assumption | refine Below.drew ?_ | refine Below.alloc ?_ (by first | omega | (simp only [World.size_alloc]; omega) | simp) _ | refine Below.setCell ?_ (by first | omega | (simp only [World.size_alloc]; omega) | simp) _)
  have hk0 : Blk ((w.alloc (.cells #[.int .i64 j.glue.lo, .int .i64 j.glue.hi, .int .i64 j.lead.lo, .int .i64 j.lead.hi, .int .i64 j.side.lo, .int .i64 j.side.hi, .int .i64 j.height.lo, .int .i64 j.height.hi, .int .i64 j.play, .int .i64 j.grooves, .int .i64 a.thick.lo, .int .i64 a.thick.hi, .int .i64 a.depth.lo, .int .i64 a.depth.hi, .int .i64 a.shift.lo, .int .i64 a.shift.hi, .int .i64 a.pitch.lo, .int .i64 a.pitch.hi, .int .i64 b.thick.lo, .int .i64 b.thick.hi, .int .i64 b.depth.lo, .int .i64 b.depth.hi, .int .i64 b.shift.lo, .int .i64 b.shift.hi, .int .i64 b.pitch.lo, .int .i64 b.pitch.hi] 95)).alloc (.cells #[.int .i64 0, .int .i64 0] 99)) w.heap.size 95 #[.int .i64 j.glue.lo, .int .i64 j.glue.hi, .int .i64 j.lead.lo, .int .i64 j.lead.hi, .int .i64 j.side.lo, .int .i64 j.side.hi, .int .i64 j.height.lo, .int .i64 j.height.hi, .int .i64 j.play, .int .i64 j.grooves, .int .i64 a.thick.lo, .int .i64 a.thick.hi, .int .i64 a.depth.lo, .int .i64 a.depth.hi, .int .i64 a.shift.lo, .int .i64 a.shift.hi, .int .i64 a.pitch.lo, .int .i64 a.pitch.hi, .int .i64 b.thick.lo, .int .i64 b.thick.hi, .int .i64 b.depth.lo, .int .i64 b.depth.hi, .int .i64 b.shift.lo, .int .i64 b.shift.hi, .int .i64 b.pitch.lo, .int .i64 b.pitch.hi] := (Blk.new _ _ _).alloc _
  have hk2 : Blk ((w.alloc (.cells #[.int .i64 j.glue.lo, .int .i64 j.glue.hi, .int .i64 j.lead.lo, .int .i64 j.lead.hi, .int .i64 j.side.lo, .int .i64 j.side.hi, .int .i64 j.height.lo, .int .i64 j.height.hi, .int .i64 j.play, .int .i64 j.grooves, .int .i64 a.thick.lo, .int .i64 a.thick.hi, .int .i64 a.depth.lo, .int .i64 a.depth.hi, .int .i64 a.shift.lo, .int .i64 a.shift.hi, .int .i64 a.pitch.lo, .int .i64 a.pitch.hi, .int .i64 b.thick.lo, .int .i64 b.thick.hi, .int .i64 b.depth.lo, .int .i64 b.depth.hi, .int .i64 b.shift.lo, .int .i64 b.shift.hi, .int .i64 b.pitch.lo, .int .i64 b.pitch.hi] 95)).alloc (.cells #[.int .i64 0, .int .i64 0] 99)) (w.heap.size + 1) 99 #[.int .i64 0, .int .i64 0] := blk5 _ _ (by simp) rfl
  generalize (firstS a b).lo = flo at *
  generalize (firstS a b).hi = fhi at *
  clear hft hbs fs
  go_enter Try.func95, Try.ntmps95
  go_wp2_with fail
  generalize World.alloc (World.alloc w _) _ = V at hb0 hk0 hk2 ⊢
  have HB := Lib.hid hb0
  have K0 := Lib.hid hk0
  have K2 := Lib.hid hk2
  have hS0 : V.cell? ⟨w.heap.size, 14, none⟩ = some (.int .i64 a.shift.lo) ∧ V.cell? ⟨w.heap.size, 15, none⟩ = some (.int .i64 a.shift.hi) ∧ V.cell? ⟨w.heap.size, 22, none⟩ = some (.int .i64 b.shift.lo) ∧ V.cell? ⟨w.heap.size, 23, none⟩ = some (.int .i64 b.shift.hi) := ⟨hk0.cell 14, hk0.cell 15, hk0.cell 22, hk0.cell 23⟩
  clear hb0 hk0 hk2
  go_region_held3 (fun W => W.cell? ⟨w.heap.size, 14, none⟩ = some (.int .i64 a.shift.lo) ∧ W.cell? ⟨w.heap.size, 15, none⟩ = some (.int .i64 a.shift.hi) ∧ W.cell? ⟨w.heap.size, 22, none⟩ = some (.int .i64 b.shift.lo) ∧ W.cell? ⟨w.heap.size, 23, none⟩ = some (.int .i64 b.shift.hi))
    (first | exact hS0 | exact ⟨M0.out.cell 14, M0.out.cell 15, M0.out.cell 22, M0.out.cell 23⟩ | exact ⟨N0.out.cell 14, N0.out.cell 15, N0.out.cell 22, N0.out.cell 23⟩ | exact ⟨(M0.out.alloc _).cell 14, (M0.out.alloc _).cell 15, (M0.out.alloc _).cell 22, (M0.out.alloc _).cell 23⟩ | exact ⟨((N0.out.far (by simp) _).far (by simp) _).cell 14, ((N0.out.far (by simp) _).far (by simp) _).cell 15, ((N0.out.far (by simp) _).far (by simp) _).cell 22, ((N0.out.far (by simp) _).far (by simp) _).cell 23⟩ | assumption | fail "keep")
    (first
      | (go_at_call 77; (with_reducible refine (HT.out _).mono ?_); rintro e W2 ⟨rfl, hb⟩; have M0 := Lib.hid (K0.out.drew.below hb K0.out.drew.lt); have M2 := Lib.hid (K2.out.drew.below hb K2.out.drew.lt); have HB2 := Lib.hid (HB.out.drew.trans (hb.mono HB.out.drew.size)); clear hb)
      | (go_at_call 80; (with_reducible refine (HU.out W2).mono ?_); rintro e W3 ⟨rfl, hb⟩; have N0 := Lib.hid ((M0.out.alloc _).below hb (M0.out.alloc _).lt); have N2 := Lib.hid ((M2.out.alloc _).below hb (M2.out.alloc _).lt); have HB3 := Lib.hid ((HB2.out.alloc HB2.out.size _).trans (hb.mono (HB2.out.alloc HB2.out.size _).size)); have y0 := N2.out.cell 0; have y1 := N2.out.cell 1; have z0 := N2.out.frozen 0; have z1 := N2.out.frozen 1; clear hb)
      | fail "no arm")
  go_wp2_with fail
  exact bodyPost_ret (results_blk rfl _ rfl ((N2.out.set_ 0 (.int .i64 flo)).set_ 1 (.int .i64 fhi)) (by kernel_rfl) (by kernel_rfl)) rfl ⟨rfl, (HB3.out.setCell (by simp) _).setCell (by simp) _⟩
end Go.Proofs.Ytfpfafijockfnaa
