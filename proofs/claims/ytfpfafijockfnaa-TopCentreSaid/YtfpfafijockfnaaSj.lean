/- Walks of the numbers of a sandwich: the room of its leads. -/
import Derived.Test.YtfpfafijockfnaaSi
namespace Go.Proofs.Ytfpfafijockfnaa
open Go.RowKit Go.Shelf

theorem four_spans {W : World} {g : Nat} {t : TypeId} {s x y z : Span} (h : Blk W g t #[.int .i64 s.lo, .int .i64 s.hi, .int .i64 x.lo, .int .i64 x.hi, .int .i64 y.lo, .int .i64 y.hi, .int .i64 z.lo, .int .i64 z.hi]) : SpAt W g 0 [s, x, y, z] := fun i hi => by
  match i, hi with
  | 0, _ => exact ⟨h.cell 0, h.cell 1⟩
  | 1, _ => exact ⟨h.cell 2, h.cell 3⟩
  | 2, _ => exact ⟨h.cell 4, h.cell 5⟩
  | 3, _ => exact ⟨h.cell 6, h.cell 7⟩
set_option maxRecDepth 100000 in
set_option maxHeartbeats 2000000 in
theorem room5_any (j : Jig) (a b : Slat) (w : World) (hj : JigIn j) (ha : SlatIn a) (hb : SlatIn b) : Calls Try.prog 94 #[.agg #[.int .i64 j.glue.lo, .int .i64 j.glue.hi, .int .i64 j.lead.lo, .int .i64 j.lead.hi, .int .i64 j.side.lo, .int .i64 j.side.hi, .int .i64 j.height.lo, .int .i64 j.height.hi, .int .i64 j.play, .int .i64 j.grooves, .int .i64 a.thick.lo, .int .i64 a.thick.hi, .int .i64 a.depth.lo, .int .i64 a.depth.hi, .int .i64 a.shift.lo, .int .i64 a.shift.hi, .int .i64 a.pitch.lo, .int .i64 a.pitch.hi, .int .i64 b.thick.lo, .int .i64 b.thick.hi, .int .i64 b.depth.lo, .int .i64 b.depth.hi, .int .i64 b.shift.lo, .int .i64 b.shift.hi, .int .i64 b.pitch.lo, .int .i64 b.pitch.hi]] w (Ret (.agg #[.int .i64 (roomS j a b).lo, .int .i64 (roomS j a b).hi]) w) := by
  obtain ⟨-, fa, -, -⟩ := slat_far ha
  obtain ⟨-, fb, -, -⟩ := slat_far hb
  have hg : Far j.glue := by have := hj.g0; have := hj.g1; have := hj.g2; unfold Far; omega
  have hft : Far j.lead := by have := hj.l0; have := hj.l1; have := hj.l2; unfold Far; omega
  have hfl : Far ⟨-j.lead.hi, -j.lead.lo⟩ := by have := hj.l0; have := hj.l1; have := hj.l2; unfold Far; dsimp only; omega
  have HT : Hid (∀ W : World, Calls Try.prog 77 #[.agg #[.int .i64 j.lead.lo, .int .i64 j.lead.hi], .int .i64 (-1)] W (Ret (.agg #[.int .i64 (-j.lead.hi), .int .i64 (-j.lead.lo)]) W)) := Lib.hid fun W => by
    have h9 := times5_any j.lead (-1) W hft (by omega)
    have e : timesS (-1) j.lead = ⟨-j.lead.hi, -j.lead.lo⟩ := by unfold timesS; rw [if_pos (by omega)]; simp
    rw [e] at h9
    exact h9
  have HU : Hid (∀ W : World, Calls Try.prog 80 #[.slice (some ⟨W.heap.size, 0, none⟩) 4 4] (W.alloc (.cells #[.int .i64 a.depth.lo, .int .i64 a.depth.hi, .int .i64 b.depth.lo, .int .i64 b.depth.hi, .int .i64 j.glue.lo, .int .i64 j.glue.hi, .int .i64 (-j.lead.hi), .int .i64 (-j.lead.lo)] 99)) (Ret (.agg #[.int .i64 (roomS j a b).lo, .int .i64 (roomS j a b).hi]) (W.alloc (.cells #[.int .i64 a.depth.lo, .int .i64 a.depth.hi, .int .i64 b.depth.lo, .int .i64 b.depth.hi, .int .i64 j.glue.lo, .int .i64 j.glue.hi, .int .i64 (-j.lead.hi), .int .i64 (-j.lead.lo)] 99)))) := Lib.hid fun W => by
    have h9 := sum5_any (W.alloc (.cells #[.int .i64 a.depth.lo, .int .i64 a.depth.hi, .int .i64 b.depth.lo, .int .i64 b.depth.hi, .int .i64 j.glue.lo, .int .i64 j.glue.hi, .int .i64 (-j.lead.hi), .int .i64 (-j.lead.lo)] 99)) W.heap.size 0 4 [a.depth, b.depth, j.glue, ⟨-j.lead.hi, -j.lead.lo⟩] (by simp) (four_spans (Blk.new _ _ _)) (by simp) (by
      intro s hs
      simp only [List.mem_cons, List.not_mem_nil, or_false] at hs
      rcases hs with rfl | rfl | rfl | rfl
      · exact fa
      · exact fb
      · exact hg
      · exact hfl)
    have e : sumS [a.depth, b.depth, j.glue, ⟨-j.lead.hi, -j.lead.lo⟩] = roomS j a b := by simp [sumS, addS, roomS]; omega
    rw [e] at h9
    exact h9
  have hb0 : Below w.heap.size w ((w.alloc (.cells #[.int .i64 j.glue.lo, .int .i64 j.glue.hi, .int .i64 j.lead.lo, .int .i64 j.lead.hi, .int .i64 j.side.lo, .int .i64 j.side.hi, .int .i64 j.height.lo, .int .i64 j.height.hi, .int .i64 j.play, .int .i64 j.grooves, .int .i64 a.thick.lo, .int .i64 a.thick.hi, .int .i64 a.depth.lo, .int .i64 a.depth.hi, .int .i64 a.shift.lo, .int .i64 a.shift.hi, .int .i64 a.pitch.lo, .int .i64 a.pitch.hi, .int .i64 b.thick.lo, .int .i64 b.thick.hi, .int .i64 b.depth.lo, .int .i64 b.depth.hi, .int .i64 b.shift.lo, .int .i64 b.shift.hi, .int .i64 b.pitch.lo, .int .i64 b.pitch.hi] 95)).alloc (.cells #[.int .i64 0, .int .i64 0] 99)) := by repeat (first | exact Below.refl _ _ | assumption | refine Below.drew ?_ | refine Below.alloc ?_ (by first | omega | (simp only [World.size_alloc]; omega) | simp) _ | refine Below.setCell ?_ (by first | omega | (simp only [World.size_alloc]; omega) | simp) _)
  have hk0 : Blk ((w.alloc (.cells #[.int .i64 j.glue.lo, .int .i64 j.glue.hi, .int .i64 j.lead.lo, .int .i64 j.lead.hi, .int .i64 j.side.lo, .int .i64 j.side.hi, .int .i64 j.height.lo, .int .i64 j.height.hi, .int .i64 j.play, .int .i64 j.grooves, .int .i64 a.thick.lo, .int .i64 a.thick.hi, .int .i64 a.depth.lo, .int .i64 a.depth.hi, .int .i64 a.shift.lo, .int .i64 a.shift.hi, .int .i64 a.pitch.lo, .int .i64 a.pitch.hi, .int .i64 b.thick.lo, .int .i64 b.thick.hi, .int .i64 b.depth.lo, .int .i64 b.depth.hi, .int .i64 b.shift.lo, .int .i64 b.shift.hi, .int .i64 b.pitch.lo, .int .i64 b.pitch.hi] 95)).alloc (.cells #[.int .i64 0, .int .i64 0] 99)) w.heap.size 95 #[.int .i64 j.glue.lo, .int .i64 j.glue.hi, .int .i64 j.lead.lo, .int .i64 j.lead.hi, .int .i64 j.side.lo, .int .i64 j.side.hi, .int .i64 j.height.lo, .int .i64 j.height.hi, .int .i64 j.play, .int .i64 j.grooves, .int .i64 a.thick.lo, .int .i64 a.thick.hi, .int .i64 a.depth.lo, .int .i64 a.depth.hi, .int .i64 a.shift.lo, .int .i64 a.shift.hi, .int .i64 a.pitch.lo, .int .i64 a.pitch.hi, .int .i64 b.thick.lo, .int .i64 b.thick.hi, .int .i64 b.depth.lo, .int .i64 b.depth.hi, .int .i64 b.shift.lo, .int .i64 b.shift.hi, .int .i64 b.pitch.lo, .int .i64 b.pitch.hi] := (Blk.new _ _ _).alloc _
  have hk2 : Blk ((w.alloc (.cells #[.int .i64 j.glue.lo, .int .i64 j.glue.hi, .int .i64 j.lead.lo, .int .i64 j.lead.hi, .int .i64 j.side.lo, .int .i64 j.side.hi, .int .i64 j.height.lo, .int .i64 j.height.hi, .int .i64 j.play, .int .i64 j.grooves, .int .i64 a.thick.lo, .int .i64 a.thick.hi, .int .i64 a.depth.lo, .int .i64 a.depth.hi, .int .i64 a.shift.lo, .int .i64 a.shift.hi, .int .i64 a.pitch.lo, .int .i64 a.pitch.hi, .int .i64 b.thick.lo, .int .i64 b.thick.hi, .int .i64 b.depth.lo, .int .i64 b.depth.hi, .int .i64 b.shift.lo, .int .i64 b.shift.hi, .int .i64 b.pitch.lo, .int .i64 b.pitch.hi] 95)).alloc (.cells #[.int .i64 0, .int .i64 0] 99)) (w.heap.size + 1) 99 #[.int .i64 0, .int .i64 0] := blk5 _ _ (by simp) rfl
  generalize (roomS j a b).lo = flo at *
  generalize (roomS j a b).hi = fhi at *
  clear hft hfl hg fa fb
  go_enter Try.func94, Try.ntmps94
  go_wp2_with fail
  generalize World.alloc (World.alloc w _) _ = V at hb0 hk0 hk2 ⊢
  have HB := Lib.hid hb0
  have K0 := Lib.hid hk0
  have K2 := Lib.hid hk2
  have hS0 : V.cell? ⟨w.heap.size, 12, none⟩ = some (.int .i64 a.depth.lo) ∧ V.cell? ⟨w.heap.size, 13, none⟩ = some (.int .i64 a.depth.hi) ∧ V.cell? ⟨w.heap.size, 20, none⟩ = some (.int .i64 b.depth.lo) ∧ V.cell? ⟨w.heap.size, 21, none⟩ = some (.int .i64 b.depth.hi) ∧ V.cell? ⟨w.heap.size, 0, none⟩ = some (.int .i64 j.glue.lo) ∧ V.cell? ⟨w.heap.size, 1, none⟩ = some (.int .i64 j.glue.hi) ∧ V.cell? ⟨w.heap.size, 2, none⟩ = some (.int .i64 j.lead.lo) ∧ V.cell? ⟨w.heap.size, 3, none⟩ = some (.int .i64 j.lead.hi) := ⟨hk0.cell 12, hk0.cell 13, hk0.cell 20, hk0.cell 21, hk0.cell 0, hk0.cell 1, hk0.cell 2, hk0.cell 3⟩
  clear hb0 hk0 hk2
  go_region_held3 (fun W => W.cell? ⟨w.heap.size, 12, none⟩ = some (.int .i64 a.depth.lo) ∧ W.cell? ⟨w.heap.size, 13, none⟩ = some (.int .i64 a.depth.hi) ∧ W.cell? ⟨w.heap.size, 20, none⟩ = some (.int .i64 b.depth.lo) ∧ W.cell? ⟨w.heap.size, 21, none⟩ = some (.int .i64 b.depth.hi) ∧ W.cell? ⟨w.heap.size, 0, none⟩ = some (.int .i64 j.glue.lo) ∧ W.cell? ⟨w.heap.size, 1, none⟩ = some (.int .i64 j.glue.hi) ∧ W.cell? ⟨w.heap.size, 2, none⟩ = some (.int .i64 j.lead.lo) ∧ W.cell? ⟨w.heap.size, 3, none⟩ = some (.int .i64 j.lead.hi))
    (first | exact hS0 | exact ⟨M0.out.cell 12, M0.out.cell 13, M0.out.cell 20, M0.out.cell 21, M0.out.cell 0, M0.out.cell 1, M0.out.cell 2, M0.out.cell 3⟩ | exact ⟨N0.out.cell 12, N0.out.cell 13, N0.out.cell 20, N0.out.cell 21, N0.out.cell 0, N0.out.cell 1, N0.out.cell 2, N0.out.cell 3⟩ | exact ⟨(M0.out.alloc _).cell 12, (M0.out.alloc _).cell 13, (M0.out.alloc _).cell 20, (M0.out.alloc _).cell 21, (M0.out.alloc _).cell 0, (M0.out.alloc _).cell 1, (M0.out.alloc _).cell 2, (M0.out.alloc _).cell 3⟩ | exact ⟨((N0.out.far (by simp) _).far (by simp) _).cell 12, ((N0.out.far (by simp) _).far (by simp) _).cell 13, ((N0.out.far (by simp) _).far (by simp) _).cell 20, ((N0.out.far (by simp) _).far (by simp) _).cell 21, ((N0.out.far (by simp) _).far (by simp) _).cell 0, ((N0.out.far (by simp) _).far (by simp) _).cell 1, ((N0.out.far (by simp) _).far (by simp) _).cell 2, ((N0.out.far (by simp) _).far (by simp) _).cell 3⟩ | assumption | fail "keep")
    (first
      | (go_at_call 77; (with_reducible refine (HT.out _).mono ?_); rintro e W2 ⟨rfl, hb⟩; have M0 := Lib.hid (K0.out.drew.below hb K0.out.drew.lt); have M2 := Lib.hid (K2.out.drew.below hb K2.out.drew.lt); have HB2 := Lib.hid (HB.out.drew.trans (hb.mono HB.out.drew.size)); clear hb)
      | (go_at_call 80; (with_reducible refine (HU.out W2).mono ?_); rintro e W3 ⟨rfl, hb⟩; have N0 := Lib.hid ((M0.out.alloc _).below hb (M0.out.alloc _).lt); have N2 := Lib.hid ((M2.out.alloc _).below hb (M2.out.alloc _).lt); have HB3 := Lib.hid ((HB2.out.alloc HB2.out.size _).trans (hb.mono (HB2.out.alloc HB2.out.size _).size)); have y0 := N2.out.cell 0; have y1 := N2.out.cell 1; have z0 := N2.out.frozen 0; have z1 := N2.out.frozen 1; clear hb)
      | fail "no arm")
  go_wp2_with fail
  exact bodyPost_ret (results_blk rfl _ rfl ((N2.out.set_ 0 (.int .i64 flo)).set_ 1 (.int .i64 fhi)) (by kernel_rfl) (by kernel_rfl)) rfl ⟨rfl, (HB3.out.setCell (by simp) _).setCell (by simp) _⟩
end Go.Proofs.Ytfpfafijockfnaa
