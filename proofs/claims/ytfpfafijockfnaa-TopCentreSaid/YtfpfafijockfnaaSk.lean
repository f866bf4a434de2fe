/- Walks of the numbers of a sandwich: how far off its leads lie in height. -/
import Derived.Test.YtfpfafijockfnaaSj
namespace Go.Proofs.Ytfpfafijockfnaa
open Go.RowKit Go.Shelf

theorem six_spans {W : World} {g : Nat} {t : TypeId} {s x y z u v : Span} (h : Blk W g t #[.int .i64 s.lo, .int .i64 s.hi, .int .i64 x.lo, .int .i64 x.hi, .int .i64 y.lo, .int .i64 y.hi, .int .i64 z.lo, .int .i64 z.hi, .int .i64 u.lo, .int .i64 u.hi, .int .i64 v.lo, .int .i64 v.hi]) : SpAt W g 0 [s, x, y, z, u, v] := fun i hi => by
  match i, hi with
  | 0, _ => exact ⟨h.cell 0, h.cell 1⟩
  | 1, _ => exact ⟨h.cell 2, h.cell 3⟩
  | 2, _ => exact ⟨h.cell 4, h.cell 5⟩
  | 3, _ => exact ⟨h.cell 6, h.cell 7⟩
  | 4, _ => exact ⟨h.cell 8, h.cell 9⟩
  | 5, _ => exact ⟨h.cell 10, h.cell 11⟩
set_option maxRecDepth 100000 in
set_option maxHeartbeats 2000000 in
theorem height5_any (j : Jig) (a b : Slat) (w : World) (hj : JigIn j) (ha : SlatIn a) (hb : SlatIn b) : Calls Try.prog 78 #[.agg #[.int .i64 j.glue.lo, .int .i64 j.glue.hi, .int .i64 j.lead.lo, .int .i64 j.lead.hi, .int .i64 j.side.lo, .int .i64 j.side.hi, .int .i64 j.height.lo, .int .i64 j.height.hi, .int .i64 j.play, .int .i64 j.grooves, .int .i64 a.thick.lo, .int .i64 a.thick.hi, .int .i64 a.depth.lo, .int .i64 a.depth.hi, .int .i64 a.shift.lo, .int .i64 a.shift.hi, .int .i64 a.pitch.lo, .int .i64 a.pitch.hi, .int .i64 b.thick.lo, .int .i64 b.thick.hi, .int .i64 b.depth.lo, .int .i64 b.depth.hi, .int .i64 b.shift.lo, .int .i64 b.shift.hi, .int .i64 b.pitch.lo, .int .i64 b.pitch.hi]] w (Ret (.agg #[.int .i64 (heightS j a b).lo, .int .i64 (heightS j a b).hi]) w) := by
  obtain ⟨fa, fd, -, -⟩ := slat_far ha
  obtain ⟨fb, -, -, -⟩ := slat_far hb
  have fg : Far j.glue := by have := hj.g0; have := hj.g1; have := hj.g2; unfold Far; omega
  have fl : Far j.lead := by have := hj.l0; have := hj.l1; have := hj.l2; unfold Far; omega
  have fh : Far j.height := by have := hj.h0; have := hj.h1; have := hj.h2; unfold Far; omega
  have HT1 : Hid (∀ W : World, Calls Try.prog 77 #[.agg #[.int .i64 b.thick.lo, .int .i64 b.thick.hi], .int .i64 (-1)] W (Ret (.agg #[.int .i64 (-1 * b.thick.hi), .int .i64 (-1 * b.thick.lo)]) W)) := Lib.hid fun W => by
    have h9 := times5_any b.thick (-1) W fb (by omega)
    have e : timesS (-1) b.thick = ⟨-1 * b.thick.hi, -1 * b.thick.lo⟩ := if_pos (by omega)
    rw [e] at h9
    exact h9
  have HT2 : Hid (∀ W : World, Calls Try.prog 77 #[.agg #[.int .i64 j.glue.lo, .int .i64 j.glue.hi], .int .i64 (-1)] W (Ret (.agg #[.int .i64 (-1 * j.glue.hi), .int .i64 (-1 * j.glue.lo)]) W)) := Lib.hid fun W => by
    have h9 := times5_any j.glue (-1) W fg (by omega)
    have e : timesS (-1) j.glue = ⟨-1 * j.glue.hi, -1 * j.glue.lo⟩ := if_pos (by omega)
    rw [e] at h9
    exact h9
  have HT3 : Hid (∀ W : World, Calls Try.prog 77 #[.agg #[.int .i64 a.depth.lo, .int .i64 a.depth.hi], .int .i64 (-2)] W (Ret (.agg #[.int .i64 (-2 * a.depth.hi), .int .i64 (-2 * a.depth.lo)]) W)) := Lib.hid fun W => by
    have h9 := times5_any a.depth (-2) W fd (by omega)
    have e : timesS (-2) a.depth = ⟨-2 * a.depth.hi, -2 * a.depth.lo⟩ := if_pos (by omega)
    rw [e] at h9
    exact h9
  have HT4 : Hid (∀ W : World, Calls Try.prog 77 #[.agg #[.int .i64 j.height.lo, .int .i64 j.height.hi], .int .i64 (-2)] W (Ret (.agg #[.int .i64 (-2 * j.height.hi), .int .i64 (-2 * j.height.lo)]) W)) := Lib.hid fun W => by
    have h9 := times5_any j.height (-2) W fh (by omega)
    have e : timesS (-2) j.height = ⟨-2 * j.height.hi, -2 * j.height.lo⟩ := if_pos (by omega)
    rw [e] at h9
    exact h9
  have hfs : ∀ s ∈ ([a.thick, ⟨-1 * b.thick.hi, -1 * b.thick.lo⟩, ⟨-1 * j.glue.hi, -1 * j.glue.lo⟩, ⟨-2 * a.depth.hi, -2 * a.depth.lo⟩, j.lead, ⟨-2 * j.height.hi, -2 * j.height.lo⟩] : List Span), Far s := by
    have h1 := ha.t0; have h2 := ha.t1; have h3 := ha.t2; have h4 := hb.t0; have h5 := hb.t1; have h6 := hb.t2; have h7 := ha.d0; have h8 := ha.d1; have h9 := ha.d2
    have g1 := hj.g0; have g2 := hj.g1; have g3 := hj.g2; have g4 := hj.l0; have g5 := hj.l1; have g6 := hj.l2; have g7 := hj.h0; have g8 := hj.h1; have g9 := hj.h2
    intro s hs
    simp only [List.mem_cons, List.not_mem_nil, or_false] at hs
    rcases hs with rfl | rfl | rfl | rfl | rfl | rfl <;> (unfold Far; (try dsimp only); omega)
  have HU : Hid (∀ W : World, Calls Try.prog 80 #[.slice (some ⟨W.heap.size, 0, none⟩) 6 6] (W.alloc (.cells #[.int .i64 a.thick.lo, .int .i64 a.thick.hi, .int .i64 (-1 * b.thick.hi), .int .i64 (-1 * b.thick.lo), .int .i64 (-1 * j.glue.hi), .int .i64 (-1 * j.glue.lo), .int .i64 (-2 * a.depth.hi), .int .i64 (-2 * a.depth.lo), .int .i64 j.lead.lo, .int .i64 j.lead.hi, .int .i64 (-2 * j.height.hi), .int .i64 (-2 * j.height.lo)] 99)) (Ret (.agg #[.int .i64 (heightS j a b).lo, .int .i64 (heightS j a b).hi]) (W.alloc (.cells #[.int .i64 a.thick.lo, .int .i64 a.thick.hi, .int .i64 (-1 * b.thick.hi), .int .i64 (-1 * b.thick.lo), .int .i64 (-1 * j.glue.hi), .int .i64 (-1 * j.glue.lo), .int .i64 (-2 * a.depth.hi), .int .i64 (-2 * a.depth.lo), .int .i64 j.lead.lo, .int .i64 j.lead.hi, .int .i64 (-2 * j.height.hi), .int .i64 (-2 * j.height.lo)] 99)))) := Lib.hid fun W => by
    have h9 := sum5_any (W.alloc (.cells #[.int .i64 a.thick.lo, .int .i64 a.thick.hi, .int .i64 (-1 * b.thick.hi), .int .i64 (-1 * b.thick.lo), .int .i64 (-1 * j.glue.hi), .int .i64 (-1 * j.glue.lo), .int .i64 (-2 * a.depth.hi), .int .i64 (-2 * a.depth.lo), .int .i64 j.lead.lo, .int .i64 j.lead.hi, .int .i64 (-2 * j.height.hi), .int .i64 (-2 * j.height.lo)] 99)) W.heap.size 0 6 [a.thick, ⟨-1 * b.thick.hi, -1 * b.thick.lo⟩, ⟨-1 * j.glue.hi, -1 * j.glue.lo⟩, ⟨-2 * a.depth.hi, -2 * a.depth.lo⟩, j.lead, ⟨-2 * j.height.hi, -2 * j.height.lo⟩] (by simp) (six_spans (Blk.new _ _ _)) (by simp) hfs
    have e : sumS [a.thick, ⟨-1 * b.thick.hi, -1 * b.thick.lo⟩, ⟨-1 * j.glue.hi, -1 * j.glue.lo⟩, ⟨-2 * a.depth.hi, -2 * a.depth.lo⟩, j.lead, ⟨-2 * j.height.hi, -2 * j.height.lo⟩] = heightS j a b := by simp [sumS, addS, heightS]; omega
    rw [e] at h9
    exact h9
  have hb0 : Below w.heap.size w ((w.alloc (.cells #[.int .i64 j.glue.lo, .int .i64 j.glue.hi, .int .i64 j.lead.lo, .int .i64 j.lead.hi, .int .i64 j.side.lo, .int .i64 j.side.hi, .int .i64 j.height.lo, .int .i64 j.height.hi, .int .i64 j.play, .int .i64 j.grooves, .int .i64 a.thick.lo, .int .i64 a.thick.hi, .int .i64 a.depth.lo, .int .i64 a.depth.hi, .int .i64 a.shift.lo, .int .i64 a.shift.hi, .int .i64 a.pitch.lo, .int .i64 a.pitch.hi, .int .i64 b.thick.lo, .int .i64 b.thick.hi, .int .i64 b.depth.lo, .int .i64 b.depth.hi, .int .i64 b.shift.lo, .int .i64 b.shift.hi, .int .i64 b.pitch.lo, .int .i64 b.pitch.hi] 95)).alloc (.cells #[.int .i64 0, .int .i64 0] 99)) := by repeat (first | exact Below.refl _ _ | assumption | refine Below.drew ?_ | refine Below.alloc ?_ (by first | omega | (simp only [World.size_alloc]; omega) | simp) _ | refine Below.setCell ?_ (by first | omega | (simp only [World.size_alloc]; omega) | simp) _)
  have hk0 : Blk ((w.alloc (.cells #[.int .i64 j.glue.lo, .int .i64 j.glue.hi, .int .i64 j.lead.lo, .int .i64 j.lead.hi, .int .i64 j.side.lo, .int .i64 j.side.hi, .int .i64 j.height.lo, .int .i64 j.height.hi, .int .i64 j.play, .int .i64 j.grooves, .int .i64 a.thick.lo, .int .i64 a.thick.hi, .int .i64 a.depth.lo, .int .i64 a.depth.hi, .int .i64 a.shift.lo, .int .i64 a.shift.hi, .int .i64 a.pitch.lo, .int .i64 a.pitch.hi, .int .i64 b.thick.lo, .int .i64 b.thick.hi, .int .i64 b.depth.lo, .int .i64 b.depth.hi, .int .i64 b.shift.lo, .int .i64 b.shift.hi, .int .i64 b.pitch.lo, .int .i64 b.pitch.hi] 95)).alloc (.cells #[.int .i64 0, .int .i64 0] 99)) w.heap.size 95 #[.int .i64 j.glue.lo, .int .i64 j.glue.hi, .int .i64 j.lead.lo, .int .i64 j.lead.hi, .int .i64 j.side.lo, .int .i64 j.side.hi, .int .i64 j.height.lo, .int .i64 j.height.hi, .int .i64 j.play, .int .i64 j.grooves, .int .i64 a.thick.lo, .int .i64 a.thick.hi, .int .i64 a.depth.lo, .int .i64 a.depth.hi, .int .i64 a.shift.lo, .int .i64 a.shift.hi, .int .i64 a.pitch.lo, .int .i64 a.pitch.hi, .int .i64 b.thick.lo, .int .i64 b.thick.hi, .int .i64 b.depth.lo, .int .i64 b.depth.hi, .int .i64 b.shift.lo, .int .i64 b.shift.hi, .int .i64 b.pitch.lo, .int .i64 b.pitch.hi] := (Blk.new _ _ _).alloc _
  have hk2 : Blk ((w.alloc (.cells #[.int .i64 j.glue.lo, .int .i64 j.glue.hi, .int .i64 j.lead.lo, .int .i64 j.lead.hi, .int .i64 j.side.lo, .int .i64 j.side.hi, .int .i64 j.height.lo, .int .i64 j.height.hi, .int .i64 j.play, .int .i64 j.grooves, .int .i64 a.thick.lo, .int .i64 a.thick.hi, .int .i64 a.depth.lo, .int .i64 a.depth.hi, .int .i64 a.shift.lo, .int .i64 a.shift.hi, .int .i64 a.pitch.lo, .int .i64 a.pitch.hi, .int .i64 b.thick.lo, .int .i64 b.thick.hi, .int .i64 b.depth.lo, .int .i64 b.depth.hi, .int .i64 b.shift.lo, .int .i64 b.shift.hi, .int .i64 b.pitch.lo, .int .i64 b.pitch.hi] 95)).alloc (.cells #[.int .i64 0, .int .i64 0] 99)) (w.heap.size + 1) 99 #[.int .i64 0, .int .i64 0] := blk5 _ _ (by simp) rfl
  generalize (heightS j a b).lo = flo at *
  generalize (heightS j a b).hi = fhi at *
  clear hfs fa fd fb fg fl fh
  generalize (-1 : Int) * b.thick.hi = p0 at *
  generalize (-1 : Int) * b.thick.lo = r0 at *
  generalize (-1 : Int) * j.glue.hi = p1 at *
  generalize (-1 : Int) * j.glue.lo = r1 at *
  generalize (-2 : Int) * a.depth.hi = p2 at *
  generalize (-2 : Int) * a.depth.lo = r2 at *
  generalize (-2 : Int) * j.height.hi = p3 at *
  generalize (-2 : Int) * j.height.lo = r3 at *
  go_enter Try.func78, Try.ntmps78
  go_wp2_with fail
  generalize World.alloc (World.alloc w _) _ = V at hb0 hk0 hk2 ⊢
  have HB2 := Lib.hid hb0.drew
  have M0 := Lib.hid hk0.drew
  have M2 := Lib.hid hk2.drew
  have hS0 : V.cell? ⟨w.heap.size, 10, none⟩ = some (.int .i64 a.thick.lo) ∧ V.cell? ⟨w.heap.size, 11, none⟩ = some (.int .i64 a.thick.hi) ∧ V.cell? ⟨w.heap.size, 18, none⟩ = some (.int .i64 b.thick.lo) ∧ V.cell? ⟨w.heap.size, 19, none⟩ = some (.int .i64 b.thick.hi) ∧ V.cell? ⟨w.heap.size, 0, none⟩ = some (.int .i64 j.glue.lo) ∧ V.cell? ⟨w.heap.size, 1, none⟩ = some (.int .i64 j.glue.hi) ∧ V.cell? ⟨w.heap.size, 12, none⟩ = some (.int .i64 a.depth.lo) ∧ V.cell? ⟨w.heap.size, 13, none⟩ = some (.int .i64 a.depth.hi) ∧ V.cell? ⟨w.heap.size, 2, none⟩ = some (.int .i64 j.lead.lo) ∧ V.cell? ⟨w.heap.size, 3, none⟩ = some (.int .i64 j.lead.hi) ∧ V.cell? ⟨w.heap.size, 6, none⟩ = some (.int .i64 j.height.lo) ∧ V.cell? ⟨w.heap.size, 7, none⟩ = some (.int .i64 j.height.hi) := ⟨hk0.cell 10, hk0.cell 11, hk0.cell 18, hk0.cell 19, hk0.cell 0, hk0.cell 1, hk0.cell 12, hk0.cell 13, hk0.cell 2, hk0.cell 3, hk0.cell 6, hk0.cell 7⟩
  clear hb0 hk0 hk2
  go_region_held3 (fun W => W.cell? ⟨w.heap.size, 10, none⟩ = some (.int .i64 a.thick.lo) ∧ W.cell? ⟨w.heap.size, 11, none⟩ = some (.int .i64 a.thick.hi) ∧ W.cell? ⟨w.heap.size, 18, none⟩ = some (.int .i64 b.thick.lo) ∧ W.cell? ⟨w.heap.size, 19, none⟩ = some (.int .i64 b.thick.hi) ∧ W.cell? ⟨w.heap.size, 0, none⟩ = some (.int .i64 j.glue.lo) ∧ W.cell? ⟨w.heap.size, 1, none⟩ = some (.int .i64 j.glue.hi) ∧ W.cell? ⟨w.heap.size, 12, none⟩ = some (.int .i64 a.depth.lo) ∧ W.cell? ⟨w.heap.size, 13, none⟩ = some (.int .i64 a.depth.hi) ∧ W.cell? ⟨w.heap.size, 2, none⟩ = some (.int .i64 j.lead.lo) ∧ W.cell? ⟨w.heap.size, 3, none⟩ = some (.int .i64 j.lead.hi) ∧ W.cell? ⟨w.heap.size, 6, none⟩ = some (.int .i64 j.height.lo) ∧ W.cell? ⟨w.heap.size, 7, none⟩ = some (.int .i64 j.height.hi))
    (first | exact hS0 | exact ⟨M0.out.cell 10, M0.out.cell 11, M0.out.cell 18, M0.out.cell 19, M0.out.cell 0, M0.out.cell 1, M0.out.cell 12, M0.out.cell 13, M0.out.cell 2, M0.out.cell 3, M0.out.cell 6, M0.out.cell 7⟩ | exact ⟨N0.out.cell 10, N0.out.cell 11, N0.out.cell 18, N0.out.cell 19, N0.out.cell 0, N0.out.cell 1, N0.out.cell 12, N0.out.cell 13, N0.out.cell 2, N0.out.cell 3, N0.out.cell 6, N0.out.cell 7⟩ | exact ⟨(M0.out.alloc _).cell 10, (M0.out.alloc _).cell 11, (M0.out.alloc _).cell 18, (M0.out.alloc _).cell 19, (M0.out.alloc _).cell 0, (M0.out.alloc _).cell 1, (M0.out.alloc _).cell 12, (M0.out.alloc _).cell 13, (M0.out.alloc _).cell 2, (M0.out.alloc _).cell 3, (M0.out.alloc _).cell 6, (M0.out.alloc _).cell 7⟩ | exact ⟨((N0.out.far (by simp) _).far (by simp) _).cell 10, ((N0.out.far (by simp) _).far (by simp) _).cell 11, ((N0.out.far (by simp) _).far (by simp) _).cell 18, ((N0.out.far (by simp) _).far (by simp) _).cell 19, ((N0.out.far (by simp) _).far (by simp) _).cell 0, ((N0.out.far (by simp) _).far (by simp) _).cell 1, ((N0.out.far (by simp) _).far (by simp) _).cell 12, ((N0.out.far (by simp) _).far (by simp) _).cell 13, ((N0.out.far (by simp) _).far (by simp) _).cell 2, ((N0.out.far (by simp) _).far (by simp) _).cell 3, ((N0.out.far (by simp) _).far (by simp) _).cell 6, ((N0.out.far (by simp) _).far (by simp) _).cell 7⟩ | assumption | fail "keep")
    (first
      | (go_at_call 77; (with_reducible refine (HT1.out _).mono ?_); rintro e W2 ⟨rfl, hb⟩; replace M0 := Lib.hid (M0.out.below hb M0.out.lt); replace M2 := Lib.hid (M2.out.below hb M2.out.lt); replace HB2 := Lib.hid (HB2.out.trans (hb.mono HB2.out.size)); clear hb)
      | (go_at_call 77; (with_reducible refine (HT2.out _).mono ?_); rintro e W2 ⟨rfl, hb⟩; replace M0 := Lib.hid (M0.out.below hb M0.out.lt); replace M2 := Lib.hid (M2.out.below hb M2.out.lt); replace HB2 := Lib.hid (HB2.out.trans (hb.mono HB2.out.size)); clear hb)
      | (go_at_call 77; (with_reducible refine (HT3.out _).mono ?_); rintro e W2 ⟨rfl, hb⟩; replace M0 := Lib.hid (M0.out.below hb M0.out.lt); replace M2 := Lib.hid (M2.out.below hb M2.out.lt); replace HB2 := Lib.hid (HB2.out.trans (hb.mono HB2.out.size)); clear hb)
      | (go_at_call 77; (with_reducible refine (HT4.out _).mono ?_); rintro e W2 ⟨rfl, hb⟩; replace M0 := Lib.hid (M0.out.below hb M0.out.lt); replace M2 := Lib.hid (M2.out.below hb M2.out.lt); replace HB2 := Lib.hid (HB2.out.trans (hb.mono HB2.out.size)); clear hb)
      | (go_at_call 80; (with_reducible refine (HU.out W2).mono ?_); rintro e W3 ⟨rfl, hb⟩; have N0 := Lib.hid ((M0.out.alloc _).below hb (M0.out.alloc _).lt); have N2 := Lib.hid ((M2.out.alloc _).below hb (M2.out.alloc _).lt); have HB3 := Lib.hid ((HB2.out.alloc HB2.out.size _).trans (hb.mono (HB2.out.alloc HB2.out.size _).size)); have y0 := N2.out.cell 0; have y1 := N2.out.cell 1; have z0 := N2.out.frozen 0; have z1 := N2.out.frozen 1; clear hb)
      | fail "no arm")
  go_wp2_with fail
  exact bodyPost_ret (results_blk rfl _ rfl ((N2.out.set_ 0 (.int .i64 flo)).set_ 1 (.int .i64 fhi)) (by kernel_rfl) (by kernel_rfl)) rfl ⟨rfl, (HB3.out.setCell (by simp) _).setCell (by simp) _⟩
end Go.Proofs.Ytfpfafijockfnaa
