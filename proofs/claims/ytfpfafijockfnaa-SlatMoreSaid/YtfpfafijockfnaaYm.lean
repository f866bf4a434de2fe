/- The law's alive: results that the document fixes. -/
import Derived.Test.YtfpfafijockfnaaYl
namespace Go.Proofs.Ytfpfafijockfnaa
open Go.RowKit Go.Shelf

structure AlS (w : World) (q : Nat) (V : World) : Prop where
  hb : Below w.heap.size w V
  hq : w.heap.size ≤ q
  k1 : Blk V q 37 #[.int .i64 5000, .int .i64 5010, .int .i64 1010, .int .i64 1020, .int .i64 0, .int .i64 4, .int .i64 1, .int .i64 2]
  k2 : Blk V (q + 1) 37 #[.int .i64 4980, .int .i64 4990, .int .i64 1000, .int .i64 1010, .int .i64 (-2), .int .i64 2, .int .i64 0, .int .i64 1]
  k3 : Blk V (q + 1 + 1) 37 #[.int .i64 4900, .int .i64 4910, .int .i64 1010, .int .i64 1020, .int .i64 0, .int .i64 4, .int .i64 1, .int .i64 2]
  k4 : Blk V (q + 1 + 1 + 1) 37 #[.int .i64 4880, .int .i64 4890, .int .i64 1000, .int .i64 1010, .int .i64 (-2), .int .i64 2, .int .i64 0, .int .i64 1]
theorem AlS.call {w : World} {q : Nat} {V V' : World} (h : AlS w q V) (hb : Below V.heap.size V V') : AlS w q V' := ⟨h.hb.trans (hb.mono h.hb.size), h.hq, h.k1.below hb h.k1.lt, h.k2.below hb h.k2.lt, h.k3.below hb h.k3.lt, h.k4.below hb h.k4.lt⟩
theorem AlS.low {w : World} {q : Nat} {V V' : World} (h : AlS w q V) (hb : Below (q + 1 + 1 + 1 + 1) V V') : AlS w q V' := ⟨h.hb.trans (hb.mono (by have := h.hq; omega)), h.hq, h.k1.below hb (by omega), h.k2.below hb (by omega), h.k3.below hb (by omega), h.k4.below hb (by omega)⟩
theorem AlS.start {w V : World} (hb : Below w.heap.size w V) : AlS w V.heap.size ((((V.alloc (.cells #[.int .i64 5000, .int .i64 5010, .int .i64 1010, .int .i64 1020, .int .i64 0, .int .i64 4, .int .i64 1, .int .i64 2] 37)).alloc (.cells #[.int .i64 4980, .int .i64 4990, .int .i64 1000, .int .i64 1010, .int .i64 (-2), .int .i64 2, .int .i64 0, .int .i64 1] 37)).alloc (.cells #[.int .i64 4900, .int .i64 4910, .int .i64 1010, .int .i64 1020, .int .i64 0, .int .i64 4, .int .i64 1, .int .i64 2] 37)).alloc (.cells #[.int .i64 4880, .int .i64 4890, .int .i64 1000, .int .i64 1010, .int .i64 (-2), .int .i64 2, .int .i64 0, .int .i64 1] 37)) :=
  ⟨hb.trans ((show Below V.heap.size V _ from by repeat (first | exact Below.refl _ _ | assumption | refine Below.drew ?_ | refine Below.alloc ?_ (by first | omega | (simp only [World.size_alloc]; omega) | simp) _ | refine Below.setCell ?_ (by first | omega | (simp only [World.size_alloc]; omega) | simp) _)).mono hb.size), hb.size, (((Blk.new _ _ _).alloc _).alloc _).alloc _, ((blk5 _ _ (by simp) rfl).alloc _).alloc _, (blk5 _ _ (by simp) rfl).alloc _, blk5 _ _ (by simp) rfl⟩
theorem offL_any (w : World) : Calls Try.prog 19 #[.agg #[.int .i64 10, .int .i64 20, .int .i64 2000, .int .i64 2020, .int .i64 (-5), .int .i64 5, .int .i64 (-10), .int .i64 10, .int .i64 40, .int .i64 3], .agg #[.int .i64 5000, .int .i64 5010, .int .i64 1010, .int .i64 1020, .int .i64 0, .int .i64 4, .int .i64 1, .int .i64 2], .agg #[.int .i64 4980, .int .i64 4990, .int .i64 1000, .int .i64 1010, .int .i64 (-2), .int .i64 2, .int .i64 0, .int .i64 1], .int .i64 1] w (Ret (.tuple #[.agg #[.int .i64 (-11), .int .i64 19], .agg #[.int .i64 (-70), .int .i64 40], .int .i64 0]) w) := by
  have h := off5_any jL aL bL 1 w
  rw [off_law.1, off_law.2.1, off_law.2.2] at h
  exact h
theorem cloL : cloN jL aL bL = 2 ∧ cloE jL aL bL = 0 := by decide +kernel
theorem closesL_any (w : World) : Calls Try.prog 22 #[.agg #[.int .i64 10, .int .i64 20, .int .i64 2000, .int .i64 2020, .int .i64 (-5), .int .i64 5, .int .i64 (-10), .int .i64 10, .int .i64 40, .int .i64 3], .agg #[.int .i64 5000, .int .i64 5010, .int .i64 1010, .int .i64 1020, .int .i64 0, .int .i64 4, .int .i64 1, .int .i64 2], .agg #[.int .i64 4980, .int .i64 4990, .int .i64 1000, .int .i64 1010, .int .i64 (-2), .int .i64 2, .int .i64 0, .int .i64 1]] w (Ret (.tuple #[.int .i64 2, .int .i64 0]) w) := by
  have h := closesN_any jL aL bL w
  rw [cloL.1, cloL.2] at h
  exact h
theorem graL_law : graL jL aL bL [36, 37, 50] = [0, 1, 1] := by decide +kernel
theorem gradesL_any (w : World) (g : Nat) (hg : Blk w g 3 #[.int .i64 36, .int .i64 37, .int .i64 50]) : Calls Try.prog 23 #[.agg #[.int .i64 10, .int .i64 20, .int .i64 2000, .int .i64 2020, .int .i64 (-5), .int .i64 5, .int .i64 (-10), .int .i64 10, .int .i64 40, .int .i64 3], .agg #[.int .i64 5000, .int .i64 5010, .int .i64 1010, .int .i64 1020, .int .i64 0, .int .i64 4, .int .i64 1, .int .i64 2], .agg #[.int .i64 4980, .int .i64 4990, .int .i64 1000, .int .i64 1010, .int .i64 (-2), .int .i64 2, .int .i64 0, .int .i64 1], .slice (some ⟨g, 0, none⟩) 3 3] w (RetGr [0, 1, 1] 0 w) := by
  have h := grades5_any jL aL bL (some ⟨g, 0, none⟩) 3 [36, 37, 50] w (by simp) (fun _ => ⟨g, 0, rfl, hg.lt, fun j hj => by
    have hx : j = 0 ∨ j = 1 ∨ j = 2 := by simp at hj; omega
    rcases hx with rfl | rfl | rfl
    · exact hg.cell 0
    · exact hg.cell 1
    · exact hg.cell 2⟩)
  rw [graL_law, grades_law.2] at h
  exact h
theorem slats2 {w : World} {g : Nat} {a b : Slat} (hg : Blk w g 37 #[.int .i64 a.thick.lo, .int .i64 a.thick.hi, .int .i64 a.depth.lo, .int .i64 a.depth.hi, .int .i64 a.shift.lo, .int .i64 a.shift.hi, .int .i64 a.pitch.lo, .int .i64 a.pitch.hi, .int .i64 b.thick.lo, .int .i64 b.thick.hi, .int .i64 b.depth.lo, .int .i64 b.depth.hi, .int .i64 b.shift.lo, .int .i64 b.shift.hi, .int .i64 b.pitch.lo, .int .i64 b.pitch.hi]) : SlatSl w w.heap.size (some ⟨g, 0, none⟩) [a, b] := fun _ => ⟨g, 0, rfl, hg.lt, fun i hi => by
  have hx : i = 0 ∨ i = 1 := by simp at hi; omega
  rcases hx with rfl | rfl
  · exact ⟨hg.cell 0, hg.cell 1, hg.cell 2, hg.cell 3, hg.cell 4, hg.cell 5, hg.cell 6, hg.cell 7⟩
  · exact ⟨hg.cell 8, hg.cell 9, hg.cell 10, hg.cell 11, hg.cell 12, hg.cell 13, hg.cell 14, hg.cell 15⟩⟩
theorem slats1 {w : World} {g : Nat} {a : Slat} (hg : Blk w g 37 #[.int .i64 a.thick.lo, .int .i64 a.thick.hi, .int .i64 a.depth.lo, .int .i64 a.depth.hi, .int .i64 a.shift.lo, .int .i64 a.shift.hi, .int .i64 a.pitch.lo, .int .i64 a.pitch.hi]) : SlatSl w w.heap.size (some ⟨g, 0, none⟩) [a] := fun _ => ⟨g, 0, rfl, hg.lt, fun i hi => by
  obtain rfl : i = 0 := by simp at hi; omega
  exact ⟨hg.cell 0, hg.cell 1, hg.cell 2, hg.cell 3, hg.cell 4, hg.cell 5, hg.cell 6, hg.cell 7⟩⟩
theorem pairL_any (w : World) (g h : Nat) (hg : Blk w g 37 #[.int .i64 5000, .int .i64 5010, .int .i64 1010, .int .i64 1020, .int .i64 0, .int .i64 4, .int .i64 1, .int .i64 2, .int .i64 4900, .int .i64 4910, .int .i64 1010, .int .i64 1020, .int .i64 0, .int .i64 4, .int .i64 1, .int .i64 2]) (hh : Blk w h 37 #[.int .i64 4880, .int .i64 4890, .int .i64 1000, .int .i64 1010, .int .i64 (-2), .int .i64 2, .int .i64 0, .int .i64 1, .int .i64 4980, .int .i64 4990, .int .i64 1000, .int .i64 1010, .int .i64 (-2), .int .i64 2, .int .i64 0, .int .i64 1]) : Calls Try.prog 13 #[.agg #[.int .i64 10, .int .i64 20, .int .i64 2000, .int .i64 2020, .int .i64 (-5), .int .i64 5, .int .i64 (-10), .int .i64 10, .int .i64 40, .int .i64 3], .slice (some ⟨g, 0, none⟩) 2 2, .slice (some ⟨h, 0, none⟩) 2 2, .int .i64 37] w (fun e w' => ∃ A c, e = .returned (.tuple #[.slice A 2 c, .int .i64 6, .int .i64 0]) ∧ PlanAt w' (.slice A 2 c) [1, 0] ∧ Below w.heap.size w w') := by
  have h9 := pairW_any w (some ⟨g, 0, none⟩) (some ⟨h, 0, none⟩) 2 2 jL [aL, cL] [dL, bL] 37 (by simp) (by simp) (slats2 hg) (slats2 hh)
  rw [pair_law] at h9
  exact h9
theorem tuneL_any (w : World) (g h : Nat) (hg : Blk w g 37 #[.int .i64 5000, .int .i64 5010, .int .i64 1010, .int .i64 1020, .int .i64 0, .int .i64 4, .int .i64 1, .int .i64 2]) (hh : Blk w h 37 #[.int .i64 4980, .int .i64 4990, .int .i64 1000, .int .i64 1010, .int .i64 (-2), .int .i64 2, .int .i64 0, .int .i64 1]) : Calls Try.prog 15 #[.agg #[.int .i64 10, .int .i64 20, .int .i64 2000, .int .i64 2020, .int .i64 (-5), .int .i64 5, .int .i64 (-10), .int .i64 10, .int .i64 40, .int .i64 3], .slice (some ⟨g, 0, none⟩) 1 1, .slice (some ⟨h, 0, none⟩) 1 1, .int .i64 30] w (Ret (.tuple #[.int .i64 1, .int .i64 (-7), .int .i64 3, .int .i64 0]) w) := by
  have h9 := tuneW_any w (some ⟨g, 0, none⟩) (some ⟨h, 0, none⟩) 1 1 jL [aL] [bL] 30 (by simp) (by simp) (slats1 hg) (slats1 hh)
  rw [tune_law] at h9
  exact h9
end Go.Proofs.Ytfpfafijockfnaa