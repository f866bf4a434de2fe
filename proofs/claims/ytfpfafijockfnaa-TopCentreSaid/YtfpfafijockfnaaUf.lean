/- The inputs of a law read: slats and jigs. -/
import Derived.Test.YtfpfafijockfnaaSo
import Derived.Test.YtfpfafijockfnaaSm
namespace Go.Proofs.Ytfpfafijockfnaa.Inp
open Go.RowKit Go.Shelf Go.ChangeShapes Go.WideShapes Go.Deep Go.ChangeAt Go.Joins

theorem und_slat : Try.prog.underlying 37 = some (.struct #[⟨"Thick", 23, 0, false, "", "", 0⟩, ⟨"Depth", 23, 2, false, "", "", 16⟩, ⟨"Shift", 23, 4, false, "", "", 32⟩, ⟨"Pitch", 23, 6, false, "", "", 48⟩]) := by kernel_rfl
theorem und_jig : Try.prog.underlying 25 = some (.struct #[⟨"Glue", 23, 0, false, "", "", 0⟩, ⟨"Lead", 23, 2, false, "", "", 16⟩, ⟨"Side", 23, 4, false, "", "", 32⟩, ⟨"Height", 23, 6, false, "", "", 48⟩, ⟨"Play", 3, 8, false, "", "", 64⟩, ⟨"Grooves", 3, 9, false, "", "", 72⟩]) := by kernel_rfl
theorem cells_slat : Try.prog.cellsOf 37 = 8 := by kernel_rfl
theorem cells_jig : Try.prog.cellsOf 25 = 10 := by kernel_rfl
theorem len8 {α : Type} : ∀ {l : List α}, l.length = 8 → ∃ a b c d e f g h, l = [a, b, c, d, e, f, g, h]
  | [a, b, c, d, e, f, g, h], _ => ⟨a, b, c, d, e, f, g, h, rfl⟩
theorem len10 {α : Type} : ∀ {l : List α}, l.length = 10 → ∃ a b c d e f g h i j, l = [a, b, c, d, e, f, g, h, i, j]
  | [a, b, c, d, e, f, g, h, i, j], _ => ⟨a, b, c, d, e, f, g, h, i, j, rfl⟩
section
variable {H : Type} {enc : TypeId × Value → H} {w : World} {base : Nat} {spare : Nat → Bool} {held : Bool}
theorem slat_cells {fuel : Nat} {cs : List Value} {x : DataW H × List MemPlace} (h : DataW.trod enc Try.prog w base spare held fuel 37 cs = some x) :
    ∃ s : Slat, cs = [.int .i64 s.thick.lo, .int .i64 s.thick.hi, .int .i64 s.depth.lo, .int .i64 s.depth.hi, .int .i64 s.shift.lo, .int .i64 s.shift.hi, .int .i64 s.pitch.lo, .int .i64 s.pitch.hi] := by
  obtain ⟨xs, n, -, -, hlen, hxl, hf⟩ := DataW.trod_struct und_slat h
  rw [cells_slat] at hlen
  have h0 : DataW.trod enc Try.prog w base spare held n 23 ((cs.drop 0).take (Try.prog.cellsOf 23)) = xs[0]? := hf 0 _ rfl
  have h1 : DataW.trod enc Try.prog w base spare held n 23 ((cs.drop 2).take (Try.prog.cellsOf 23)) = xs[1]? := hf 1 _ rfl
  have h2 : DataW.trod enc Try.prog w base spare held n 23 ((cs.drop 4).take (Try.prog.cellsOf 23)) = xs[2]? := hf 2 _ rfl
  have h3 : DataW.trod enc Try.prog w base spare held n 23 ((cs.drop 6).take (Try.prog.cellsOf 23)) = xs[3]? := hf 3 _ rfl
  rw [cells_span] at h0 h1 h2 h3
  have e0 : xs[0]? = some (xs[0]'(by simp [hxl])) := List.getElem?_eq_getElem _
  have e1 : xs[1]? = some (xs[1]'(by simp [hxl])) := List.getElem?_eq_getElem _
  have e2 : xs[2]? = some (xs[2]'(by simp [hxl])) := List.getElem?_eq_getElem _
  have e3 : xs[3]? = some (xs[3]'(by simp [hxl])) := List.getElem?_eq_getElem _
  obtain ⟨a0, a1, ea⟩ := span_cells (h0.trans e0)
  obtain ⟨b0, b1, eb⟩ := span_cells (h1.trans e1)
  obtain ⟨c0, c1, ec⟩ := span_cells (h2.trans e2)
  obtain ⟨d0, d1, ed⟩ := span_cells (h3.trans e3)
  obtain ⟨x0, x1, x2, x3, x4, x5, x6, x7, rfl⟩ := len8 hlen
  simp only [List.drop_zero, List.drop_succ_cons, List.take_succ_cons, List.take_zero, List.cons.injEq, and_true] at ea eb ec ed
  obtain ⟨rfl, rfl⟩ := ea
  obtain ⟨rfl, rfl⟩ := eb
  obtain ⟨rfl, rfl⟩ := ec
  obtain ⟨rfl, rfl⟩ := ed
  exact ⟨⟨⟨a0, a1⟩, ⟨b0, b1⟩, ⟨c0, c1⟩, ⟨d0, d1⟩⟩, rfl⟩
theorem jig_cells {fuel : Nat} {cs : List Value} {x : DataW H × List MemPlace} (h : DataW.trod enc Try.prog w base spare held fuel 25 cs = some x) :
    ∃ j : Jig, cs = [.int .i64 j.glue.lo, .int .i64 j.glue.hi, .int .i64 j.lead.lo, .int .i64 j.lead.hi, .int .i64 j.side.lo, .int .i64 j.side.hi, .int .i64 j.height.lo, .int .i64 j.height.hi, .int .i64 j.play, .int .i64 j.grooves] := by
  obtain ⟨xs, n, -, -, hlen, hxl, hf⟩ := DataW.trod_struct und_jig h
  rw [cells_jig] at hlen
  have h0 : DataW.trod enc Try.prog w base spare held n 23 ((cs.drop 0).take (Try.prog.cellsOf 23)) = xs[0]? := hf 0 _ rfl
  have h1 : DataW.trod enc Try.prog w base spare held n 23 ((cs.drop 2).take (Try.prog.cellsOf 23)) = xs[1]? := hf 1 _ rfl
  have h2 : DataW.trod enc Try.prog w base spare held n 23 ((cs.drop 4).take (Try.prog.cellsOf 23)) = xs[2]? := hf 2 _ rfl
  have h3 : DataW.trod enc Try.prog w base spare held n 23 ((cs.drop 6).take (Try.prog.cellsOf 23)) = xs[3]? := hf 3 _ rfl
  have h4 : DataW.trod enc Try.prog w base spare held n 3 ((cs.drop 8).take (Try.prog.cellsOf 3)) = xs[4]? := hf 4 _ rfl
  have h5 : DataW.trod enc Try.prog w base spare held n 3 ((cs.drop 9).take (Try.prog.cellsOf 3)) = xs[5]? := hf 5 _ rfl
  rw [cells_span] at h0 h1 h2 h3
  rw [cells_int] at h4 h5
  have e0 : xs[0]? = some (xs[0]'(by simp [hxl])) := List.getElem?_eq_getElem _
  have e1 : xs[1]? = some (xs[1]'(by simp [hxl])) := List.getElem?_eq_getElem _
  have e2 : xs[2]? = some (xs[2]'(by simp [hxl])) := List.getElem?_eq_getElem _
  have e3 : xs[3]? = some (xs[3]'(by simp [hxl])) := List.getElem?_eq_getElem _
  have e4 : xs[4]? = some (xs[4]'(by simp [hxl])) := List.getElem?_eq_getElem _
  have e5 : xs[5]? = some (xs[5]'(by simp [hxl])) := List.getElem?_eq_getElem _
  obtain ⟨a0, a1, ea⟩ := span_cells (h0.trans e0)
  obtain ⟨b0, b1, eb⟩ := span_cells (h1.trans e1)
  obtain ⟨c0, c1, ec⟩ := span_cells (h2.trans e2)
  obtain ⟨d0, d1, ed⟩ := span_cells (h3.trans e3)
  obtain ⟨p0, ep, -, -⟩ := DataW.trod_int und_int (h4.trans e4)
  obtain ⟨g0, eg, -, -⟩ := DataW.trod_int und_int (h5.trans e5)
  obtain ⟨x0, x1, x2, x3, x4, x5, x6, x7, x8, x9, rfl⟩ := len10 hlen
  simp only [List.drop_zero, List.drop_succ_cons, List.take_succ_cons, List.take_zero, List.cons.injEq, and_true] at ea eb ec ed ep eg
  obtain ⟨rfl, rfl⟩ := ea
  obtain ⟨rfl, rfl⟩ := eb
  obtain ⟨rfl, rfl⟩ := ec
  obtain ⟨rfl, rfl⟩ := ed
  subst ep eg
  exact ⟨⟨⟨a0, a1⟩, ⟨b0, b1⟩, ⟨c0, c1⟩, ⟨d0, d1⟩, p0, g0⟩, rfl⟩
set_option maxRecDepth 100000 in
theorem open_slat {d : DataW H} {p : List MemPlace} {v : Value} {r : Go.Reach} {b0 : Nat} (hval : Value.okWide Try.prog w r b0 37 v) (h : DataW.Trod enc Try.prog w base spare held 37 v d p) :
    ∃ s : Slat, v = .agg #[.int .i64 s.thick.lo, .int .i64 s.thick.hi, .int .i64 s.depth.lo, .int .i64 s.depth.hi, .int .i64 s.shift.lo, .int .i64 s.shift.hi, .int .i64 s.pitch.lo, .int .i64 s.pitch.hi] := by
  obtain ⟨cs, rfl, hsz⟩ := okWide_struct und_slat hval
  obtain ⟨fuel, hf⟩ := h
  obtain ⟨s, hs⟩ := slat_cells hf
  refine ⟨s, ?_⟩
  cases cs
  simp only [Value.cells] at hs
  rw [hs]
set_option maxRecDepth 100000 in
theorem open_jig {d : DataW H} {p : List MemPlace} {v : Value} {r : Go.Reach} {b0 : Nat} (hval : Value.okWide Try.prog w r b0 25 v) (h : DataW.Trod enc Try.prog w base spare held 25 v d p) :
    ∃ j : Jig, v = .agg #[.int .i64 j.glue.lo, .int .i64 j.glue.hi, .int .i64 j.lead.lo, .int .i64 j.lead.hi, .int .i64 j.side.lo, .int .i64 j.side.hi, .int .i64 j.height.lo, .int .i64 j.height.hi, .int .i64 j.play, .int .i64 j.grooves] := by
  obtain ⟨cs, rfl, hsz⟩ := okWide_struct und_jig hval
  obtain ⟨fuel, hf⟩ := h
  obtain ⟨s, hs⟩ := jig_cells hf
  refine ⟨s, ?_⟩
  cases cs
  simp only [Value.cells] at hs
  rw [hs]
end
end Go.Proofs.Ytfpfafijockfnaa.Inp
