/- SlatMore returns true, whatever the input: with narrower spans a lead lies off by no more, no grade is worse, and a sandwich that always closes still does; of slats that change places the lead lies off to the side by the same; with one slat more, or a greater limit, Pair centres no fewer leads, and the order of upper slats makes no difference to how many.  No conditions. -/
import Derived.Test.YtfpfafijockfnaaSo
import Derived.Test.YtfpfafijockfnaaSm
import Derived.Test.YtfpfafijockfnaaWq
import Derived.Test.YtfpfafijockfnaaRows
namespace Go.Proofs.Ytfpfafijockfnaa.Inp
open Go.RowKit Go.Shelf Go.ChangeShapes Go.WideShapes Go.Deep Go.ChangeAt Go.Joins

theorem und_slat : Try.prog.underlying 37 = some (.struct #[⟨"Thick", 23, 0, false, "", "", 0⟩, ⟨"Depth", 23, 2, false, "", "", 16⟩, ⟨"Shift", 23, 4, false, "", "", 32⟩, ⟨"Pitch", 23, 6, false, "", "", 48⟩]) := by kernel_rfl
theorem und_jig : Try.prog.underlying 25 = some (.struct #[⟨"Glue", 23, 0, false, "", "", 0⟩, ⟨"Lead", 23, 2, false, "", "", 16⟩, ⟨"Side", 23, 4, false, "", "", 32⟩, ⟨"Height", 23, 6, false, "", "", 48⟩, ⟨"Play", 3, 8, false, "", "", 64⟩, ⟨"Grooves", 3, 9, false, "", "", 72⟩]) := by kernel_rfl
theorem cells_slat : Try.prog.cellsOf 37 = 8 := by kernel_rfl
theorem cells_jig : Try.prog.cellsOf 25 = 10 := by kernel_rfl
theorem len8 {α : Type} : ∀ {l : List α}, l.length = 8 → ∃ a b c d e f g h, l = [a, b, c, d, e, f, g, h]
  | [a, b, c, d, e, f, g, h], _ => ⟨a, b, c, d, e, f, g, h, rfl⟩
theorem len10 {α : Type} : ∀ {l : List α}, l.length = 10 → ∃ a b c d e f g h i j, l = [a, b, c, d, e, f, g, h, i, j]
  | [a, b, c, d, e, f, g, h, i, j], _ => ⟨a, b, c, d, e, f, g, h, i, j, rfl⟩
section
variable {H : Type} {enc : TypeId × Value → H} {w : World} {base : Nat} {spare : Nat → Bool} {held : Bool}
theorem slat_cells {fuel : Nat} {cs : List Value} {x : DataW H × List MemPlace} (h : DataW.trod enc Try.prog w base spare held fuel 37 cs = some x) :
    ∃ s : Slat, cs = [.int .i64 s.thick.lo, .int .i64 s.thick.hi, .int .i64 s.depth.lo, .int .i64 s.depth.hi, .int .i64 s.shift.lo, .int .i64 s.shift.hi, .int .i64 s.pitch.lo, .int .i64 s.pitch.hi] := by
  obtain ⟨xs, n, -, -, hlen, hxl, hf⟩ := DataW.trod_struct und_slat h
  rw [cells_slat] at hlen
  have h0 : DataW.trod enc Try.prog w base spare held n 23 ((cs.drop 0).take (Try.prog.cellsOf 23)) = xs[0]? := hf 0 _ rfl
  have h1 : DataW.trod enc Try.prog w base spare held n 23 ((cs.drop 2).take (Try.prog.cellsOf 23)) = xs[1]? := hf 1 _ rfl
  have h2 : DataW.trod enc Try.prog w base spare held n 23 ((cs.drop 4).take (Try.prog.cellsOf 23)) = xs[2]? := hf 2 _ rfl
  have h3 : DataW.trod enc Try.prog w base spare held n 23 ((cs.drop 6).take (Try.prog.cellsOf 23)) = xs[3]? := hf 3 _ rfl
  rw [cells_span] at h0 h1 h2 h3
  have e0 : xs[0]? = some (xs[0]'(by simp [hxl])) := List.getElem?_eq_getElem _
  have e1 : xs[1]? = some (xs[1]'(by simp [hxl])) := List.getElem?_eq_getElem _
  have e2 : xs[2]? = some (xs[2]'(by simp [hxl])) := List.getElem?_eq_getElem _
  have e3 : xs[3]? = some (xs[3]'(by simp [hxl])) := List.getElem?_eq_getElem _
  obtain ⟨a0, a1, ea⟩ := span_cells (h0.trans e0)
  obtain ⟨b0, b1, eb⟩ := span_cells (h1.trans e1)
  obtain ⟨c0, c1, ec⟩ := span_cells (h2.trans e2)
  obtain ⟨d0, d1, ed⟩ := span_cells (h3.trans e3)
  obtain ⟨x0, x1, x2, x3, x4, x5, x6, x7, rfl⟩ := len8 hlen
  simp only [List.drop_zero, List.drop_succ_cons, List.take_succ_cons, List.take_zero, List.cons.injEq, and_true] at ea eb ec ed
  obtain ⟨rfl, rfl⟩ := ea
  obtain ⟨rfl, rfl⟩ := eb
  obtain ⟨rfl, rfl⟩ := ec
  obtain ⟨rfl, rfl⟩ := ed
  exact ⟨⟨⟨a0, a1⟩, ⟨b0, b1⟩, ⟨c0, c1⟩, ⟨d0, d1⟩⟩, rfl⟩
theorem jig_cells {fuel : Nat} {cs : List Value} {x : DataW H × List MemPlace} (h : DataW.trod enc Try.prog w base spare held fuel 25 cs = some x) :
    ∃ j : Jig, cs = [.int .i64 j.glue.lo, .int .i64 j.glue.hi, .int .i64 j.lead.lo, .int .i64 j.lead.hi, .int .i64 j.side.lo, .int .i64 j.side.hi, .int .i64 j.height.lo, .int .i64 j.height.hi, .int .i64 j.play, .int .i64 j.grooves] := by
  obtain ⟨xs, n, -, -, hlen, hxl, hf⟩ := DataW.trod_struct und_jig h
  rw [cells_jig] at hlen
  have h0 : DataW.trod enc Try.prog w base spare held n 23 ((cs.drop 0).take (Try.prog.cellsOf 23)) = xs[0]? := hf 0 _ rfl
  have h1 : DataW.trod enc Try.prog w base spare held n 23 ((cs.drop 2).take (Try.prog.cellsOf 23)) = xs[1]? := hf 1 _ rfl
  have h2 : DataW.trod enc Try.prog w base spare held n 23 ((cs.drop 4).take (Try.prog.cellsOf 23)) = xs[2]? := hf 2 _ rfl
  have h3 : DataW.trod enc Try.prog w base spare held n 23 ((cs.drop 6).take (Try.prog.cellsOf 23)) = xs[3]? := hf 3 _ rfl
  have h4 : DataW.trod enc Try.prog w base spare held n 3 ((cs.drop 8).take (Try.prog.cellsOf 3)) = xs[4]? := hf 4 _ rfl
  have h5 : DataW.trod enc Try.prog w base spare held n 3 ((cs.drop 9).take (Try.prog.cellsOf 3)) = xs[5]? := hf 5 _ rfl
  rw [cells_span] at h0 h1 h2 h3
  rw [cells_int] at h4 h5
  have e0 : xs[0]? = some (xs[0]'(by simp [hxl])) := List.getElem?_eq_getElem _
  have e1 : xs[1]? = some (xs[1]'(by simp [hxl])) := List.getElem?_eq_getElem _
  have e2 : xs[2]? = some (xs[2]'(by simp [hxl])) := List.getElem?_eq_getElem _
  have e3 : xs[3]? = some (xs[3]'(by simp [hxl])) := List.getElem?_eq_getElem _
  have e4 : xs[4]? = some (xs[4]'(by simp [hxl])) := List.getElem?_eq_getElem _
  have e5 : xs[5]? = some (xs[5]'(by simp [hxl])) := List.getElem?_eq_getElem _
  obtain ⟨a0, a1, ea⟩ := span_cells (h0.trans e0)
  obtain ⟨b0, b1, eb⟩ := span_cells (h1.trans e1)
  obtain ⟨c0, c1, ec⟩ := span_cells (h2.trans e2)
  obtain ⟨d0, d1, ed⟩ := span_cells (h3.trans e3)
  obtain ⟨p0, ep, -, -⟩ := DataW.trod_int und_int (h4.trans e4)
  obtain ⟨g0, eg, -, -⟩ := DataW.trod_int und_int (h5.trans e5)
  obtain ⟨x0, x1, x2, x3, x4, x5, x6, x7, x8, x9, rfl⟩ := len10 hlen
  simp only [List.drop_zero, List.drop_succ_cons, List.take_succ_cons, List.take_zero, List.cons.injEq, and_true] at ea eb ec ed ep eg
  obtain ⟨rfl, rfl⟩ := ea
  obtain ⟨rfl, rfl⟩ := eb
  obtain ⟨rfl, rfl⟩ := ec
  obtain ⟨rfl, rfl⟩ := ed
  subst ep eg
  exact ⟨⟨⟨a0, a1⟩, ⟨b0, b1⟩, ⟨c0, c1⟩, ⟨d0, d1⟩, p0, g0⟩, rfl⟩
set_option maxRecDepth 100000 in
theorem open_slat {d : DataW H} {p : List MemPlace} {v : Value} {r : Go.Reach} {b0 : Nat} (hval : Value.okWide Try.prog w r b0 37 v) (h : DataW.Trod enc Try.prog w base spare held 37 v d p) :
    ∃ s : Slat, v = .agg #[.int .i64 s.thick.lo, .int .i64 s.thick.hi, .int .i64 s.depth.lo, .int .i64 s.depth.hi, .int .i64 s.shift.lo, .int .i64 s.shift.hi, .int .i64 s.pitch.lo, .int .i64 s.pitch.hi] := by
  obtain ⟨cs, rfl, hsz⟩ := okWide_struct und_slat hval
  obtain ⟨fuel, hf⟩ := h
  obtain ⟨s, hs⟩ := slat_cells hf
  refine ⟨s, ?_⟩
  cases cs
  simp only [Value.cells] at hs
  rw [hs]
set_option maxRecDepth 100000 in
theorem open_jig {d : DataW H} {p : List MemPlace} {v : Value} {r : Go.Reach} {b0 : Nat} (hval : Value.okWide Try.prog w r b0 25 v) (h : DataW.Trod enc Try.prog w base spare held 25 v d p) :
    ∃ j : Jig, v = .agg #[.int .i64 j.glue.lo, .int .i64 j.glue.hi, .int .i64 j.lead.lo, .int .i64 j.lead.hi, .int .i64 j.side.lo, .int .i64 j.side.hi, .int .i64 j.height.lo, .int .i64 j.height.hi, .int .i64 j.play, .int .i64 j.grooves] := by
  obtain ⟨cs, rfl, hsz⟩ := okWide_struct und_jig hval
  obtain ⟨fuel, hf⟩ := h
  obtain ⟨s, hs⟩ := jig_cells hf
  refine ⟨s, ?_⟩
  cases cs
  simp only [Value.cells] at hs
  rw [hs]
end
end Go.Proofs.Ytfpfafijockfnaa.Inp
namespace Go.Proofs.Ytfpfafijockfnaa.Inp
open Go.RowKit Go.Shelf Go.ChangeShapes Go.WideShapes Go.Deep Go.ChangeAt Go.Joins

theorem und_slats : Try.prog.underlying 26 = some (.slice 37) := by kernel_rfl
theorem und_u8' : Try.prog.underlying 5 = some (.int .u8) := by kernel_rfl
theorem u8_bd {t : Int} (hwf : (Lit.int .u8 t).wf = true) : 0 ≤ t ∧ t ≤ 255 := by
  simp only [Lit.wf] at hwf
  simpa [IntKind.min, IntKind.max, IntKind.signed, IntKind.bits] using hwf
section
variable {H : Type} {enc : TypeId × Value → H} {w : World} {base : Nat} {spare : Nat → Bool} {held : Bool}
set_option maxRecDepth 100000 in
theorem open_slatsN {d : DataW H} {p : List MemPlace} {v : Value} {r : Go.Reach} {b0 : Nat} (hval : Value.okWide Try.prog w r b0 26 v) (h : DataW.Trod enc Try.prog w base spare held 26 v d p) :
    ∃ (A : Option Addr) (c : Nat) (l : List Slat), v = .slice A l.length c ∧ l.length ≤ 9223372036854775807 ∧ SlatSl w w.heap.size A l ∧ (A = none → l.length = 0 ∧ c = 0) := by
  obtain ⟨a0, len, cap, rfl⟩ := okWide_slice und_slats hval
  obtain ⟨fuel, hf⟩ := h
  rcases open_slice und_slats hf with ⟨hcs, hx⟩ | ⟨a, len', cap', m, n, D, Pl, hcs, hb, hl, hm, hmm, hx, hi⟩
  · simp [Value.cells] at hcs
    obtain ⟨rfl, rfl, rfl⟩ := hcs
    exact ⟨none, 0, [], rfl, Nat.zero_le _, fun h => absurd rfl h, fun _ => ⟨rfl, rfl⟩⟩
  · simp [Value.cells] at hcs
    obtain ⟨rfl, rfl, rfl⟩ := hcs
    have hlm : len ≤ m := by rw [hmm]; split <;> omega
    have hx : ∀ i, ∃ s : Slat, i < len → ∀ (j : Nat) (v : Value), ([.int .i64 s.thick.lo, .int .i64 s.thick.hi, .int .i64 s.depth.lo, .int .i64 s.depth.hi, .int .i64 s.shift.lo, .int .i64 s.shift.hi, .int .i64 s.pitch.lo, .int .i64 s.pitch.hi] : List Value)[j]? = some v → w.cell? ((a.add (i * 8)).add j) = some v := by
      intro i
      by_cases hil : i < len
      · obtain ⟨cs', hc, ht⟩ := hi i (by omega)
        rw [cells_slat] at hc
        obtain ⟨s, rfl⟩ := slat_cells ht
        obtain ⟨_, _, hat⟩ := World.cells?_some hc
        refine ⟨s, fun _ j v hj => ?_⟩
        have hj8 : j < 8 := by
          have := (List.getElem?_eq_some_iff.1 hj).1
          simpa using this
        rw [hat j hj8, hj]
      · exact ⟨⟨⟨0, 0⟩, ⟨0, 0⟩, ⟨0, 0⟩, ⟨0, 0⟩⟩, fun h => absurd h hil⟩
    obtain ⟨f, hf'⟩ := Classical.axiomOfChoice hx
    have hlen : ((List.range len).map f).length = len := by simp
    refine ⟨some a, cap, (List.range len).map f, by rw [hlen], by rw [hlen]; have : maxLen ≤ 9223372036854775807 := (by unfold maxLen; omega); omega, fun hne => ?_, fun h => by cases h⟩
    have h0 : 0 < len := by
      rcases Nat.eq_zero_or_pos len with e | e
      · subst e; exact absurd rfl hne
      · exact e
    obtain ⟨b, off, spot⟩ := a
    obtain ⟨hs, hlt⟩ := cell_old (hf' 0 h0 0 _ rfl)
    simp only [Addr.add] at hs hlt
    have hsp : spot = none := by simpa using hs
    subst hsp
    refine ⟨b, off, rfl, by simpa using hlt, fun i hi' => ?_⟩
    have hil : i < len := by simpa using hi'
    have hg : ((List.range len).map f)[i]'hi' = f i := by simp
    rw [hg]
    have hc := hf' i hil
    simp only [add_at] at hc
    exact ⟨hc 0 _ rfl, hc 1 _ rfl, hc 2 _ rfl, hc 3 _ rfl, hc 4 _ rfl, hc 5 _ rfl, hc 6 _ rfl, hc 7 _ rfl⟩
end
end Go.Proofs.Ytfpfafijockfnaa.Inp
namespace Go.Proofs.Ytfpfafijockfnaa
open Go.ChangeShapes Go.WideShapes Go.ChangeAt Go.RowKit Go.Joins Go.Deep

theorem params_more : Try.f9.params = #[25, 37, 37, 27, 26, 26, 3, 5] := by kernel_rfl
set_option maxRecDepth 100000 in
theorem more_lifted (os : Os) (started : os.Started) (H : Type) (enc : TypeId × Value → H) :
    ReturnsInHanded {} Try.checked os 9 .any (Rows.slatMoreSpec.pre6 enc Try.prog Try.f9 Rows.slatMoreRow.domain false) (Rows.slatMoreSpec.post enc Try.prog Try.f9 false true false false) := by
  refine returnsInHanded_of_change (C := Try.checked) Inp.own started (by kernel_rfl) Try.func9
    (ChangeSpec.witness6 (enc := enc) (C := Try.checked) false ⟨#[], #[.agg #[.int .i64 0, .int .i64 0, .int .i64 0, .int .i64 0, .int .i64 0, .int .i64 0, .int .i64 0, .int .i64 0, .int .i64 0, .int .i64 0], .agg #[.int .i64 0, .int .i64 0, .int .i64 0, .int .i64 0, .int .i64 0, .int .i64 0, .int .i64 0, .int .i64 0], .agg #[.int .i64 0, .int .i64 0, .int .i64 0, .int .i64 0, .int .i64 0, .int .i64 0, .int .i64 0, .int .i64 0], .slice none 0 0, .slice none 0 0, .slice none 0 0, .int .i64 0, .int .u8 0], []⟩ 8 (by kernel_rfl) (by kernel_rfl) (by kernel_rfl) (by kernel_rfl)) ?_
  intro W base args ds gs before hval0 hW hcnd _
  have hval : ∀ (j : Nat) t v, Try.f9.params[j]? = some t → args[j]? = some v → Value.okWide Try.prog W .any base t v := hval0
  have hW' := hW
  obtain ⟨p, q, hA0, hV, rfl, hfz, hnd⟩ := hW
  have hA : DataW.TrodAll enc Try.prog W 0 (fun _ => true) true Try.f9.params.toList args.toList ds p := hA0
  rw [params_more] at hA hval
  obtain ⟨v0, vs0, d0, ds0, p0, q0, hargs, rfl, rfl, h0, r0⟩ := trodAll_cons hA
  obtain ⟨v1, vs1, d1, ds1, p1, q1, rfl, rfl, rfl, h1, r1⟩ := trodAll_cons r0
  obtain ⟨v2, vs2, d2, ds2, p2, q2, rfl, rfl, rfl, h2, r2⟩ := trodAll_cons r1
  obtain ⟨v3, vs3, d3, ds3, p3, q3, rfl, rfl, rfl, h3, r3⟩ := trodAll_cons r2
  obtain ⟨v4, vs4, d4, ds4, p4, q4, rfl, rfl, rfl, h4, r4⟩ := trodAll_cons r3
  obtain ⟨v5, vs5, d5, ds5, p5, q5, rfl, rfl, rfl, h5, r5⟩ := trodAll_cons r4
  obtain ⟨v6, vs6, d6, ds6, p6, q6, rfl, rfl, rfl, h6, r6⟩ := trodAll_cons r5
  obtain ⟨v7, vs7, d7, ds7, p7, q7, rfl, rfl, rfl, h7, r7⟩ := trodAll_cons r6
  obtain ⟨rfl, rfl, rfl⟩ := trodAll_nil r7
  obtain rfl : args = #[v0, v1, v2, v3, v4, v5, v6, v7] := by cases args; simp_all
  obtain ⟨rfl, rfl⟩ := trodVars_none hV
  obtain ⟨a0, rfl⟩ := Inp.open_jig (hval 0 25 v0 rfl rfl) h0
  obtain ⟨a1, rfl⟩ := Inp.open_slat (hval 1 37 v1 rfl rfl) h1
  obtain ⟨a2, rfl⟩ := Inp.open_slat (hval 2 37 v2 rfl rfl) h2
  obtain ⟨A3, c3, a3, rfl, hl3, hS3⟩ := Inp.open_ints (hval 3 27 v3 rfl rfl) h3
  obtain ⟨A4, c4, a4, rfl, hl4, hS4, hn4⟩ := Inp.open_slatsN (hval 4 26 v4 rfl rfl) h4
  obtain ⟨A5, c5, a5, rfl, hl5, hS5, hn5⟩ := Inp.open_slatsN (hval 5 26 v5 rfl rfl) h5
  obtain ⟨a6, rfl, rfl, rfl, w6⟩ := open_int Inp.und_int (hval 6 3 v6 rfl rfl) h6
  obtain ⟨a7, rfl, rfl, rfl, w7⟩ := open_int Inp.und_u8' (hval 7 5 v7 rfl rfl) h7
  clear hA0 hval0
  refine (more05_any W A3 A4 A5 c3 c4 c5 a0 a1 a2 a3 a4 a5 a6 a7 hl3 hl4 hl5 hS3 hS4 hS5 hn4 hn5 (Inp.u8_bd w7)).mono fun e W' ⟨he, hb⟩ => ?_
  subst he
  refine ⟨_, rfl, ?_⟩
  have hlt : ∀ x ∈ ((p0 ++ (p1 ++ (p2 ++ (p3 ++ (p4 ++ (p5 ++ ([] ++ ([] ++ [])))))))) : List MemPlace), x.block < W.heap.size := fun x hx => hW'.lt x (by simpa using hx)
  have hR : ∀ sp : Nat → Bool, (∀ x ∈ (p0 ++ (p1 ++ (p2 ++ (p3 ++ (p4 ++ (p5))))) : List MemPlace), sp x.block = true) → DataW.TrodAll enc Try.prog W' 0 sp true Try.f9.params.toList _ _ _ := fun sp hsp => by
    rw [params_more]
    exact Inp.trodAll_stays (by kernel_rfl) (by decide +kernel) hA (fun x hx => hb.same (hlt x hx)) (fun x hx => hsp x (by simpa using hx))
  have hold : ∀ x ∈ (p0 ++ (p1 ++ (p2 ++ (p3 ++ (p4 ++ (p5))))) : List MemPlace), (fun b => decide (b < W.heap.size)) x.block = true := fun x hx => by simpa using hlt x (by simpa using hx)
  refine ⟨_, _, _, [], _, [], hW', trodAll_cons_mk (shut_bool Inp.und_bool _) trodAll_mk0, hR _ hold, rfl, World.keptBut_mono (fun x hx => ⟨hx, ?_⟩) (hb.frame (· ∈ _)), fun _ => ?_⟩
  · simpa using hx
  · obtain ⟨_, _, _, _, _, hz, hn⟩ := hW'
    refine ⟨ok_one (by kernel_rfl) rfl (okWide_bool_mk Inp.und_bool _), _, [], _, ⟨_, [], trodAll_append (hR _ (fun _ _ => rfl)) (trodAll_cons_mk (shut_bool Inp.und_bool _) trodAll_mk0), rfl, rfl, ?_, ?_⟩, ?_⟩
    · intro b off hx
      rw [hb.frozen (hlt _ (by simpa using hx))]
      exact hz b off (by simpa using hx)
    · intro h; cases h
    · intro x hx _
      simpa using hx

theorem more_named : (Try.pinned).checked.prog.funcNamed Rows.slatMoreRow.func = some 9 := by kernel_rfl
theorem more_closed : joinedFacts (Try.pinned).checked.prog 9 Try.f9 Rows.slatMoreSpec Rows.slatMoreRow = true := by kernel_rfl
theorem more_inst : (Try.f9).isInstance (Try.pinned).checked.prog Rows.slatMoreRow.origin Rows.slatMoreRow.targs := of_decide_eq_true (by kernel_rfl)
theorem more_wrap : (Try.f9).isWrapper (Try.pinned).checked.prog Rows.slatMoreRow.wrapper Rows.slatMoreRow.mainSum := by
  unfold Func.isWrapper
  first | (rw [if_pos (by decide +kernel)]; kernel_rfl) | (rw [if_neg (by decide +kernel)]; exact ⟨rfl, rfl⟩)
theorem more_over : Rows.slatMoreRow.holds Try.pinned (OpenSpec.ofChange Rows.slatMoreSpec) :=
  OpenClaim.holds_of_wide 9 Try.f9 rfl rfl rfl rfl rfl rfl rfl ⟨rfl, rfl, rfl, rfl, rfl⟩ rfl rfl rfl rfl rfl more_named Try.func9 more_closed
    more_inst more_wrap
    (fun os started H enc _ => more_lifted os started H enc)

theorem slatMore_proved : Rows.SlatMoreSaid := more_over
end Go.Proofs.Ytfpfafijockfnaa
