/- SlatTune returns true, whatever the input: with the setting that Tune returns Grades of the same sandwiches finds as many leads within the limit, and no other setting finds more, or as many with lesser amounts.  No conditions. -/
import Derived.Test.YtbfamblbnfkpgaaUf
import Derived.Test.YtbfamblbnfkpgaaRows
import Derived.Test.YtbfamblbnfkpgaaWv
namespace Go.Proofs.Ytbfamblbnfkpgaa.Inp
open Go.RowKit Go.Shelf Go.ChangeShapes Go.WideShapes Go.Deep Go.ChangeAt Go.Joins

theorem und_slats : Try.prog.underlying 26 = some (.slice 37) := by kernel_rfl
theorem und_u8' : Try.prog.underlying 5 = some (.int .u8) := by kernel_rfl
theorem u8_bd {t : Int} (hwf : (Lit.int .u8 t).wf = true) : 0 ≤ t ∧ t ≤ 255 := by
  simp only [Lit.wf] at hwf
  simpa [IntKind.min, IntKind.max, IntKind.signed, IntKind.bits] using hwf
section
variable {H : Type} {enc : TypeId × Value → H} {w : World} {base : Nat} {spare : Nat → Bool} {held : Bool}
set_option maxRecDepth 100000 in
theorem open_slats {d : DataW H} {p : List MemPlace} {v : Value} {r : Go.Reach} {b0 : Nat} (hval : Value.okWide Try.prog w r b0 26 v) (h : DataW.Trod enc Try.prog w base spare held 26 v d p) :
    ∃ (A : Option Addr) (c : Nat) (l : List Slat), v = .slice A l.length c ∧ l.length ≤ 9223372036854775807 ∧ SlatSl w w.heap.size A l := by
  obtain ⟨a0, len, cap, rfl⟩ := okWide_slice und_slats hval
  obtain ⟨fuel, hf⟩ := h
  rcases open_slice und_slats hf with ⟨hcs, hx⟩ | ⟨a, len', cap', m, n, D, Pl, hcs, hb, hl, hm, hmm, hx, hi⟩
  · simp [Value.cells] at hcs
    obtain ⟨rfl, rfl, rfl⟩ := hcs
    exact ⟨none, 0, [], rfl, Nat.zero_le _, fun h => absurd rfl h⟩
  · simp [Value.cells] at hcs
    obtain ⟨rfl, rfl, rfl⟩ := hcs
    have hlm : len ≤ m := by rw [hmm]; split <;> omega
    have hx : ∀ i, ∃ s : Slat, i < len → ∀ (j : Nat) (v : Value), ([.int .i64 s.thick.lo, .int .i64 s.thick.hi, .int .i64 s.depth.lo, .int .i64 s.depth.hi, .int .i64 s.shift.lo, .int .i64 s.shift.hi, .int .i64 s.pitch.lo, .int .i64 s.pitch.hi] : List Value)[j]? = some v → w.cell? ((a.add (i * 8)).add j) = some v := by
      intro i
      by_cases hil : i < len
      · obtain ⟨cs', hc, ht⟩ := hi i (by omega)
        rw [cells_slat] at hc
        obtain ⟨s, rfl⟩ := slat_cells ht
        obtain ⟨_, _, hat⟩ := World.cells?_some hc
        refine ⟨s, fun _ j v hj => ?_⟩
        have hj8 : j < 8 := by
          have := (List.getElem?_eq_some_iff.1 hj).1
          simpa using this
        rw [hat j hj8, hj]
      · exact ⟨⟨⟨0, 0⟩, ⟨0, 0⟩, ⟨0, 0⟩, ⟨0, 0⟩⟩, fun h => absurd h hil⟩
    obtain ⟨f, hf'⟩ := Classical.axiomOfChoice hx
    have hlen : ((List.range len).map f).length = len := by simp
    refine ⟨some a, cap, (List.range len).map f, by rw [hlen], by rw [hlen]; have : maxLen ≤ 9223372036854775807 := (by unfold maxLen; omega); omega, fun hne => ?_⟩
    have h0 : 0 < len := by
      rcases Nat.eq_zero_or_pos len with e | e
      · subst e; exact absurd rfl hne
      · exact e
    obtain ⟨b, off, spot⟩ := a
    obtain ⟨hs, hlt⟩ := cell_old (hf' 0 h0 0 _ rfl)
    simp only [Addr.add] at hs hlt
    have hsp : spot = none := by simpa using hs
    subst hsp
    refine ⟨b, off, rfl, by simpa using hlt, fun i hi' => ?_⟩
    have hil : i < len := by simpa using hi'
    have hg : ((List.range len).map f)[i]'hi' = f i := by simp
    rw [hg]
    have hc := hf' i hil
    simp only [add_at] at hc
    exact ⟨hc 0 _ rfl, hc 1 _ rfl, hc 2 _ rfl, hc 3 _ rfl, hc 4 _ rfl, hc 5 _ rfl, hc 6 _ rfl, hc 7 _ rfl⟩
end
end Go.Proofs.Ytbfamblbnfkpgaa.Inp
namespace Go.Proofs.Ytbfamblbnfkpgaa
open Go.ChangeShapes Go.WideShapes Go.ChangeAt Go.RowKit Go.Joins Go.Deep

theorem params_tunes : Try.f8.params = #[25, 26, 26, 3, 5, 5] := by kernel_rfl
set_option maxRecDepth 100000 in
theorem tunes_lifted (os : Os) (started : os.Started) (H : Type) (enc : TypeId × Value → H) :
    ReturnsInHanded {} Try.checked os 8 .any (Rows.slatTuneSpec.pre6 enc Try.prog Try.f8 Rows.slatTuneRow.domain false) (Rows.slatTuneSpec.post enc Try.prog Try.f8 false true false false) := by
  refine returnsInHanded_of_change (C := Try.checked) Inp.own started (by kernel_rfl) Try.func8
    (ChangeSpec.witness6 (enc := enc) (C := Try.checked) false ⟨#[], #[.agg #[.int .i64 0, .int .i64 0, .int .i64 0, .int .i64 0, .int .i64 0, .int .i64 0, .int .i64 0, .int .i64 0, .int .i64 0, .int .i64 0], .slice none 0 0, .slice none 0 0, .int .i64 0, .int .u8 0, .int .u8 0], []⟩ 8 (by kernel_rfl) (by kernel_rfl) (by kernel_rfl) (by kernel_rfl)) ?_
  intro W base args ds gs before hval0 hW hcnd _
  have hval : ∀ (j : Nat) t v, Try.f8.params[j]? = some t → args[j]? = some v → Value.okWide Try.prog W .any base t v := hval0
  have hW' := hW
  obtain ⟨p, q, hA0, hV, rfl, hfz, hnd⟩ := hW
  have hA : DataW.TrodAll enc Try.prog W 0 (fun _ => true) true Try.f8.params.toList args.toList ds p := hA0
  rw [params_tunes] at hA hval
  obtain ⟨v0, vs0, d0, ds0, p0, q0, hargs, rfl, rfl, h0, r0⟩ := trodAll_cons hA
  obtain ⟨v1, vs1, d1, ds1, p1, q1, rfl, rfl, rfl, h1, r1⟩ := trodAll_cons r0
  obtain ⟨v2, vs2, d2, ds2, p2, q2, rfl, rfl, rfl, h2, r2⟩ := trodAll_cons r1
  obtain ⟨v3, vs3, d3, ds3, p3, q3, rfl, rfl, rfl, h3, r3⟩ := trodAll_cons r2
  obtain ⟨v4, vs4, d4, ds4, p4, q4, rfl, rfl, rfl, h4, r4⟩ := trodAll_cons r3
  obtain ⟨v5, vs5, d5, ds5, p5, q5, rfl, rfl, rfl, h5, r5⟩ := trodAll_cons r4
  obtain ⟨rfl, rfl, rfl⟩ := trodAll_nil r5
  obtain rfl : args = #[v0, v1, v2, v3, v4, v5] := by cases args; simp_all
  obtain ⟨rfl, rfl⟩ := trodVars_none hV
  obtain ⟨a0, rfl⟩ := Inp.open_jig (hval 0 25 v0 rfl rfl) h0
  obtain ⟨A1, c1, a1, rfl, hl1, hS1⟩ := Inp.open_slats (hval 1 26 v1 rfl rfl) h1
  obtain ⟨A2, c2, a2, rfl, hl2, hS2⟩ := Inp.open_slats (hval 2 26 v2 rfl rfl) h2
  obtain ⟨a3, rfl, rfl, rfl, w3⟩ := open_int Inp.und_int (hval 3 3 v3 rfl rfl) h3
  obtain ⟨a4, rfl, rfl, rfl, w4⟩ := open_int Inp.und_u8' (hval 4 5 v4 rfl rfl) h4
  obtain ⟨a5, rfl, rfl, rfl, w5⟩ := open_int Inp.und_u8' (hval 5 5 v5 rfl rfl) h5
  clear hA0 hval0
  refine (tune05_any W A1 A2 c1 c2 a0 a1 a2 a3 a4 a5 hl1 hl2 hS1 hS2 (Inp.u8_bd w4) (Inp.u8_bd w5)).mono fun e W' ⟨he, hb⟩ => ?_
  subst he
  refine ⟨_, rfl, ?_⟩
  have hlt : ∀ x ∈ ((p0 ++ (p1 ++ (p2 ++ ([] ++ ([] ++ ([] ++ [])))))) : List MemPlace), x.block < W.heap.size := fun x hx => hW'.lt x (by simpa using hx)
  have hR : ∀ sp : Nat → Bool, (∀ x ∈ (p0 ++ (p1 ++ (p2)) : List MemPlace), sp x.block = true) → DataW.TrodAll enc Try.prog W' 0 sp true Try.f8.params.toList _ _ _ := fun sp hsp => by
    rw [params_tunes]
    exact Inp.trodAll_stays (by kernel_rfl) (by decide +kernel) hA (fun x hx => hb.same (hlt x hx)) (fun x hx => hsp x (by simpa using hx))
  have hold : ∀ x ∈ (p0 ++ (p1 ++ (p2)) : List MemPlace), (fun b => decide (b < W.heap.size)) x.block = true := fun x hx => by simpa using hlt x (by simpa using hx)
  refine ⟨_, _, _, [], _, [], hW', trodAll_cons_mk (shut_bool Inp.und_bool _) trodAll_mk0, hR _ hold, rfl, World.keptBut_mono (fun x hx => ⟨hx, ?_⟩) (hb.frame (· ∈ _)), fun _ => ?_⟩
  · simpa using hx
  · obtain ⟨_, _, _, _, _, hz, hn⟩ := hW'
    refine ⟨ok_one (by kernel_rfl) rfl (okWide_bool_mk Inp.und_bool _), _, [], _, ⟨_, [], trodAll_append (hR _ (fun _ _ => rfl)) (trodAll_cons_mk (shut_bool Inp.und_bool _) trodAll_mk0), rfl, rfl, ?_, ?_⟩, ?_⟩
    · intro b off hx
      rw [hb.frozen (hlt _ (by simpa using hx))]
      exact hz b off (by simpa using hx)
    · intro h; cases h
    · intro x hx _
      simpa using hx

theorem tunes_named : (Try.pinned).checked.prog.funcNamed Rows.slatTuneRow.func = some 8 := by kernel_rfl
theorem tunes_closed : joinedFacts (Try.pinned).checked.prog 8 Try.f8 Rows.slatTuneSpec Rows.slatTuneRow = true := by kernel_rfl
theorem tunes_inst : (Try.f8).isInstance (Try.pinned).checked.prog Rows.slatTuneRow.origin Rows.slatTuneRow.targs := of_decide_eq_true (by kernel_rfl)
theorem tunes_wrap : (Try.f8).isWrapper (Try.pinned).checked.prog Rows.slatTuneRow.wrapper Rows.slatTuneRow.mainSum := by
  unfold Func.isWrapper
  first | (rw [if_pos (by decide +kernel)]; kernel_rfl) | (rw [if_neg (by decide +kernel)]; exact ⟨rfl, rfl⟩)
theorem tunes_over : Rows.slatTuneRow.holds Try.pinned (OpenSpec.ofChange Rows.slatTuneSpec) :=
  OpenClaim.holds_of_wide 8 Try.f8 rfl rfl rfl rfl rfl rfl rfl ⟨rfl, rfl, rfl, rfl, rfl⟩ rfl rfl rfl rfl rfl tunes_named Try.func8 tunes_closed
    tunes_inst tunes_wrap
    (fun os started H enc _ => tunes_lifted os started H enc)

theorem slatTune_proved : Rows.SlatTuneSaid := tunes_over
end Go.Proofs.Ytbfamblbnfkpgaa
