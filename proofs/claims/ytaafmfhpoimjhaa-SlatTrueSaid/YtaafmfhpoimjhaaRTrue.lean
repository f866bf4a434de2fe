/- SlatTrue returns true, whatever the input: wherever slats, grooves, glue and shaper truly are, each lead lies off by numbers of its spans, a lead that has a grade is within its limit, a sandwich that always closes does, and one that never does, does not.  No conditions. -/
import Derived.Test.YtaafmfhpoimjhaaRows
import Derived.Test.YtaafmfhpoimjhaaUf
import Derived.Test.YtaafmfhpoimjhaaZt
namespace Go.Proofs.Ytaafmfhpoimjhaa.Inp
open Go.RowKit Go.Shelf Go.ChangeShapes Go.WideShapes Go.Deep Go.ChangeAt Go.Joins

theorem und_u16s : Try.prog.underlying 48 = some (.slice 77) := by kernel_rfl
theorem und_u16' : Try.prog.underlying 77 = some (.int .u16) := by kernel_rfl
theorem cells_u16 : Try.prog.cellsOf 77 = 1 := by kernel_rfl
section
variable {H : Type} {enc : TypeId × Value → H} {w : World} {base : Nat} {spare : Nat → Bool} {held : Bool}
set_option maxRecDepth 100000 in
theorem open_u16s {r : Go.Reach} {b0 : Nat} {v : Value} {d : DataW H} {p : List MemPlace} (hval : Value.okWide Try.prog w r b0 48 v) (h : DataW.Trod enc Try.prog w base spare held 48 v d p) :
    ∃ (A : Option Addr) (c : Nat) (l : List Int), v = .slice A l.length c ∧ l.length ≤ 9223372036854775807 ∧ U16Sl w w.heap.size A l ∧ ∀ y ∈ l, 0 ≤ y ∧ y ≤ 65535 := by
  obtain ⟨a0, len, cap, rfl⟩ := okWide_slice und_u16s hval
  obtain ⟨fuel, hf⟩ := h
  rcases open_slice und_u16s hf with ⟨hcs, hx⟩ | ⟨a, len', cap', m, n, D, Pl, hcs, hb, hl, hm, hmm, hx, hi⟩
  · simp [Value.cells] at hcs
    obtain ⟨rfl, rfl, rfl⟩ := hcs
    exact ⟨none, 0, [], rfl, Nat.zero_le _, fun h => absurd rfl h, fun y hy => by simp at hy⟩
  · simp [Value.cells] at hcs
    obtain ⟨rfl, rfl, rfl⟩ := hcs
    have hlm : len ≤ m := by rw [hmm]; split <;> omega
    have hx : ∀ i, ∃ t : Int, (0 ≤ t ∧ t ≤ 65535) ∧ (i < len → w.cell? (a.add i) = some (.int .u16 t)) := by
      intro i
      by_cases hil : i < len
      · obtain ⟨cs', hc, ht⟩ := hi i (by omega)
        rw [cells_u16] at hc
        obtain ⟨t, ec, -, hwf⟩ := DataW.trod_int und_u16' ht
        subst ec
        obtain ⟨_, _, hat⟩ := World.cells?_some hc
        have hu : 0 ≤ t ∧ t ≤ 65535 := by
          simp only [Lit.wf] at hwf
          simpa [IntKind.min, IntKind.max, IntKind.signed, IntKind.bits] using hwf
        have h0 := hat 0 (by omega)
        simp only [Nat.mul_one] at h0
        refine ⟨t, hu, fun _ => ?_⟩
        have e : (a.add i).add 0 = a.add i := by simp [Addr.add]
        rw [e] at h0
        simpa using h0
      · exact ⟨0, by omega, fun h => absurd h hil⟩
    obtain ⟨f, hf'⟩ := Classical.axiomOfChoice hx
    have hlen : ((List.range len).map f).length = len := by simp
    refine ⟨some a, cap, (List.range len).map f, by rw [hlen], by rw [hlen]; have : maxLen ≤ 9223372036854775807 := (by unfold maxLen; omega); omega, fun hne => ?_, fun y hy => ?_⟩
    · have h0 : 0 < len := by
        rcases Nat.eq_zero_or_pos len with e | e
        · subst e; exact absurd rfl hne
        · exact e
      obtain ⟨b, off, spot⟩ := a
      obtain ⟨hs, hlt⟩ := cell_old ((hf' 0).2 h0)
      simp only [Addr.add] at hs hlt
      have hsp : spot = none := by simpa using hs
      subst hsp
      refine ⟨b, off, rfl, by simpa using hlt, fun i hi' => ?_⟩
      have hil : i < len := by simpa using hi'
      have hg : ((List.range len).map f)[i]'hi' = f i := by simp
      rw [hg]
      have hc := (hf' i).2 hil
      have e : (⟨b, off, none⟩ : Addr).add i = ⟨b, off + i, none⟩ := by
        unfold Addr.add
        by_cases hi : i = 0 <;> simp [hi]
      rw [e] at hc
      exact hc
    · simp only [List.mem_map] at hy
      obtain ⟨i, -, rfl⟩ := hy
      exact (hf' i).1
end
end Go.Proofs.Ytaafmfhpoimjhaa.Inp
namespace Go.Proofs.Ytaafmfhpoimjhaa
open Go.ChangeShapes Go.WideShapes Go.ChangeAt Go.RowKit Go.Joins Go.Deep

theorem params_trues : Try.f5.params = #[25, 37, 37, 27, 48] := by kernel_rfl
set_option maxRecDepth 100000 in
theorem trues_lifted (os : Os) (started : os.Started) (H : Type) (enc : TypeId × Value → H) :
    ReturnsInHanded {} Try.checked os 5 .any (Rows.slatTrueSpec.pre6 enc Try.prog Try.f5 Rows.slatTrueRow.domain false) (Rows.slatTrueSpec.post enc Try.prog Try.f5 false true false false) := by
  refine returnsInHanded_of_change (C := Try.checked) Inp.own started (by kernel_rfl) Try.func5
    (ChangeSpec.witness6 (enc := enc) (C := Try.checked) false ⟨#[], #[.agg #[.int .i64 0, .int .i64 0, .int .i64 0, .int .i64 0, .int .i64 0, .int .i64 0, .int .i64 0, .int .i64 0, .int .i64 0, .int .i64 0], .agg #[.int .i64 0, .int .i64 0, .int .i64 0, .int .i64 0, .int .i64 0, .int .i64 0, .int .i64 0, .int .i64 0], .agg #[.int .i64 0, .int .i64 0, .int .i64 0, .int .i64 0, .int .i64 0, .int .i64 0, .int .i64 0, .int .i64 0], .slice none 0 0, .slice none 0 0], []⟩ 8 (by kernel_rfl) (by kernel_rfl) (by kernel_rfl) (by kernel_rfl)) ?_
  intro W base args ds gs before hval0 hW hcnd _
  have hval : ∀ (j : Nat) t v, Try.f5.params[j]? = some t → args[j]? = some v → Value.okWide Try.prog W .any base t v := hval0
  have hW' := hW
  obtain ⟨p, q, hA0, hV, rfl, hfz, hnd⟩ := hW
  have hA : DataW.TrodAll enc Try.prog W 0 (fun _ => true) true Try.f5.params.toList args.toList ds p := hA0
  rw [params_trues] at hA hval
  obtain ⟨v0, vs0, d0, ds0, p0, q0, hargs, rfl, rfl, h0, r0⟩ := trodAll_cons hA
  obtain ⟨v1, vs1, d1, ds1, p1, q1, rfl, rfl, rfl, h1, r1⟩ := trodAll_cons r0
  obtain ⟨v2, vs2, d2, ds2, p2, q2, rfl, rfl, rfl, h2, r2⟩ := trodAll_cons r1
  obtain ⟨v3, vs3, d3, ds3, p3, q3, rfl, rfl, rfl, h3, r3⟩ := trodAll_cons r2
  obtain ⟨v4, vs4, d4, ds4, p4, q4, rfl, rfl, rfl, h4, r4⟩ := trodAll_cons r3
  obtain ⟨rfl, rfl, rfl⟩ := trodAll_nil r4
  obtain rfl : args = #[v0, v1, v2, v3, v4] := by cases args; simp_all
  obtain ⟨rfl, rfl⟩ := trodVars_none hV
  obtain ⟨a0, rfl⟩ := Inp.open_jig (hval 0 25 v0 rfl rfl) h0
  obtain ⟨a1, rfl⟩ := Inp.open_slat (hval 1 37 v1 rfl rfl) h1
  obtain ⟨a2, rfl⟩ := Inp.open_slat (hval 2 37 v2 rfl rfl) h2
  obtain ⟨A3, c3, a3, rfl, hl3, hS3⟩ := Inp.open_ints (hval 3 27 v3 rfl rfl) h3
  obtain ⟨A4, c4, a4, rfl, hl4, hS4, hb4⟩ := Inp.open_u16s (hval 4 48 v4 rfl rfl) h4
  clear hA0 hval0
  refine (true05_any W A3 A4 c3 c4 a0 a1 a2 a3 a4 hl3 hl4 hS3 hS4 hb4).mono fun e W' ⟨he, hb⟩ => ?_
  subst he
  refine ⟨_, rfl, ?_⟩
  have hlt : ∀ x ∈ ((p0 ++ (p1 ++ (p2 ++ (p3 ++ (p4 ++ []))))) : List MemPlace), x.block < W.heap.size := fun x hx => hW'.lt x (by simpa using hx)
  have hR : ∀ sp : Nat → Bool, (∀ x ∈ (p0 ++ (p1 ++ (p2 ++ (p3 ++ (p4)))) : List MemPlace), sp x.block = true) → DataW.TrodAll enc Try.prog W' 0 sp true Try.f5.params.toList _ _ _ := fun sp hsp => by
    rw [params_trues]
    exact Inp.trodAll_stays (by kernel_rfl) (by decide +kernel) hA (fun x hx => hb.same (hlt x hx)) (fun x hx => hsp x (by simpa using hx))
  have hold : ∀ x ∈ (p0 ++ (p1 ++ (p2 ++ (p3 ++ (p4)))) : List MemPlace), (fun b => decide (b < W.heap.size)) x.block = true := fun x hx => by simpa using hlt x (by simpa using hx)
  refine ⟨_, _, _, [], _, [], hW', trodAll_cons_mk (shut_bool Inp.und_bool _) trodAll_mk0, hR _ hold, rfl, World.keptBut_mono (fun x hx => ⟨hx, ?_⟩) (hb.frame (· ∈ _)), fun _ => ?_⟩
  · simpa using hx
  · obtain ⟨_, _, _, _, _, hz, hn⟩ := hW'
    refine ⟨ok_one (by kernel_rfl) rfl (okWide_bool_mk Inp.und_bool _), _, [], _, ⟨_, [], trodAll_append (hR _ (fun _ _ => rfl)) (trodAll_cons_mk (shut_bool Inp.und_bool _) trodAll_mk0), rfl, rfl, ?_, ?_⟩, ?_⟩
    · intro b off hx
      rw [hb.frozen (hlt _ (by simpa using hx))]
      exact hz b off (by simpa using hx)
    · intro h; cases h
    · intro x hx _
      simpa using hx

theorem trues_named : (Try.pinned).checked.prog.funcNamed Rows.slatTrueRow.func = some 5 := by kernel_rfl
theorem trues_closed : joinedFacts (Try.pinned).checked.prog 5 Try.f5 Rows.slatTrueSpec Rows.slatTrueRow = true := by kernel_rfl
theorem trues_inst : (Try.f5).isInstance (Try.pinned).checked.prog Rows.slatTrueRow.origin Rows.slatTrueRow.targs := of_decide_eq_true (by kernel_rfl)
theorem trues_wrap : (Try.f5).isWrapper (Try.pinned).checked.prog Rows.slatTrueRow.wrapper Rows.slatTrueRow.mainSum := by
  unfold Func.isWrapper
  first | (rw [if_pos (by decide +kernel)]; kernel_rfl) | (rw [if_neg (by decide +kernel)]; exact ⟨rfl, rfl⟩)
theorem trues_over : Rows.slatTrueRow.holds Try.pinned (OpenSpec.ofChange Rows.slatTrueSpec) :=
  OpenClaim.holds_of_wide 5 Try.f5 rfl rfl rfl rfl rfl rfl rfl ⟨rfl, rfl, rfl, rfl, rfl⟩ rfl rfl rfl rfl rfl trues_named Try.func5 trues_closed
    trues_inst trues_wrap
    (fun os started H enc _ => trues_lifted os started H enc)

theorem slatTrue_proved : Rows.SlatTrueSaid := trues_over
end Go.Proofs.Ytaafmfhpoimjhaa
