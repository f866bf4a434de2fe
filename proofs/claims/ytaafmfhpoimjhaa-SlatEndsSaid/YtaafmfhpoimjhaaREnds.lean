/- SlatEnds returns true, whatever the input: all ends by which a lead lies off are those of a truth, a sandwich always closes just if it does with the worst ends, never just if it does not with the best ones, and grades are just those of the limits.  No conditions. -/
import Derived.Test.YtaafmfhpoimjhaaRows
import Derived.Test.YtaafmfhpoimjhaaUf
import Derived.Test.YtaafmfhpoimjhaaZe
namespace Go.Proofs.Ytaafmfhpoimjhaa
open Go.ChangeShapes Go.WideShapes Go.ChangeAt Go.RowKit Go.Joins Go.Deep

theorem params_ends : Try.f6.params = #[25, 37, 37, 27] := by kernel_rfl
set_option maxRecDepth 100000 in
theorem ends_lifted (os : Os) (started : os.Started) (H : Type) (enc : TypeId × Value → H) :
    ReturnsInHanded {} Try.checked os 6 .any (Rows.slatEndsSpec.pre6 enc Try.prog Try.f6 Rows.slatEndsRow.domain false) (Rows.slatEndsSpec.post enc Try.prog Try.f6 false true false false) := by
  refine returnsInHanded_of_change (C := Try.checked) Inp.own started (by kernel_rfl) Try.func6
    (ChangeSpec.witness6 (enc := enc) (C := Try.checked) false ⟨#[], #[.agg #[.int .i64 0, .int .i64 0, .int .i64 0, .int .i64 0, .int .i64 0, .int .i64 0, .int .i64 0, .int .i64 0, .int .i64 0, .int .i64 0], .agg #[.int .i64 0, .int .i64 0, .int .i64 0, .int .i64 0, .int .i64 0, .int .i64 0, .int .i64 0, .int .i64 0], .agg #[.int .i64 0, .int .i64 0, .int .i64 0, .int .i64 0, .int .i64 0, .int .i64 0, .int .i64 0, .int .i64 0], .slice none 0 0], []⟩ 8 (by kernel_rfl) (by kernel_rfl) (by kernel_rfl) (by kernel_rfl)) ?_
  intro W base args ds gs before hval0 hW hcnd _
  have hval : ∀ (j : Nat) t v, Try.f6.params[j]? = some t → args[j]? = some v → Value.okWide Try.prog W .any base t v := hval0
  have hW' := hW
  obtain ⟨p, q, hA0, hV, rfl, hfz, hnd⟩ := hW
  have hA : DataW.TrodAll enc Try.prog W 0 (fun _ => true) true Try.f6.params.toList args.toList ds p := hA0
  rw [params_ends] at hA hval
  obtain ⟨v0, vs0, d0, ds0, p0, q0, hargs, rfl, rfl, h0, r0⟩ := trodAll_cons hA
  obtain ⟨v1, vs1, d1, ds1, p1, q1, rfl, rfl, rfl, h1, r1⟩ := trodAll_cons r0
  obtain ⟨v2, vs2, d2, ds2, p2, q2, rfl, rfl, rfl, h2, r2⟩ := trodAll_cons r1
  obtain ⟨v3, vs3, d3, ds3, p3, q3, rfl, rfl, rfl, h3, r3⟩ := trodAll_cons r2
  obtain ⟨rfl, rfl, rfl⟩ := trodAll_nil r3
  obtain rfl : args = #[v0, v1, v2, v3] := by cases args; simp_all
  obtain ⟨rfl, rfl⟩ := trodVars_none hV
  obtain ⟨a0, rfl⟩ := Inp.open_jig (hval 0 25 v0 rfl rfl) h0
  obtain ⟨a1, rfl⟩ := Inp.open_slat (hval 1 37 v1 rfl rfl) h1
  obtain ⟨a2, rfl⟩ := Inp.open_slat (hval 2 37 v2 rfl rfl) h2
  obtain ⟨A3, c3, a3, rfl, hl3, hS3⟩ := Inp.open_ints (hval 3 27 v3 rfl rfl) h3
  clear hA0 hval0
  refine (ends05_any W A3 c3 a0 a1 a2 a3 hl3 hS3).mono fun e W' ⟨he, hb⟩ => ?_
  subst he
  refine ⟨_, rfl, ?_⟩
  have hlt : ∀ x ∈ ((p0 ++ (p1 ++ (p2 ++ (p3 ++ [])))) : List MemPlace), x.block < W.heap.size := fun x hx => hW'.lt x (by simpa using hx)
  have hR : ∀ sp : Nat → Bool, (∀ x ∈ (p0 ++ (p1 ++ (p2 ++ (p3))) : List MemPlace), sp x.block = true) → DataW.TrodAll enc Try.prog W' 0 sp true Try.f6.params.toList _ _ _ := fun sp hsp => by
    rw [params_ends]
    exact Inp.trodAll_stays (by kernel_rfl) (by decide +kernel) hA (fun x hx => hb.same (hlt x hx)) (fun x hx => hsp x (by simpa using hx))
  have hold : ∀ x ∈ (p0 ++ (p1 ++ (p2 ++ (p3))) : List MemPlace), (fun b => decide (b < W.heap.size)) x.block = true := fun x hx => by simpa using hlt x (by simpa using hx)
  refine ⟨_, _, _, [], _, [], hW', trodAll_cons_mk (shut_bool Inp.und_bool _) trodAll_mk0, hR _ hold, rfl, World.keptBut_mono (fun x hx => ⟨hx, ?_⟩) (hb.frame (· ∈ _)), fun _ => ?_⟩
  · simpa using hx
  · obtain ⟨_, _, _, _, _, hz, hn⟩ := hW'
    refine ⟨ok_one (by kernel_rfl) rfl (okWide_bool_mk Inp.und_bool _), _, [], _, ⟨_, [], trodAll_append (hR _ (fun _ _ => rfl)) (trodAll_cons_mk (shut_bool Inp.und_bool _) trodAll_mk0), rfl, rfl, ?_, ?_⟩, ?_⟩
    · intro b off hx
      rw [hb.frozen (hlt _ (by simpa using hx))]
      exact hz b off (by simpa using hx)
    · intro h; cases h
    · intro x hx _
      simpa using hx

theorem ends_named : (Try.pinned).checked.prog.funcNamed Rows.slatEndsRow.func = some 6 := by kernel_rfl
theorem ends_closed : joinedFacts (Try.pinned).checked.prog 6 Try.f6 Rows.slatEndsSpec Rows.slatEndsRow = true := by kernel_rfl
theorem ends_inst : (Try.f6).isInstance (Try.pinned).checked.prog Rows.slatEndsRow.origin Rows.slatEndsRow.targs := of_decide_eq_true (by kernel_rfl)
theorem ends_wrap : (Try.f6).isWrapper (Try.pinned).checked.prog Rows.slatEndsRow.wrapper Rows.slatEndsRow.mainSum := by
  unfold Func.isWrapper
  first | (rw [if_pos (by decide +kernel)]; kernel_rfl) | (rw [if_neg (by decide +kernel)]; exact ⟨rfl, rfl⟩)
theorem ends_over : Rows.slatEndsRow.holds Try.pinned (OpenSpec.ofChange Rows.slatEndsSpec) :=
  OpenClaim.holds_of_wide 6 Try.f6 rfl rfl rfl rfl rfl rfl rfl ⟨rfl, rfl, rfl, rfl, rfl⟩ rfl rfl rfl rfl rfl ends_named Try.func6 ends_closed
    ends_inst ends_wrap
    (fun os started H enc _ => ends_lifted os started H enc)

theorem slatEnds_proved : Rows.SlatEndsSaid := ends_over
end Go.Proofs.Ytaafmfhpoimjhaa
