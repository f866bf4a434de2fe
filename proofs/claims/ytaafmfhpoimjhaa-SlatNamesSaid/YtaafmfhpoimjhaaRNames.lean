/- SlatNames returns true: errors, numbers and limits have the document's values, and the chapter's examples hold.  No conditions. -/
import Derived.Test.YtaafmfhpoimjhaaRows
import Derived.Test.YtaafmfhpoimjhaaSo
import Derived.Test.YtaafmfhpoimjhaaZn
namespace Go.Proofs.Ytaafmfhpoimjhaa
open Go.ChangeShapes Go.WideShapes Go.ChangeAt Go.RowKit Go.Joins Go.Deep

theorem params_names : Try.f4.params = #[] := by kernel_rfl
set_option maxRecDepth 100000 in
theorem names_lifted (os : Os) (started : os.Started) (H : Type) (enc : TypeId × Value → H) :
    ReturnsInHanded {} Try.checked os 4 .any (Rows.slatNamesSpec.pre6 enc Try.prog Try.f4 Rows.slatNamesRow.domain false) (Rows.slatNamesSpec.post enc Try.prog Try.f4 false true false false) := by
  refine returnsInHanded_of_change (C := Try.checked) Inp.own started (by kernel_rfl) Try.func4
    (ChangeSpec.witness6 (enc := enc) (C := Try.checked) false ⟨#[], #[], []⟩ 8 (by kernel_rfl) (by kernel_rfl) (by kernel_rfl) (by kernel_rfl)) ?_
  intro W base args ds gs before hval0 hW hcnd _
  have hval : ∀ (j : Nat) t v, Try.f4.params[j]? = some t → args[j]? = some v → Value.okWide Try.prog W .any base t v := hval0
  have hW' := hW
  obtain ⟨p, q, hA0, hV, rfl, hfz, hnd⟩ := hW
  have hA : DataW.TrodAll enc Try.prog W 0 (fun _ => true) true Try.f4.params.toList args.toList ds p := hA0
  rw [params_names] at hA hval
  obtain ⟨hargs, rfl, rfl⟩ := trodAll_nil hA
  obtain rfl : args = #[] := by cases args; simp_all
  obtain ⟨rfl, rfl⟩ := trodVars_none hV
  clear hA0 hval0
  refine (names05_any W).mono fun e W' ⟨he, hb⟩ => ?_
  subst he
  refine ⟨_, rfl, ?_⟩
  have hlt : ∀ x ∈ ([] : List MemPlace), x.block < W.heap.size := fun x hx => by simp at hx
  have hR : ∀ sp : Nat → Bool, (∀ x ∈ (([] : List MemPlace) : List MemPlace), sp x.block = true) → DataW.TrodAll enc Try.prog W' 0 sp true Try.f4.params.toList _ _ _ := fun sp hsp => by
    rw [params_names]
    exact Inp.trodAll_stays (by kernel_rfl) (by decide +kernel) hA (fun x hx => by simp at hx) (fun x hx => by simp at hx)
  have hold : ∀ x ∈ (([] : List MemPlace) : List MemPlace), (fun b => decide (b < W.heap.size)) x.block = true := fun x hx => by simp at hx
  refine ⟨_, _, _, [], _, [], hW', trodAll_cons_mk (shut_bool Inp.und_bool _) trodAll_mk0, hR _ hold, rfl, World.keptBut_mono (fun x hx => ⟨hx, ?_⟩) (hb.frame (· ∈ _)), fun _ => ?_⟩
  · simp at hx
  · have _ := hW'
    refine ⟨ok_one (by kernel_rfl) rfl (okWide_bool_mk Inp.und_bool _), _, [], _, ⟨_, [], trodAll_append (hR _ (fun _ _ => rfl)) (trodAll_cons_mk (shut_bool Inp.und_bool _) trodAll_mk0), rfl, rfl, ?_, ?_⟩, ?_⟩
    · intro b off hx
      simp at hx
    · intro h; cases h
    · intro x hx _
      simp at hx

theorem names_named : (Try.pinned).checked.prog.funcNamed Rows.slatNamesRow.func = some 4 := by kernel_rfl
theorem names_closed : joinedFacts (Try.pinned).checked.prog 4 Try.f4 Rows.slatNamesSpec Rows.slatNamesRow = true := by kernel_rfl
theorem names_inst : (Try.f4).isInstance (Try.pinned).checked.prog Rows.slatNamesRow.origin Rows.slatNamesRow.targs := of_decide_eq_true (by kernel_rfl)
theorem names_wrap : (Try.f4).isWrapper (Try.pinned).checked.prog Rows.slatNamesRow.wrapper Rows.slatNamesRow.mainSum := by
  unfold Func.isWrapper
  first | (rw [if_pos (by decide +kernel)]; kernel_rfl) | (rw [if_neg (by decide +kernel)]; exact ⟨rfl, rfl⟩)
theorem names_over : Rows.slatNamesRow.holds Try.pinned (OpenSpec.ofChange Rows.slatNamesSpec) :=
  OpenClaim.holds_of_wide 4 Try.f4 rfl rfl rfl rfl rfl rfl rfl ⟨rfl, rfl, rfl, rfl, rfl⟩ rfl rfl rfl rfl rfl names_named Try.func4 names_closed
    names_inst names_wrap
    (fun os started H enc _ => names_lifted os started H enc)

theorem slatNames_proved : Rows.SlatNamesSaid := names_over
end Go.Proofs.Ytaafmfhpoimjhaa
