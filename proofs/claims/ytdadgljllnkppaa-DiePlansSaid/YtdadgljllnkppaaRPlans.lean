/- DiePlans returns true, whatever the input: the best plan, and what it costs, are the document's, or why there is none (at most 8 dies; at most 5 draws, or from 9 to 12).  No conditions. -/
import Derived.Test.YtdadgljllnkppaaRows
import Derived.Test.YtdadgljllnkppaaLx
import Derived.Test.YtdadgljllnkppaaSo
namespace Go.Proofs.Ytdadgljllnkppaa
open Go.ChangeShapes Go.WideShapes Go.ChangeAt Go.RowKit Go.Joins Go.Deep

theorem params_plans : Try.f4.params = #[26, 27] := by kernel_rfl
set_option maxRecDepth 100000 in
theorem plans_lifted (os : Os) (started : os.Started) (H : Type) (enc : TypeId × Value → H) :
    ReturnsInHanded {} Try.checked os 4 .any (Rows.diePlansSpec.pre6 enc Try.prog Try.f4 Rows.diePlansRow.domain false) (Rows.diePlansSpec.post enc Try.prog Try.f4 false true false false) := by
  refine returnsInHanded_of_change (C := Try.checked) Inp.own started (by kernel_rfl) Try.func4
    (ChangeSpec.witness6 (enc := enc) (C := Try.checked) false ⟨#[], #[.agg #[.slice none 0 0, .int .i64 0, .int .i64 0, .int .i64 0], .slice none 0 0], []⟩ 8 (by kernel_rfl) (by kernel_rfl) (by kernel_rfl) (by kernel_rfl)) ?_
  intro W base args ds gs before hval0 hW hcnd _
  have hval : ∀ (j : Nat) t v, Try.f4.params[j]? = some t → args[j]? = some v → Value.okWide Try.prog W .any base t v := hval0
  have hW' := hW
  obtain ⟨p, q, hA0, hV, rfl, hfz, hnd⟩ := hW
  have hA : DataW.TrodAll enc Try.prog W 0 (fun _ => true) true Try.f4.params.toList args.toList ds p := hA0
  rw [params_plans] at hA hval
  obtain ⟨v0, vs0, d0, ds0, p0, q0, hargs, rfl, rfl, h0, r0⟩ := trodAll_cons hA
  obtain ⟨v1, vs1, d1, ds1, p1, q1, rfl, rfl, rfl, h1, r1⟩ := trodAll_cons r0
  obtain ⟨rfl, rfl, rfl⟩ := trodAll_nil r1
  obtain rfl : args = #[v0, v1] := by cases args; simp_all
  obtain ⟨rfl, rfl⟩ := trodVars_none hV
  obtain ⟨A, c, pr, rfl, hlen, -, hS⟩ := Inp.open_press (hval 0 26 v0 rfl rfl) h0
  obtain ⟨T, d, l, rfl, hlenl, hcap, hT⟩ := Inp.open_draws (hval 1 27 v1 rfl rfl) h1
  clear hA0 hval0
  refine (dplans_any W A T c d pr l hlen hlenl hcap hS hT).mono fun e W' ⟨he, hb⟩ => ?_
  subst he
  refine ⟨_, rfl, ?_⟩
  have hlt : ∀ x ∈ p0 ++ (p1 ++ []), x.block < W.heap.size := fun x hx => hW'.lt x (by simpa using hx)
  have hR : ∀ sp : Nat → Bool, (∀ x ∈ p0 ++ p1, sp x.block = true) → DataW.TrodAll enc Try.prog W' 0 sp true Try.f4.params.toList _ _ _ := fun sp hsp => by
    rw [params_plans]
    exact Inp.trodAll_stays (by kernel_rfl) (by decide +kernel) hA (fun x hx => hb.same (hlt x hx)) (fun x hx => hsp x (by simpa using hx))
  have hold : ∀ x ∈ p0 ++ p1, (fun b => decide (b < W.heap.size)) x.block = true := fun x hx => by simpa using hlt x (by simpa using hx)
  refine ⟨_, _, _, [], _, [], hW', trodAll_cons_mk (shut_bool Inp.und_bool _) trodAll_mk0, hR _ hold, rfl, World.keptBut_mono (fun x hx => ⟨hx, ?_⟩) (hb.frame (· ∈ _)), fun _ => ?_⟩
  · simpa using hx
  · obtain ⟨_, _, _, _, _, hz, hn⟩ := hW'
    refine ⟨ok_one (by kernel_rfl) rfl (okWide_bool_mk Inp.und_bool _), _, [], _, ⟨_, [], trodAll_append (hR _ (fun _ _ => rfl)) (trodAll_cons_mk (shut_bool Inp.und_bool _) trodAll_mk0), rfl, rfl, ?_, ?_⟩, ?_⟩
    · intro b off hx
      rw [hb.frozen (hlt _ (by simpa using hx))]
      exact hz b off (by simpa using hx)
    · intro h; cases h
    · intro x hx _
      simpa using hx

theorem plans_named : (Try.pinned).checked.prog.funcNamed Rows.diePlansRow.func = some 4 := by kernel_rfl
theorem plans_closed : joinedFacts (Try.pinned).checked.prog 4 Try.f4 Rows.diePlansSpec Rows.diePlansRow = true := by kernel_rfl
theorem plans_inst : (Try.f4).isInstance (Try.pinned).checked.prog Rows.diePlansRow.origin Rows.diePlansRow.targs := of_decide_eq_true (by kernel_rfl)
theorem plans_wrap : (Try.f4).isWrapper (Try.pinned).checked.prog Rows.diePlansRow.wrapper Rows.diePlansRow.mainSum := by
  unfold Func.isWrapper
  first | (rw [if_pos (by decide +kernel)]; kernel_rfl) | (rw [if_neg (by decide +kernel)]; exact ⟨rfl, rfl⟩)
theorem plans_over : Rows.diePlansRow.holds Try.pinned (OpenSpec.ofChange Rows.diePlansSpec) :=
  OpenClaim.holds_of_wide 4 Try.f4 rfl rfl rfl rfl rfl rfl rfl ⟨rfl, rfl, rfl, rfl, rfl⟩ rfl rfl rfl rfl rfl plans_named Try.func4 plans_closed
    plans_inst plans_wrap
    (fun os started H enc _ => plans_lifted os started H enc)

theorem diePlans_proved : Rows.DiePlansSaid := plans_over
end Go.Proofs.Ytdadgljllnkppaa
