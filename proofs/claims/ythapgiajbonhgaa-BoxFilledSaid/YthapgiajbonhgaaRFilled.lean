/- BoxFilled returns true, whatever the input: what Fill returns is an assignment; the greatest number of boxes can be filled, and one more cannot, as the proof shows.  No conditions. -/
import Derived.Test.YthapgiajbonhgaaRows
import Derived.Test.YthapgiajbonhgaaOb
import Derived.Test.YthapgiajbonhgaaFd
namespace Go.Proofs.Ythapgiajbonhgaa
open Go.ChangeShapes Go.WideShapes Go.ChangeAt Go.RowKit Go.Joins Go.Deep

theorem params_filled : Try.f5.params = #[22, 23] := by kernel_rfl
set_option maxRecDepth 100000 in
theorem filled_lifted (os : Os) (started : os.Started) (H : Type) (enc : TypeId × Value → H) :
    ReturnsInHanded {} Try.checked os 5 .any (Rows.boxFilledSpec.pre6 enc Try.prog Try.f5 Rows.boxFilledRow.domain false) (Rows.boxFilledSpec.post enc Try.prog Try.f5 false true false false) := by
  refine returnsInHanded_of_change (C := Try.checked) Inp.own started (by kernel_rfl) Try.func5
    (ChangeSpec.witness6 (enc := enc) (C := Try.checked) false ⟨#[], #[.slice none 0 0, .slice none 0 0], []⟩ 8 (by kernel_rfl) (by kernel_rfl) (by kernel_rfl) (by kernel_rfl)) ?_
  intro W base args ds gs before hval0 hW hcnd _
  have hval : ∀ (j : Nat) t v, Try.f5.params[j]? = some t → args[j]? = some v → Value.okWide Try.prog W .any base t v := hval0
  have hW' := hW
  obtain ⟨p, q, hA0, hV, rfl, hfz, hnd⟩ := hW
  have hA : DataW.TrodAll enc Try.prog W 0 (fun _ => true) true Try.f5.params.toList args.toList ds p := hA0
  rw [params_filled] at hA hval
  obtain ⟨v0, vs0, d0, ds0, p0, q0, hargs, rfl, rfl, h0, r0⟩ := trodAll_cons hA
  obtain ⟨v1, vs1, d1, ds1, p1, q1, rfl, rfl, rfl, h1, r1⟩ := trodAll_cons r0
  obtain ⟨rfl, rfl, rfl⟩ := trodAll_nil r1
  obtain rfl : args = #[v0, v1] := by cases args; simp_all
  obtain ⟨rfl, rfl⟩ := trodVars_none hV
  obtain ⟨A0, c0, a0, rfl, hl0, hS0⟩ := Inp.open_ints (hval 0 22 v0 rfl rfl) h0
  obtain ⟨A1, c1, a1, rfl, hl1, hS1, hn1⟩ := Inp.open_piles (hval 1 23 v1 rfl rfl) h1
  clear hA0 hval0
  refine (filled9_any W A0 A1 c0 c1 a0 a1 hl0 hl1 hS0 hS1).mono fun e W' ⟨he, hb⟩ => ?_
  subst he
  refine ⟨_, rfl, ?_⟩
  have hlt : ∀ x ∈ ((p0 ++ (p1 ++ [])) : List MemPlace), x.block < W.heap.size := fun x hx => hW'.lt x (by simpa using hx)
  have hR : ∀ sp : Nat → Bool, (∀ x ∈ (p0 ++ (p1) : List MemPlace), sp x.block = true) → DataW.TrodAll enc Try.prog W' 0 sp true Try.f5.params.toList _ _ _ := fun sp hsp => by
    rw [params_filled]
    exact Inp.trodAll_stays (by kernel_rfl) (by decide +kernel) hA (fun x hx => hb.same (hlt x hx)) (fun x hx => hsp x (by simpa using hx))
  have hold : ∀ x ∈ (p0 ++ (p1) : List MemPlace), (fun b => decide (b < W.heap.size)) x.block = true := fun x hx => by simpa using hlt x (by simpa using hx)
  refine ⟨_, _, _, [], _, [], hW', trodAll_cons_mk (shut_bool Inp.und_bool _) trodAll_mk0, hR _ hold, rfl, World.keptBut_mono (fun x hx => ⟨hx, ?_⟩) (hb.frame (· ∈ _)), fun _ => ?_⟩
  · simpa using hx
  · obtain ⟨_, _, _, _, _, hz, hn⟩ := hW'
    refine ⟨ok_one (by kernel_rfl) rfl (okWide_bool_mk Inp.und_bool _), _, [], _, ⟨_, [], trodAll_append (hR _ (fun _ _ => rfl)) (trodAll_cons_mk (shut_bool Inp.und_bool _) trodAll_mk0), rfl, rfl, ?_, ?_⟩, ?_⟩
    · intro b off hx
      rw [hb.frozen (hlt _ (by simpa using hx))]
      exact hz b off (by simpa using hx)
    · intro h; cases h
    · intro x hx _
      simpa using hx

theorem filled_named : (Try.pinned).checked.prog.funcNamed Rows.boxFilledRow.func = some 5 := by kernel_rfl
theorem filled_closed : joinedFacts (Try.pinned).checked.prog 5 Try.f5 Rows.boxFilledSpec Rows.boxFilledRow = true := by kernel_rfl
theorem filled_inst : (Try.f5).isInstance (Try.pinned).checked.prog Rows.boxFilledRow.origin Rows.boxFilledRow.targs := of_decide_eq_true (by kernel_rfl)
theorem filled_wrap : (Try.f5).isWrapper (Try.pinned).checked.prog Rows.boxFilledRow.wrapper Rows.boxFilledRow.mainSum := by
  unfold Func.isWrapper
  first | (rw [if_pos (by decide +kernel)]; kernel_rfl) | (rw [if_neg (by decide +kernel)]; exact ⟨rfl, rfl⟩)
theorem filled_over : Rows.boxFilledRow.holds Try.pinned (OpenSpec.ofChange Rows.boxFilledSpec) :=
  OpenClaim.holds_of_wide 5 Try.f5 rfl rfl rfl rfl rfl rfl rfl ⟨rfl, rfl, rfl, rfl, rfl⟩ rfl rfl rfl rfl rfl filled_named Try.func5 filled_closed
    filled_inst filled_wrap
    (fun os started H enc _ => filled_lifted os started H enc)

theorem boxFilled_proved : Rows.BoxFilledSaid := filled_over
end Go.Proofs.Ythapgiajbonhgaa
