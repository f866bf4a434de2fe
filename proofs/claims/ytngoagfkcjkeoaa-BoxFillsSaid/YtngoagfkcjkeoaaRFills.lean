/- BoxFills returns true, whatever the input: how boxes are filled, and how many pencils of a pile are needed, are the document's, or why they are not known.  No conditions. -/
import Derived.Test.YtngoagfkcjkeoaaRows
import Derived.Test.YtngoagfkcjkeoaaOb
import Derived.Test.YtngoagfkcjkeoaaFl
namespace Go.Proofs.Ytngoagfkcjkeoaa
open Go.ChangeShapes Go.WideShapes Go.ChangeAt Go.RowKit Go.Joins Go.Deep

theorem params_fills : Try.f4.params = #[22, 23, 3, 3] := by kernel_rfl
set_option maxRecDepth 100000 in
theorem fills_lifted (os : Os) (started : os.Started) (H : Type) (enc : TypeId × Value → H) :
    ReturnsInHanded {} Try.checked os 4 .any (Rows.boxFillsSpec.pre6 enc Try.prog Try.f4 Rows.boxFillsRow.domain false) (Rows.boxFillsSpec.post enc Try.prog Try.f4 false true false false) := by
  refine returnsInHanded_of_change (C := Try.checked) Inp.own started (by kernel_rfl) Try.func4
    (ChangeSpec.witness6 (enc := enc) (C := Try.checked) false ⟨#[], #[.slice none 0 0, .slice none 0 0, .int .i64 0, .int .i64 0], []⟩ 8 (by kernel_rfl) (by kernel_rfl) (by kernel_rfl) (by kernel_rfl)) ?_
  intro W base args ds gs before hval0 hW hcnd _
  have hval : ∀ (j : Nat) t v, Try.f4.params[j]? = some t → args[j]? = some v → Value.okWide Try.prog W .any base t v := hval0
  have hW' := hW
  obtain ⟨p, q, hA0, hV, rfl, hfz, hnd⟩ := hW
  have hA : DataW.TrodAll enc Try.prog W 0 (fun _ => true) true Try.f4.params.toList args.toList ds p := hA0
  rw [params_fills] at hA hval
  obtain ⟨v0, vs0, d0, ds0, p0, q0, hargs, rfl, rfl, h0, r0⟩ := trodAll_cons hA
  obtain ⟨v1, vs1, d1, ds1, p1, q1, rfl, rfl, rfl, h1, r1⟩ := trodAll_cons r0
  obtain ⟨v2, vs2, d2, ds2, p2, q2, rfl, rfl, rfl, h2, r2⟩ := trodAll_cons r1
  obtain ⟨v3, vs3, d3, ds3, p3, q3, rfl, rfl, rfl, h3, r3⟩ := trodAll_cons r2
  obtain ⟨rfl, rfl, rfl⟩ := trodAll_nil r3
  obtain rfl : args = #[v0, v1, v2, v3] := by cases args; simp_all
  obtain ⟨rfl, rfl⟩ := trodVars_none hV
  obtain ⟨A0, c0, a0, rfl, hl0, hS0⟩ := Inp.open_ints (hval 0 22 v0 rfl rfl) h0
  obtain ⟨A1, c1, a1, rfl, hl1, hS1, hn1, hc1⟩ := Inp.open_piles (hval 1 23 v1 rfl rfl) h1
  obtain ⟨a2, rfl, rfl, rfl, w2⟩ := open_int Inp.und_int (hval 2 3 v2 rfl rfl) h2
  obtain ⟨a3, rfl, rfl, rfl, w3⟩ := open_int Inp.und_int (hval 3 3 v3 rfl rfl) h3
  clear hA0 hval0
  refine (fills9_any W A0 A1 c0 c1 a0 a1 a2 a3 hl0 hl1 hc1 hS0 hS1).mono fun e W' ⟨he, hb⟩ => ?_
  subst he
  refine ⟨_, rfl, ?_⟩
  have hlt : ∀ x ∈ ((p0 ++ (p1 ++ ([] ++ ([] ++ [])))) : List MemPlace), x.block < W.heap.size := fun x hx => hW'.lt x (by simpa using hx)
  have hR : ∀ sp : Nat → Bool, (∀ x ∈ (p0 ++ (p1) : List MemPlace), sp x.block = true) → DataW.TrodAll enc Try.prog W' 0 sp true Try.f4.params.toList _ _ _ := fun sp hsp => by
    rw [params_fills]
    exact Inp.trodAll_stays (by kernel_rfl) (by decide +kernel) hA (fun x hx => hb.same (hlt x hx)) (fun x hx => hsp x (by simpa using hx))
  have hold : ∀ x ∈ (p0 ++ (p1) : List MemPlace), (fun b => decide (b < W.heap.size)) x.block = true := fun x hx => by simpa using hlt x (by simpa using hx)
  refine ⟨_, _, _, [], _, [], hW', trodAll_cons_mk (shut_bool Inp.und_bool _) trodAll_mk0, hR _ hold, rfl, World.keptBut_mono (fun x hx => ⟨hx, ?_⟩) (hb.frame (· ∈ _)), fun _ => ?_⟩
  · simpa using hx
  · obtain ⟨_, _, _, _, _, hz, hn⟩ := hW'
    refine ⟨ok_one (by kernel_rfl) rfl (okWide_bool_mk Inp.und_bool _), _, [], _, ⟨_, [], trodAll_append (hR _ (fun _ _ => rfl)) (trodAll_cons_mk (shut_bool Inp.und_bool _) trodAll_mk0), rfl, rfl, ?_, ?_⟩, ?_⟩
    · intro b off hx
      rw [hb.frozen (hlt _ (by simpa using hx))]
      exact hz b off (by simpa using hx)
    · intro h; cases h
    · intro x hx _
      simpa using hx

theorem fills_named : (Try.pinned).checked.prog.funcNamed Rows.boxFillsRow.func = some 4 := by kernel_rfl
theorem fills_closed : joinedFacts (Try.pinned).checked.prog 4 Try.f4 Rows.boxFillsSpec Rows.boxFillsRow = true := by kernel_rfl
theorem fills_inst : (Try.f4).isInstance (Try.pinned).checked.prog Rows.boxFillsRow.origin Rows.boxFillsRow.targs := of_decide_eq_true (by kernel_rfl)
theorem fills_wrap : (Try.f4).isWrapper (Try.pinned).checked.prog Rows.boxFillsRow.wrapper Rows.boxFillsRow.mainSum := by
  unfold Func.isWrapper
  first | (rw [if_pos (by decide +kernel)]; kernel_rfl) | (rw [if_neg (by decide +kernel)]; exact ⟨rfl, rfl⟩)
theorem fills_over : Rows.boxFillsRow.holds Try.pinned (OpenSpec.ofChange Rows.boxFillsSpec) :=
  OpenClaim.holds_of_wide 4 Try.f4 rfl rfl rfl rfl rfl rfl rfl ⟨rfl, rfl, rfl, rfl, rfl⟩ rfl rfl rfl rfl rfl fills_named Try.func4 fills_closed
    fills_inst fills_wrap
    (fun os started H enc _ => fills_lifted os started H enc)

theorem boxFills_proved : Rows.BoxFillsSaid := fills_over
end Go.Proofs.Ytngoagfkcjkeoaa
