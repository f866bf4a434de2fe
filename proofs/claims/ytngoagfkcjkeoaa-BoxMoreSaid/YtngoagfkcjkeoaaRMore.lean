/- BoxMore returns true, whatever the input: with more pencils, or more shades of a pile, no fewer boxes can be filled; two piles with the same shades are as good as one; and neither the order of piles nor that of shades makes a difference to how many there are.  No conditions. -/
import Derived.Test.YtngoagfkcjkeoaaRows
import Derived.Test.YtngoagfkcjkeoaaOb
import Derived.Test.YtngoagfkcjkeoaaMw
namespace Go.Proofs.Ytngoagfkcjkeoaa
open Go.ChangeShapes Go.WideShapes Go.ChangeAt Go.RowKit Go.Joins Go.Deep

theorem params_more : Try.f9.params = #[22, 23, 5, 50] := by kernel_rfl
set_option maxRecDepth 100000 in
theorem more_lifted (os : Os) (started : os.Started) (H : Type) (enc : TypeId × Value → H) :
    ReturnsInHanded {} Try.checked os 9 .any (Rows.boxMoreSpec.pre6 enc Try.prog Try.f9 Rows.boxMoreRow.domain false) (Rows.boxMoreSpec.post enc Try.prog Try.f9 false true false false) := by
  refine returnsInHanded_of_change (C := Try.checked) Inp.own started (by kernel_rfl) Try.func9
    (ChangeSpec.witness6 (enc := enc) (C := Try.checked) false ⟨#[], #[.slice none 0 0, .slice none 0 0, .int .u8 0, .int .u16 0], []⟩ 8 (by kernel_rfl) (by kernel_rfl) (by kernel_rfl) (by kernel_rfl)) ?_
  intro W base args ds gs before hval0 hW hcnd _
  have hval : ∀ (j : Nat) t v, Try.f9.params[j]? = some t → args[j]? = some v → Value.okWide Try.prog W .any base t v := hval0
  have hW' := hW
  obtain ⟨p, q, hA0, hV, rfl, hfz, hnd⟩ := hW
  have hA : DataW.TrodAll enc Try.prog W 0 (fun _ => true) true Try.f9.params.toList args.toList ds p := hA0
  rw [params_more] at hA hval
  obtain ⟨v0, vs0, d0, ds0, p0, q0, hargs, rfl, rfl, h0, r0⟩ := trodAll_cons hA
  obtain ⟨v1, vs1, d1, ds1, p1, q1, rfl, rfl, rfl, h1, r1⟩ := trodAll_cons r0
  obtain ⟨v2, vs2, d2, ds2, p2, q2, rfl, rfl, rfl, h2, r2⟩ := trodAll_cons r1
  obtain ⟨v3, vs3, d3, ds3, p3, q3, rfl, rfl, rfl, h3, r3⟩ := trodAll_cons r2
  obtain ⟨rfl, rfl, rfl⟩ := trodAll_nil r3
  obtain rfl : args = #[v0, v1, v2, v3] := by cases args; simp_all
  obtain ⟨rfl, rfl⟩ := trodVars_none hV
  obtain ⟨A0, c0, a0, rfl, hl0, hS0⟩ := Inp.open_ints (hval 0 22 v0 rfl rfl) h0
  obtain ⟨A1, c1, a1, rfl, hl1, hS1, hn1, hc1⟩ := Inp.open_piles (hval 1 23 v1 rfl rfl) h1
  obtain ⟨a2, rfl, rfl, rfl, w2⟩ := open_int Inp.und_u8' (hval 2 5 v2 rfl rfl) h2
  obtain ⟨a3, rfl, rfl, rfl, w3⟩ := open_int Inp.und_u16' (hval 3 50 v3 rfl rfl) h3
  clear hA0 hval0
  refine (more9_any W A0 A1 c0 c1 a0 a1 a2 a3 hl0 hl1 (Inp.u8_bd w2) (Inp.u16_bd w3) hS0 hS1).mono fun e W' ⟨he, hb⟩ => ?_
  subst he
  refine ⟨_, rfl, ?_⟩
  have hlt : ∀ x ∈ ((p0 ++ (p1 ++ ([] ++ ([] ++ [])))) : List MemPlace), x.block < W.heap.size := fun x hx => hW'.lt x (by simpa using hx)
  have hR : ∀ sp : Nat → Bool, (∀ x ∈ (p0 ++ (p1) : List MemPlace), sp x.block = true) → DataW.TrodAll enc Try.prog W' 0 sp true Try.f9.params.toList _ _ _ := fun sp hsp => by
    rw [params_more]
    exact Inp.trodAll_stays (by kernel_rfl) (by decide +kernel) hA (fun x hx => hb.same (hlt x hx)) (fun x hx => hsp x (by simpa using hx))
  have hold : ∀ x ∈ (p0 ++ (p1) : List MemPlace), (fun b => decide (b < W.heap.size)) x.block = true := fun x hx => by simpa using hlt x (by simpa using hx)
  refine ⟨_, _, _, [], _, [], hW', trodAll_cons_mk (shut_bool Inp.und_bool _) trodAll_mk0, hR _ hold, rfl, World.keptBut_mono (fun x hx => ⟨hx, ?_⟩) (hb.frame (· ∈ _)), fun _ => ?_⟩
  · simpa using hx
  · obtain ⟨_, _, _, _, _, hz, hn⟩ := hW'
    refine ⟨ok_one (by kernel_rfl) rfl (okWide_bool_mk Inp.und_bool _), _, [], _, ⟨_, [], trodAll_append (hR _ (fun _ _ => rfl)) (trodAll_cons_mk (shut_bool Inp.und_bool _) trodAll_mk0), rfl, rfl, ?_, ?_⟩, ?_⟩
    · intro b off hx
      rw [hb.frozen (hlt _ (by simpa using hx))]
      exact hz b off (by simpa using hx)
    · intro h; cases h
    · intro x hx _
      simpa using hx

theorem more_named : (Try.pinned).checked.prog.funcNamed Rows.boxMoreRow.func = some 9 := by kernel_rfl
theorem more_closed : joinedFacts (Try.pinned).checked.prog 9 Try.f9 Rows.boxMoreSpec Rows.boxMoreRow = true := by kernel_rfl
theorem more_inst : (Try.f9).isInstance (Try.pinned).checked.prog Rows.boxMoreRow.origin Rows.boxMoreRow.targs := of_decide_eq_true (by kernel_rfl)
theorem more_wrap : (Try.f9).isWrapper (Try.pinned).checked.prog Rows.boxMoreRow.wrapper Rows.boxMoreRow.mainSum := by
  unfold Func.isWrapper
  first | (rw [if_pos (by decide +kernel)]; kernel_rfl) | (rw [if_neg (by decide +kernel)]; exact ⟨rfl, rfl⟩)
theorem more_over : Rows.boxMoreRow.holds Try.pinned (OpenSpec.ofChange Rows.boxMoreSpec) :=
  OpenClaim.holds_of_wide 9 Try.f9 rfl rfl rfl rfl rfl rfl rfl ⟨rfl, rfl, rfl, rfl, rfl⟩ rfl rfl rfl rfl rfl more_named Try.func9 more_closed
    more_inst more_wrap
    (fun os started H enc _ => more_lifted os started H enc)

theorem boxMore_proved : Rows.BoxMoreSaid := more_over
end Go.Proofs.Ytngoagfkcjkeoaa
