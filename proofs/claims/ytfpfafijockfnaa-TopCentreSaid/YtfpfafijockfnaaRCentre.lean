/- TopCentre returns true, whatever the input: a lead lies as centred as the die that drew it lets it: if the jig is told the leads that Wide tells of a die, each true lead of this die lies off by numbers of the spans, there is room for it in a sandwich that always closes, and a lead with a grade is within its limit.  No conditions. -/
import Derived.Test.YtfpfafijockfnaaRows
import Derived.Test.YtfpfafijockfnaaUe
import Derived.Test.YtfpfafijockfnaaUf
import Derived.Test.YtfpfafijockfnaaUh
namespace Go.Proofs.Ytfpfafijockfnaa
open Go.ChangeShapes Go.WideShapes Go.ChangeAt Go.RowKit Go.Joins Go.Deep

theorem params_centre : Try.f11.params = #[73, 3, 3, 25, 37, 37, 27, 48] := by kernel_rfl
set_option maxRecDepth 100000 in
theorem centre_lifted (os : Os) (started : os.Started) (H : Type) (enc : TypeId × Value → H) :
    ReturnsInHanded {} Try.checked os 11 .any (Rows.topCentreSpec.pre6 enc Try.prog Try.f11 Rows.topCentreRow.domain false) (Rows.topCentreSpec.post enc Try.prog Try.f11 false true false false) := by
  refine returnsInHanded_of_change (C := Try.checked) Inp.own started (by kernel_rfl) Try.func11
    (ChangeSpec.witness6 (enc := enc) (C := Try.checked) false ⟨#[], #[.agg #[.slice none 0 0, .int .i64 0, .int .i64 0, .int .i64 0], .int .i64 0, .int .i64 0, .agg #[.int .i64 0, .int .i64 0, .int .i64 0, .int .i64 0, .int .i64 0, .int .i64 0, .int .i64 0, .int .i64 0, .int .i64 0, .int .i64 0], .agg #[.int .i64 0, .int .i64 0, .int .i64 0, .int .i64 0, .int .i64 0, .int .i64 0, .int .i64 0, .int .i64 0], .agg #[.int .i64 0, .int .i64 0, .int .i64 0, .int .i64 0, .int .i64 0, .int .i64 0, .int .i64 0, .int .i64 0], .slice none 0 0, .slice none 0 0], []⟩ 8 (by kernel_rfl) (by kernel_rfl) (by kernel_rfl) (by kernel_rfl)) ?_
  intro W base args ds gs before hval0 hW hcnd _
  have hval : ∀ (j : Nat) t v, Try.f11.params[j]? = some t → args[j]? = some v → Value.okWide Try.prog W .any base t v := hval0
  have hW' := hW
  obtain ⟨p, q, hA0, hV, rfl, hfz, hnd⟩ := hW
  have hA : DataW.TrodAll enc Try.prog W 0 (fun _ => true) true Try.f11.params.toList args.toList ds p := hA0
  rw [params_centre] at hA hval
  obtain ⟨v0, vs0, d0, ds0, p0, q0, hargs, rfl, rfl, h0, r0⟩ := trodAll_cons hA
  obtain ⟨v1, vs1, d1, ds1, p1, q1, rfl, rfl, rfl, h1, r1⟩ := trodAll_cons r0
  obtain ⟨v2, vs2, d2, ds2, p2, q2, rfl, rfl, rfl, h2, r2⟩ := trodAll_cons r1
  obtain ⟨v3, vs3, d3, ds3, p3, q3, rfl, rfl, rfl, h3, r3⟩ := trodAll_cons r2
  obtain ⟨v4, vs4, d4, ds4, p4, q4, rfl, rfl, rfl, h4, r4⟩ := trodAll_cons r3
  obtain ⟨v5, vs5, d5, ds5, p5, q5, rfl, rfl, rfl, h5, r5⟩ := trodAll_cons r4
  obtain ⟨v6, vs6, d6, ds6, p6, q6, rfl, rfl, rfl, h6, r6⟩ := trodAll_cons r5
  obtain ⟨v7, vs7, d7, ds7, p7, q7, rfl, rfl, rfl, h7, r7⟩ := trodAll_cons r6
  obtain ⟨rfl, rfl, rfl⟩ := trodAll_nil r7
  obtain rfl : args = #[v0, v1, v2, v3, v4, v5, v6, v7] := by cases args; simp_all
  obtain ⟨rfl, rfl⟩ := trodVars_none hV
  obtain ⟨A, c, pr, rfl, hlen, -, hS⟩ := Inp.open_press (hval 0 73 v0 rfl rfl) h0
  obtain ⟨a1, rfl, rfl, rfl, w1⟩ := open_int Inp.und_int (hval 1 3 v1 rfl rfl) h1
  obtain ⟨a2, rfl, rfl, rfl, w2⟩ := open_int Inp.und_int (hval 2 3 v2 rfl rfl) h2
  obtain ⟨j, rfl⟩ := Inp.open_jig (hval 3 25 v3 rfl rfl) h3
  obtain ⟨sa, rfl⟩ := Inp.open_slat (hval 4 37 v4 rfl rfl) h4
  obtain ⟨sb, rfl⟩ := Inp.open_slat (hval 5 37 v5 rfl rfl) h5
  obtain ⟨C, cx, xs, rfl, hlenx, hX⟩ := Inp.open_ints (hval 6 27 v6 rfl rfl) h6
  obtain ⟨Y, cy, ys, rfl, hleny, hY, hyb⟩ := Inp.open_u16s (hval 7 48 v7 rfl rfl) h7
  clear hA0 hval0
  refine (centre_any W A C Y c cx cy pr a1 a2 j sa sb xs ys hlen hlenx hleny hS hX hY hyb).mono fun e W' ⟨he, hb⟩ => ?_
  subst he
  refine ⟨_, rfl, ?_⟩
  have hlt : ∀ x ∈ p0 ++ ([] ++ ([] ++ (p3 ++ (p4 ++ (p5 ++ (p6 ++ (p7 ++ []))))))), x.block < W.heap.size := fun x hx => hW'.lt x (by simpa using hx)
  have hR : ∀ sp : Nat → Bool, (∀ x ∈ p0 ++ (p3 ++ (p4 ++ (p5 ++ (p6 ++ p7)))), sp x.block = true) → DataW.TrodAll enc Try.prog W' 0 sp true Try.f11.params.toList _ _ _ := fun sp hsp => by
    rw [params_centre]
    exact Inp.trodAll_stays (by kernel_rfl) (by decide +kernel) hA (fun x hx => hb.same (hlt x hx)) (fun x hx => hsp x (by simpa using hx))
  have hold : ∀ x ∈ p0 ++ (p3 ++ (p4 ++ (p5 ++ (p6 ++ p7)))), (fun b => decide (b < W.heap.size)) x.block = true := fun x hx => by simpa using hlt x (by simpa using hx)
  refine ⟨_, _, _, [], _, [], hW', trodAll_cons_mk (shut_bool Inp.und_bool _) trodAll_mk0, hR _ hold, rfl, World.keptBut_mono (fun x hx => ⟨hx, ?_⟩) (hb.frame (· ∈ _)), fun _ => ?_⟩
  · simpa using hx
  · obtain ⟨_, _, _, _, _, hz, hn⟩ := hW'
    refine ⟨ok_one (by kernel_rfl) rfl (okWide_bool_mk Inp.und_bool _), _, [], _, ⟨_, [], trodAll_append (hR _ (fun _ _ => rfl)) (trodAll_cons_mk (shut_bool Inp.und_bool _) trodAll_mk0), rfl, rfl, ?_, ?_⟩, ?_⟩
    · intro b off hx
      rw [hb.frozen (hlt _ (by simpa using hx))]
      exact hz b off (by simpa using hx)
    · intro h; cases h
    · intro x hx _
      simpa using hx

theorem centre_named : (Try.pinned).checked.prog.funcNamed Rows.topCentreRow.func = some 11 := by kernel_rfl
theorem centre_closed : joinedFacts (Try.pinned).checked.prog 11 Try.f11 Rows.topCentreSpec Rows.topCentreRow = true := by kernel_rfl
theorem centre_inst : (Try.f11).isInstance (Try.pinned).checked.prog Rows.topCentreRow.origin Rows.topCentreRow.targs := of_decide_eq_true (by kernel_rfl)
theorem centre_wrap : (Try.f11).isWrapper (Try.pinned).checked.prog Rows.topCentreRow.wrapper Rows.topCentreRow.mainSum := by
  unfold Func.isWrapper
  first | (rw [if_pos (by decide +kernel)]; kernel_rfl) | (rw [if_neg (by decide +kernel)]; exact ⟨rfl, rfl⟩)
theorem centre_over : Rows.topCentreRow.holds Try.pinned (OpenSpec.ofChange Rows.topCentreSpec) :=
  OpenClaim.holds_of_wide 11 Try.f11 rfl rfl rfl rfl rfl rfl rfl ⟨rfl, rfl, rfl, rfl, rfl⟩ rfl rfl rfl rfl rfl centre_named Try.func11 centre_closed
    centre_inst centre_wrap
    (fun os started H enc _ => centre_lifted os started H enc)

theorem topCentre_proved : Rows.TopCentreSaid := centre_over
end Go.Proofs.Ytfpfafijockfnaa
