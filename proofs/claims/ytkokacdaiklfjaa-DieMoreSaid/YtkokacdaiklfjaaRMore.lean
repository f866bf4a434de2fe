/- DieMore returns true, whatever the input: with narrower wear and shrinkage, or wider draws, a good plan stays good, and the best one costs no more; nor does it with one draw less at the end, or one die more. -/
import Derived.Test.YtkokacdaiklfjaaRows
import Derived.Test.YtkokacdaiklfjaaSu
import Derived.Test.YtkokacdaiklfjaaLm
namespace Go.Proofs.Ytkokacdaiklfjaa
open Go.ChangeShapes Go.WideShapes Go.ChangeAt Go.RowKit Go.Joins Go.Deep

namespace Inp
set_option maxRecDepth 100000 in
theorem draws_none {H : Type} {enc : TypeId × Value → H} {w : World} {base : Nat} {spare : Nat → Bool} {held : Bool} {d : DataW H} {p : List MemPlace} {A : Option Addr} {n c : Nat} (h : DataW.Trod enc Try.prog w base spare held 27 (.slice A n c) d p) (hA : A = none) : c = 0 := by
  obtain ⟨fuel, hf⟩ := h
  rcases open_slice und_draws hf with ⟨hcs, hx⟩ | ⟨a, len, cap, m, n', D, Pl, hcs, -⟩
  · simp [Value.cells] at hcs
    exact hcs.2.2
  · simp [Value.cells, hA] at hcs
set_option maxRecDepth 100000 in
theorem open_die {H : Type} {enc : TypeId × Value → H} {w : World} {base : Nat} {spare : Nat → Bool} {held : Bool} {d : DataW H} {p : List MemPlace} {v : Value} {r : Go.Reach} {b0 : Nat} (hval : Value.okWide Try.prog w r b0 49 v) (h : DataW.Trod enc Try.prog w base spare held 49 v d p) :
    ∃ t : Die, v = .agg #[.int .i64 t.wide, .int .i64 t.wear.lo, .int .i64 t.wear.hi] := by
  obtain ⟨cs, rfl, hsz⟩ := okWide_struct und_die hval
  obtain ⟨fuel, hf⟩ := h
  obtain ⟨t, ht⟩ := die_cells hf
  refine ⟨t, ?_⟩
  have : cs.toList = [.int .i64 (dieF t).1, .int .i64 (dieF t).2.1, .int .i64 (dieF t).2.2] := ht
  cases cs
  simp only at this
  subst this
  rfl
end Inp
theorem u8_bd {t : Int} (hwf : (Lit.int .u8 t).wf = true) : 0 ≤ t ∧ t ≤ 255 := by
  simp only [Lit.wf] at hwf
  simpa [IntKind.min, IntKind.max, IntKind.signed, IntKind.bits] using hwf
theorem params_more : Try.f8.params = #[26, 27, 49, 5, 5] := by kernel_rfl
set_option maxRecDepth 100000 in
theorem more_lifted (os : Os) (started : os.Started) (H : Type) (enc : TypeId × Value → H) :
    ReturnsInHanded {} Try.checked os 8 .any (Rows.dieMoreSpec.pre6 enc Try.prog Try.f8 Rows.dieMoreRow.domain false) (Rows.dieMoreSpec.post enc Try.prog Try.f8 false true false false) := by
  refine returnsInHanded_of_change (C := Try.checked) Inp.own started (by kernel_rfl) Try.func8
    (ChangeSpec.witness6 (enc := enc) (C := Try.checked) false ⟨#[], #[.agg #[.slice none 0 0, .int .i64 0, .int .i64 0, .int .i64 0], .slice none 0 0, .agg #[.int .i64 0, .int .i64 0, .int .i64 0], .int .u8 0, .int .u8 0], []⟩ 8 (by kernel_rfl) (by kernel_rfl) (by kernel_rfl) (by kernel_rfl)) ?_
  intro W base args ds gs before hval0 hW hcnd _
  have hval : ∀ (j : Nat) t v, Try.f8.params[j]? = some t → args[j]? = some v → Value.okWide Try.prog W .any base t v := hval0
  have hW' := hW
  obtain ⟨p, q, hA0, hV, rfl, hfz, hnd⟩ := hW
  have hA : DataW.TrodAll enc Try.prog W 0 (fun _ => true) true Try.f8.params.toList args.toList ds p := hA0
  rw [params_more] at hA hval
  obtain ⟨v0, vs0, d0, ds0, p0, q0, hargs, rfl, rfl, h0, r0⟩ := trodAll_cons hA
  obtain ⟨v1, vs1, d1, ds1, p1, q1, rfl, rfl, rfl, h1, r1⟩ := trodAll_cons r0
  obtain ⟨v2, vs2, d2, ds2, p2, q2, rfl, rfl, rfl, h2, r2⟩ := trodAll_cons r1
  obtain ⟨v3, vs3, d3, ds3, p3, q3, rfl, rfl, rfl, h3, r3⟩ := trodAll_cons r2
  obtain ⟨v4, vs4, d4, ds4, p4, q4, rfl, rfl, rfl, h4, r4⟩ := trodAll_cons r3
  obtain ⟨rfl, rfl, rfl⟩ := trodAll_nil r4
  obtain rfl : args = #[v0, v1, v2, v3, v4] := by cases args; simp_all
  obtain ⟨rfl, rfl⟩ := trodVars_none hV
  obtain ⟨A, c, pr, rfl, hlen, -, hS⟩ := Inp.open_press (hval 0 26 v0 rfl rfl) h0
  obtain ⟨T, d, l, rfl, hlenl, hcap, hT⟩ := Inp.open_draws (hval 1 27 v1 rfl rfl) h1
  have hTn : T = none → d = 0 := Inp.draws_none h1
  obtain ⟨more, rfl⟩ := Inp.open_die (hval 2 49 v2 rfl rfl) h2
  obtain ⟨a3, rfl, rfl, rfl, w3⟩ := open_int Inp.und_u8' (hval 3 5 v3 rfl rfl) h3
  obtain ⟨a4, rfl, rfl, rfl, w4⟩ := open_int Inp.und_u8' (hval 4 5 v4 rfl rfl) h4
  clear hA0 hval0
  refine (more_any W A T c d pr l more a3 a4 hlen hlenl hS hT hcap hTn (u8_bd w3) (u8_bd w4)).mono fun e W' ⟨he, hb⟩ => ?_
  subst he
  refine ⟨_, rfl, ?_⟩
  have hlt : ∀ x ∈ p0 ++ (p1 ++ (p2 ++ ([] ++ ([] ++ [])))), x.block < W.heap.size := fun x hx => hW'.lt x (by simpa using hx)
  have hR : ∀ sp : Nat → Bool, (∀ x ∈ p0 ++ (p1 ++ p2), sp x.block = true) → DataW.TrodAll enc Try.prog W' 0 sp true Try.f8.params.toList _ _ _ := fun sp hsp => by
    rw [params_more]
    exact Inp.trodAll_stays (by kernel_rfl) (by decide +kernel) hA (fun x hx => hb.same (hlt x hx)) (fun x hx => hsp x (by simpa using hx))
  have hold : ∀ x ∈ p0 ++ (p1 ++ p2), (fun b => decide (b < W.heap.size)) x.block = true := fun x hx => by simpa using hlt x (by simpa using hx)
  refine ⟨_, _, _, [], _, [], hW', trodAll_cons_mk (shut_bool Inp.und_bool _) trodAll_mk0, hR _ hold, rfl, World.keptBut_mono (fun x hx => ⟨hx, ?_⟩) (hb.frame (· ∈ _)), fun _ => ?_⟩
  · simpa using hx
  · obtain ⟨_, _, _, _, _, hz, hn⟩ := hW'
    refine ⟨ok_one (by kernel_rfl) rfl (okWide_bool_mk Inp.und_bool _), _, [], _, ⟨_, [], trodAll_append (hR _ (fun _ _ => rfl)) (trodAll_cons_mk (shut_bool Inp.und_bool _) trodAll_mk0), rfl, rfl, ?_, ?_⟩, ?_⟩
    · intro b off hx
      rw [hb.frozen (hlt _ (by simpa using hx))]
      exact hz b off (by simpa using hx)
    · intro h; cases h
    · intro x hx _
      simpa using hx

theorem more_over : Rows.dieMoreRow.holds Try.pinned (OpenSpec.ofChange Rows.dieMoreSpec) :=
  OpenClaim.holds_of_wide 8 Try.f8 rfl rfl rfl rfl rfl rfl rfl ⟨rfl, rfl, rfl, rfl, rfl⟩ rfl rfl rfl rfl rfl (by kernel_rfl) Try.func8 (by kernel_rfl)
    (of_decide_eq_true (by kernel_rfl)) (by unfold Func.isWrapper; first | (rw [if_pos (by decide +kernel)]; kernel_rfl) | (rw [if_neg (by decide +kernel)]; exact ⟨rfl, rfl⟩))
    (fun os started H enc _ => more_lifted os started H enc)

theorem dieMore_proved : Rows.DieMoreSaid := more_over
end Go.Proofs.Ytkokacdaiklfjaa
