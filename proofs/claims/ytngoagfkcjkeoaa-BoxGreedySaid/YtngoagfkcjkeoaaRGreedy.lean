/- BoxGreedy returns true, whatever the input: each number of Fill is as great as it can be, so that all others can still be chosen: with one pencil more of a pile as some shade, a set of shades is short.  No conditions. -/
import Derived.Test.YtngoagfkcjkeoaaRows
import Derived.Test.YtngoagfkcjkeoaaOb
import Derived.Test.YtngoagfkcjkeoaaGy
namespace Go.Proofs.Ytngoagfkcjkeoaa
open Go.ChangeShapes Go.WideShapes Go.ChangeAt Go.RowKit Go.Joins Go.Deep

theorem params_greedy : Try.f6.params = #[22, 23, 3, 5, 5] := by kernel_rfl
set_option maxRecDepth 100000 in
theorem greedy_lifted (os : Os) (started : os.Started) (H : Type) (enc : TypeId × Value → H) :
    ReturnsInHanded {} Try.checked os 6 .any (Rows.boxGreedySpec.pre6 enc Try.prog Try.f6 Rows.boxGreedyRow.domain false) (Rows.boxGreedySpec.post enc Try.prog Try.f6 false true false false) := by
  refine returnsInHanded_of_change (C := Try.checked) Inp.own started (by kernel_rfl) Try.func6
    (ChangeSpec.witness6 (enc := enc) (C := Try.checked) false ⟨#[], #[.slice none 0 0, .slice none 0 0, .int .i64 0, .int .u8 0, .int .u8 0], []⟩ 8 (by kernel_rfl) (by kernel_rfl) (by kernel_rfl) (by kernel_rfl)) ?_
  intro W base args ds gs before hval0 hW hcnd _
  have hval : ∀ (j : Nat) t v, Try.f6.params[j]? = some t → args[j]? = some v → Value.okWide Try.prog W .any base t v := hval0
  have hW' := hW
  obtain ⟨p, q, hA0, hV, rfl, hfz, hnd⟩ := hW
  have hA : DataW.TrodAll enc Try.prog W 0 (fun _ => true) true Try.f6.params.toList args.toList ds p := hA0
  rw [params_greedy] at hA hval
  obtain ⟨v0, vs0, d0, ds0, p0, q0, hargs, rfl, rfl, h0, r0⟩ := trodAll_cons hA
  obtain ⟨v1, vs1, d1, ds1, p1, q1, rfl, rfl, rfl, h1, r1⟩ := trodAll_cons r0
  obtain ⟨v2, vs2, d2, ds2, p2, q2, rfl, rfl, rfl, h2, r2⟩ := trodAll_cons r1
  obtain ⟨v3, vs3, d3, ds3, p3, q3, rfl, rfl, rfl, h3, r3⟩ := trodAll_cons r2
  obtain ⟨v4, vs4, d4, ds4, p4, q4, rfl, rfl, rfl, h4, r4⟩ := trodAll_cons r3
  obtain ⟨rfl, rfl, rfl⟩ := trodAll_nil r4
  obtain rfl : args = #[v0, v1, v2, v3, v4] := by cases args; simp_all
  obtain ⟨rfl, rfl⟩ := trodVars_none hV
  obtain ⟨A0, c0, a0, rfl, hl0, hS0⟩ := Inp.open_ints (hval 0 22 v0 rfl rfl) h0
  obtain ⟨A1, c1, a1, rfl, hl1, hS1, hn1, hc1⟩ := Inp.open_piles (hval 1 23 v1 rfl rfl) h1
  obtain ⟨a2, rfl, rfl, rfl, w2⟩ := open_int Inp.und_int (hval 2 3 v2 rfl rfl) h2
  obtain ⟨a3, rfl, rfl, rfl, w3⟩ := open_int Inp.und_u8' (hval 3 5 v3 rfl rfl) h3
  obtain ⟨a4, rfl, rfl, rfl, w4⟩ := open_int Inp.und_u8' (hval 4 5 v4 rfl rfl) h4
  clear hA0 hval0
  refine (greedy9_any W A0 A1 c0 c1 a0 a1 a2 a3 a4 hl0 hl1 hc1 (Inp.u8_bd w3) (Inp.u8_bd w4) hS0 hS1).mono fun e W' ⟨he, hb⟩ => ?_
  subst he
  refine ⟨_, rfl, ?_⟩
  have hlt : ∀ x ∈ ((p0 ++ (p1 ++ ([] ++ ([] ++ ([] ++ []))))) : List MemPlace), x.block < W.heap.size := fun x hx => hW'.lt x (by simpa using hx)
  have hR : ∀ sp : Nat → Bool, (∀ x ∈ (p0 ++ (p1) : List MemPlace), sp x.block = true) → DataW.TrodAll enc Try.prog W' 0 sp true Try.f6.params.toList _ _ _ := fun sp hsp => by
    rw [params_greedy]
    exact Inp.trodAll_stays (by kernel_rfl) (by decide +kernel) hA (fun x hx => hb.same (hlt x hx)) (fun x hx => hsp x (by simpa using hx))
  have hold : ∀ x ∈ (p0 ++ (p1) : List MemPlace), (fun b => decide (b < W.heap.size)) x.block = true := fun x hx => by simpa using hlt x (by simpa using hx)
  refine ⟨_, _, _, [], _, [], hW', trodAll_cons_mk (shut_bool Inp.und_bool _) trodAll_mk0, hR _ hold, rfl, World.keptBut_mono (fun x hx => ⟨hx, ?_⟩) (hb.frame (· ∈ _)), fun _ => ?_⟩
  · simpa using hx
  · obtain ⟨_, _, _, _, _, hz, hn⟩ := hW'
    refine ⟨ok_one (by kernel_rfl) rfl (okWide_bool_mk Inp.und_bool _), _, [], _, ⟨_, [], trodAll_append (hR _ (fun _ _ => rfl)) (trodAll_cons_mk (shut_bool Inp.und_bool _) trodAll_mk0), rfl, rfl, ?_, ?_⟩, ?_⟩
    · intro b off hx
      rw [hb.frozen (hlt _ (by simpa using hx))]
      exact hz b off (by simpa using hx)
    · intro h; cases h
    · intro x hx _
      simpa using hx

theorem greedy_named : (Try.pinned).checked.prog.funcNamed Rows.boxGreedyRow.func = some 6 := by kernel_rfl
theorem greedy_closed : joinedFacts (Try.pinned).checked.prog 6 Try.f6 Rows.boxGreedySpec Rows.boxGreedyRow = true := by kernel_rfl
theorem greedy_inst : (Try.f6).isInstance (Try.pinned).checked.prog Rows.boxGreedyRow.origin Rows.boxGreedyRow.targs := of_decide_eq_true (by kernel_rfl)
theorem greedy_wrap : (Try.f6).isWrapper (Try.pinned).checked.prog Rows.boxGreedyRow.wrapper Rows.boxGreedyRow.mainSum := by
  unfold Func.isWrapper
  first | (rw [if_pos (by decide +kernel)]; kernel_rfl) | (rw [if_neg (by decide +kernel)]; exact ⟨rfl, rfl⟩)
theorem greedy_over : Rows.boxGreedyRow.holds Try.pinned (OpenSpec.ofChange Rows.boxGreedySpec) :=
  OpenClaim.holds_of_wide 6 Try.f6 rfl rfl rfl rfl rfl rfl rfl ⟨rfl, rfl, rfl, rfl, rfl⟩ rfl rfl rfl rfl rfl greedy_named Try.func6 greedy_closed
    greedy_inst greedy_wrap
    (fun os started H enc _ => greedy_lifted os started H enc)

theorem boxGreedy_proved : Rows.BoxGreedySaid := greedy_over
end Go.Proofs.Ytngoagfkcjkeoaa
