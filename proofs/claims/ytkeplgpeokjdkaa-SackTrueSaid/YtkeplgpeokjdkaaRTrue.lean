/- SackTrue returns true, whatever the input: what was true of sacks and takes lies within the spans that Weigh, Share and Water tell. -/
import Derived.Test.YtkeplgpeokjdkaaRows
import Derived.Test.YtkeplgpeokjdkaaRc
import Derived.Test.YtkeplgpeokjdkaaT6
namespace Go.Proofs.Ytkeplgpeokjdkaa
open Go.ChangeShapes Go.WideShapes Go.ChangeAt Go.RowKit Go.Joins

theorem params_true : Try.f5.params = #[22, 23, 25, 39] := by kernel_rfl

theorem true_any (w : World) (A T Y : Option Addr) (c d y : Nat) (l : List Sack) (b : List Take) (wl wh : Int) (ys : List Int) (hl : l.length ≤ 9223372036854775807) (hb : b.length ≤ 9223372036854775807) (hA : SackSl w w.heap.size A l) (hT : TakeSl w w.heap.size T b) (hY : U32Sl w w.heap.size Y ys) (hy2 : ys.length ≤ 9223372036854775807) (hyb : ∀ y ∈ ys, 0 ≤ y ∧ y ≤ 4294967295) :
    Calls Try.prog 5 #[.slice A l.length c, .slice T b.length d, .agg #[.int .i64 wl, .int .i64 wh], .slice Y ys.length y] w (Ret (.bool true) w) := by
  by_cases h12 : 12 < l.length ∨ 12 < b.length
  · exact true_large w A T Y c d y l b wl wh ys hl hb hA hT h12
  · by_cases h0 : ys.length = 0
    · exact true_empty w A T Y c d y l b wl wh ys (by omega) (by omega) hA hT h0
    · cases hs : sacksOk l with
      | false => exact true_sacks w A T Y c d y l b wl wh ys (by omega) (by omega) hA hT h0 hs
      | true =>
        cases hs2 : batchB l b with
        | false => exact true_batch w A T Y c d y l b wl wh ys (by omega) (by omega) hA hT h0 hs hs2
        | true => exact true_main w A T Y c d y l b wl wh ys (by omega) (by omega) hA hT hY h0 hy2 hyb (by rw [validB_split, hs, hs2]; rfl)

set_option maxRecDepth 100000 in
theorem true_lifted (os : Os) (started : os.Started) (H : Type) (enc : TypeId × Value → H) :
    ReturnsInHanded {} Try.checked os 5 .any (Rows.sackTrueSpec.pre6 enc Try.prog Try.f5 Rows.sackTrueRow.domain false) (Rows.sackTrueSpec.post enc Try.prog Try.f5 false true false false) := by
  refine returnsInHanded_of_change (C := Try.checked) own started (by kernel_rfl) Try.func5
    (ChangeSpec.witness6 (enc := enc) (C := Try.checked) false ⟨#[], #[.slice none 0 0, .slice none 0 0, .agg #[.int .i64 0, .int .i64 0], .slice none 0 0], []⟩ 8 (by kernel_rfl) (by kernel_rfl) (by kernel_rfl) (by kernel_rfl)) ?_
  intro W base args ds gs before hval0 hW hcnd _
  have hval : ∀ (j : Nat) t v, Try.f5.params[j]? = some t → args[j]? = some v → Value.okWide Try.prog W .any base t v := hval0
  have hW' := hW
  obtain ⟨p, q, hA0, hV, rfl, hfz, hnd⟩ := hW
  have hA : DataW.TrodAll enc Try.prog W 0 (fun _ => true) true Try.f5.params.toList args.toList ds p := hA0
  rw [params_true] at hA hval
  obtain ⟨v0, vs0, d0, ds0, p0, q0, hargs, rfl, rfl, h0, r0⟩ := trodAll_cons hA
  obtain ⟨v1, vs1, d1, ds1, p1, q1, rfl, rfl, rfl, h1, r1⟩ := trodAll_cons r0
  obtain ⟨v2, vs2, d2, ds2, p2, q2, rfl, rfl, rfl, h2, r2⟩ := trodAll_cons r1
  obtain ⟨v3, vs3, d3, ds3, p3, q3, rfl, rfl, rfl, h3, r3⟩ := trodAll_cons r2
  obtain ⟨rfl, rfl, rfl⟩ := trodAll_nil r3
  obtain rfl : args = #[v0, v1, v2, v3] := by cases args; simp_all
  obtain ⟨rfl, rfl⟩ := trodVars_none hV
  obtain ⟨A, c, l, rfl, hlen, hS⟩ := open_sacks (hval 0 22 v0 rfl rfl) h0
  obtain ⟨T, d, b, rfl, hlenb, hT⟩ := open_takes (hval 1 23 v1 rfl rfl) h1
  obtain ⟨c0, c1, y0, y1, m, rfl, rfl, rfl, hy0, hy1⟩ := open_agg2 und_span (by kernel_rfl) cells_span (hval 2 25 v2 rfl rfl) h2
  obtain ⟨a4, e0, rfl, w4⟩ := DataW.trod_int und_int hy0
  obtain ⟨a5, e1, rfl, w5⟩ := DataW.trod_int und_int hy1
  obtain ⟨Y, y, ys, rfl, hleny, hY, hyb⟩ := open_u32s (hval 3 39 v3 rfl rfl) h3
  simp only [List.cons.injEq, and_true] at e0 e1
  subst e0 e1
  clear hA0 hval0
  refine (true_any W A T Y c d y l b a4 a5 ys hlen hlenb hS hT hY hleny hyb).mono fun e W' ⟨he, hb⟩ => ?_
  subst he
  refine ⟨_, rfl, ?_⟩
  have hlt : ∀ x ∈ p0 ++ (p1 ++ (([] ++ []) ++ (p3 ++ []))), x.block < W.heap.size := fun x hx => hW'.lt x (by simpa using hx)
  have hR : ∀ sp : Nat → Bool, (∀ x ∈ p0 ++ (p1 ++ p3), sp x.block = true) → DataW.TrodAll enc Try.prog W' 0 sp true Try.f5.params.toList _ _ _ := fun sp hsp => by
    rw [params_true]
    exact trodAll_stays (by kernel_rfl) (by decide +kernel) hA (fun x hx => hb.same (hlt x hx)) (fun x hx => hsp x (by simpa using hx))
  have hold : ∀ x ∈ p0 ++ (p1 ++ p3), (fun b => decide (b < W.heap.size)) x.block = true := fun x hx => by simpa using hlt x (by simpa using hx)
  refine ⟨_, _, _, [], _, [], hW', trodAll_cons_mk (shut_bool und_bool _) trodAll_mk0, hR _ hold, rfl, World.keptBut_mono (fun x hx => ⟨hx, ?_⟩) (hb.frame (· ∈ _)), fun _ => ?_⟩
  · simpa using hx
  · obtain ⟨_, _, _, _, _, hz, hn⟩ := hW'
    refine ⟨ok_one (by kernel_rfl) rfl (okWide_bool_mk und_bool _), _, [], _, ⟨_, [], trodAll_append (hR _ (fun _ _ => rfl)) (trodAll_cons_mk (shut_bool und_bool _) trodAll_mk0), rfl, rfl, ?_, ?_⟩, ?_⟩
    · intro b off hx
      rw [hb.frozen (hlt _ (by simpa using hx))]
      exact hz b off (by simpa using hx)
    · intro h; cases h
    · intro x hx _
      simpa using hx

theorem true_over : Rows.sackTrueRow.holds Try.pinned (OpenSpec.ofChange Rows.sackTrueSpec) :=
  OpenClaim.holds_of_wide 5 Try.f5 rfl rfl rfl rfl rfl rfl rfl ⟨rfl, rfl, rfl, rfl, rfl⟩ rfl rfl rfl rfl rfl (by kernel_rfl) Try.func5 (by kernel_rfl)
    (of_decide_eq_true (by kernel_rfl)) (by unfold Func.isWrapper; first | (rw [if_pos (by decide +kernel)]; kernel_rfl) | (rw [if_neg (by decide +kernel)]; exact ⟨rfl, rfl⟩))
    (fun os started H enc _ => true_lifted os started H enc)

theorem sackTrue_proved : Rows.SackTrueSaid := true_over
end Go.Proofs.Ytkeplgpeokjdkaa
