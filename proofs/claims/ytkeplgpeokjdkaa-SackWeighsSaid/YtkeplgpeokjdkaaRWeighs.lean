/- SackWeighs returns true, whatever the input: what Weigh, Share and Water tell of any batch is what the document's own reckoning tells. -/
import Derived.Test.YtkeplgpeokjdkaaRows
import Derived.Test.YtkeplgpeokjdkaaRc
import Derived.Test.YtkeplgpeokjdkaaV1
namespace Go.Proofs.Ytkeplgpeokjdkaa
open Go.ChangeShapes Go.WideShapes Go.ChangeAt Go.RowKit Go.Joins

theorem params_weighs : Try.f3.params = #[22, 23, 25] := by kernel_rfl

theorem alike_no {l : List Sack} {b : List Take} (wl wh : Int) (A T : Option Addr) (c d : Nat) (hl : l.length ≤ 12) (hb : b.length ≤ 12) (hv : validB l b = false) : Alike l b wl wh A T c d (fun _ => ⟨0, 0⟩) 1 ⟨0, 0⟩ 1 ⟨0, 0⟩ 1 :=
  ⟨fun W hA hT => weigh_no W A T c d l b (by omega) (by omega) hA hT hv, fun W hA hT => rweigh_no W A T c d l b hl hb hA hT hv, fun W hA hT => share_no W A T c d l b (by omega) (by omega) hA hT hv, fun W hA hT => rshare_no W A T c d l b hl hb hA hT hv,
    fun W hA hT => water_no W A T c d l b wl wh (by omega) (by omega) hA hT hv, fun W hA hT => rwater_no W A T c d l b wl wh hl hb hA hT hv⟩
theorem alike_range {l : List Sack} {b : List Take} (wl wh : Int) (A T : Option Addr) (c d : Nat) (hl : l.length ≤ 12) (hb : b.length ≤ 12) (hv : validB l b = true) (hw : withinB ⟨wl, wh⟩ 0 999 = false) : Alike l b wl wh A T c d (partOf l b) 0 (shareOf (heldsOf l b)) 0 ⟨0, 0⟩ 2 :=
  ⟨fun W hA hT => weigh_yes W A T c d l b (by omega) (by omega) hA hT hv, fun W hA hT => (funext (part_eq hv) : partR l b = partOf l b) ▸ rweigh_yes W A T c d l b hA hT hv, fun W hA hT => share_yes W A T c d l b (by omega) (by omega) hA hT hv, fun W hA hT => share_eq hv ▸ rshare_yes W A T c d l b hA hT hv,
    fun W hA hT => water_range W A T c d l b wl wh (by omega) (by omega) hA hT hv hw, fun W hA hT => rwater_range W A T c d l b wl wh hA hT hv hw⟩
theorem alike_yes {l : List Sack} {b : List Take} (wl wh : Int) (A T : Option Addr) (c d : Nat) (hl : l.length ≤ 12) (hb : b.length ≤ 12) (hv : validB l b = true) (hw : withinB ⟨wl, wh⟩ 0 999 = true) : ∃ x xe, Alike l b wl wh A T c d (partOf l b) 0 (shareOf (heldsOf l b)) 0 x xe := by
  have h1 := fun (W : World) (hA : SackSl W W.heap.size A l) (hT : TakeSl W W.heap.size T b) => water_yes W A T c d l b wl wh (by omega) (by omega) hA hT hv hw
  have h2 := fun (W : World) (hA : SackSl W W.heap.size A l) (hT : TakeSl W W.heap.size T b) => rwater_yes W A T c d l b wl wh hA hT hv hw
  have he := water_eq hv hw
  rw [he.1, he.2] at h2
  generalize max (waterLo (heldsOf l b) wl) 0 = X at h1 h2
  generalize min (waterHi (heldsOf l b) wh) 1073741824 = Z at h1 h2
  by_cases hxz : X ≤ Z
  · simp only [numV, if_pos hxz] at h1 h2
    exact ⟨⟨X, Z⟩, 0, fun W hA hT => weigh_yes W A T c d l b (by omega) (by omega) hA hT hv, fun W hA hT => (funext (part_eq hv) : partR l b = partOf l b) ▸ rweigh_yes W A T c d l b hA hT hv, fun W hA hT => share_yes W A T c d l b (by omega) (by omega) hA hT hv, fun W hA hT => share_eq hv ▸ rshare_yes W A T c d l b hA hT hv, h1, h2⟩
  · simp only [numV, if_neg hxz] at h1 h2
    exact ⟨⟨0, 0⟩, 4, fun W hA hT => weigh_yes W A T c d l b (by omega) (by omega) hA hT hv, fun W hA hT => (funext (part_eq hv) : partR l b = partOf l b) ▸ rweigh_yes W A T c d l b hA hT hv, fun W hA hT => share_yes W A T c d l b (by omega) (by omega) hA hT hv, fun W hA hT => share_eq hv ▸ rshare_yes W A T c d l b hA hT hv, h1, h2⟩

theorem weighs_any (w : World) (A T : Option Addr) (c d : Nat) (l : List Sack) (b : List Take) (wl wh : Int) (hl : l.length ≤ 9223372036854775807) (hb : b.length ≤ 9223372036854775807) (hA : SackSl w w.heap.size A l) (hT : TakeSl w w.heap.size T b) :
    Calls Try.prog 3 #[.slice A l.length c, .slice T b.length d, .agg #[.int .i64 wl, .int .i64 wh]] w (Ret (.bool true) w) := by
  by_cases h12 : 12 < l.length ∨ 12 < b.length
  · exact weighs_large w A T c d l b wl wh hl hb hA hT h12
  · cases hv : validB l b with
    | false => exact weighs_alike w A T c d l b wl wh (by omega) (by omega) hA hT (alike_no wl wh A T c d (by omega) (by omega) hv)
    | true =>
      cases hw : withinB ⟨wl, wh⟩ 0 999 with
      | false => exact weighs_alike w A T c d l b wl wh (by omega) (by omega) hA hT (alike_range wl wh A T c d (by omega) (by omega) hv hw)
      | true =>
        obtain ⟨x, xe, h⟩ := alike_yes wl wh A T c d (by omega) (by omega) hv hw
        exact weighs_alike w A T c d l b wl wh (by omega) (by omega) hA hT h

set_option maxRecDepth 100000 in
theorem weighs_lifted (os : Os) (started : os.Started) (H : Type) (enc : TypeId × Value → H) :
    ReturnsInHanded {} Try.checked os 3 .any (Rows.sackWeighsSpec.pre6 enc Try.prog Try.f3 Rows.sackWeighsRow.domain false) (Rows.sackWeighsSpec.post enc Try.prog Try.f3 false true false false) := by
  refine returnsInHanded_of_change (C := Try.checked) own started (by kernel_rfl) Try.func3
    (ChangeSpec.witness6 (enc := enc) (C := Try.checked) false ⟨#[], #[.slice none 0 0, .slice none 0 0, .agg #[.int .i64 0, .int .i64 0]], []⟩ 8 (by kernel_rfl) (by kernel_rfl) (by kernel_rfl) (by kernel_rfl)) ?_
  intro W base args ds gs before hval0 hW hcnd _
  have hval : ∀ (j : Nat) t v, Try.f3.params[j]? = some t → args[j]? = some v → Value.okWide Try.prog W .any base t v := hval0
  have hW' := hW
  obtain ⟨p, q, hA0, hV, rfl, hfz, hnd⟩ := hW
  have hA : DataW.TrodAll enc Try.prog W 0 (fun _ => true) true Try.f3.params.toList args.toList ds p := hA0
  rw [params_weighs] at hA hval
  obtain ⟨v0, vs0, d0, ds0, p0, q0, hargs, rfl, rfl, h0, r0⟩ := trodAll_cons hA
  obtain ⟨v1, vs1, d1, ds1, p1, q1, rfl, rfl, rfl, h1, r1⟩ := trodAll_cons r0
  obtain ⟨v2, vs2, d2, ds2, p2, q2, rfl, rfl, rfl, h2, r2⟩ := trodAll_cons r1
  obtain ⟨rfl, rfl, rfl⟩ := trodAll_nil r2
  obtain rfl : args = #[v0, v1, v2] := by cases args; simp_all
  obtain ⟨rfl, rfl⟩ := trodVars_none hV
  obtain ⟨A, c, l, rfl, hlen, hS⟩ := open_sacks (hval 0 22 v0 rfl rfl) h0
  obtain ⟨T, d, b, rfl, hlenb, hT⟩ := open_takes (hval 1 23 v1 rfl rfl) h1
  obtain ⟨c0, c1, y0, y1, m, rfl, rfl, rfl, hy0, hy1⟩ := open_agg2 und_span (by kernel_rfl) cells_span (hval 2 25 v2 rfl rfl) h2
  obtain ⟨a4, e0, rfl, w4⟩ := DataW.trod_int und_int hy0
  obtain ⟨a5, e1, rfl, w5⟩ := DataW.trod_int und_int hy1
  simp only [List.cons.injEq, and_true] at e0 e1
  subst e0 e1
  clear hA0 hval0
  refine (weighs_any W A T c d l b a4 a5 hlen hlenb hS hT).mono fun e W' ⟨he, hb⟩ => ?_
  subst he
  refine ⟨_, rfl, ?_⟩
  have hlt : ∀ x ∈ p0 ++ (p1 ++ (([] ++ []) ++ [])), x.block < W.heap.size := fun x hx => hW'.lt x (by simpa using hx)
  have hR : ∀ sp : Nat → Bool, (∀ x ∈ p0 ++ p1, sp x.block = true) → DataW.TrodAll enc Try.prog W' 0 sp true Try.f3.params.toList _ _ _ := fun sp hsp => by
    rw [params_weighs]
    exact trodAll_stays (by kernel_rfl) (by decide +kernel) hA (fun x hx => hb.same (hlt x hx)) (fun x hx => hsp x (by simpa using hx))
  have hold : ∀ x ∈ p0 ++ p1, (fun b => decide (b < W.heap.size)) x.block = true := fun x hx => by simpa using hlt x (by simpa using hx)
  refine ⟨_, _, _, [], _, [], hW', trodAll_cons_mk (shut_bool und_bool _) trodAll_mk0, hR _ hold, rfl, World.keptBut_mono (fun x hx => ⟨hx, ?_⟩) (hb.frame (· ∈ _)), fun _ => ?_⟩
  · simpa using hx
  · obtain ⟨_, _, _, _, _, hz, hn⟩ := hW'
    refine ⟨ok_one (by kernel_rfl) rfl (okWide_bool_mk und_bool _), _, [], _, ⟨_, [], trodAll_append (hR _ (fun _ _ => rfl)) (trodAll_cons_mk (shut_bool und_bool _) trodAll_mk0), rfl, rfl, ?_, ?_⟩, ?_⟩
    · intro b off hx
      rw [hb.frozen (hlt _ (by simpa using hx))]
      exact hz b off (by simpa using hx)
    · intro h; cases h
    · intro x hx _
      simpa using hx

theorem weighs_over : Rows.sackWeighsRow.holds Try.pinned (OpenSpec.ofChange Rows.sackWeighsSpec) :=
  OpenClaim.holds_of_wide 3 Try.f3 rfl rfl rfl rfl rfl rfl rfl ⟨rfl, rfl, rfl, rfl, rfl⟩ rfl rfl rfl rfl rfl (by kernel_rfl) Try.func3 (by kernel_rfl)
    (of_decide_eq_true (by kernel_rfl)) (by unfold Func.isWrapper; first | (rw [if_pos (by decide +kernel)]; kernel_rfl) | (rw [if_neg (by decide +kernel)]; exact ⟨rfl, rfl⟩))
    (fun os started H enc _ => weighs_lifted os started H enc)

theorem sackWeighs_proved : Rows.SackWeighsSaid := weighs_over
end Go.Proofs.Ytkeplgpeokjdkaa
