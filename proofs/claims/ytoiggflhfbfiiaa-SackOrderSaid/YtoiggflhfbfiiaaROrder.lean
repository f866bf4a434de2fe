/- SackOrder returns true, whatever the input: the order of takes makes no difference, nor does it if the takes out of one sack are made one; the parts of two batches are those of each, but for the rounding; and with narrower spans nothing is wider. -/
import Derived.Test.YtoiggflhfbfiiaaRows
import Derived.Test.YtoiggflhfbfiiaaRc
import Derived.Test.YtoiggflhfbfiiaaO2
import Derived.Test.YtoiggflhfbfiiaaO4
namespace Go.Proofs.Ytoiggflhfbfiiaa
open Go.ChangeShapes Go.WideShapes Go.ChangeAt Go.RowKit Go.Joins Go.Deep

theorem params_order : Try.f7.params = #[22, 23, 25, 5, 5] := by kernel_rfl
theorem und_u8 : Try.prog.underlying 5 = some (.int .u8) := by kernel_rfl

theorem order_any (w : World) (A T : Option Addr) (c d : Nat) (l : List Sack) (b : List Take) (wl wh tn y : Int) (hl : l.length ≤ 9223372036854775807) (hb : b.length ≤ 9223372036854775807) (hcap : b.length ≤ d) (hA : SackSl w w.heap.size A l) (hT : TakeSl w w.heap.size T b) (ht0 : 0 ≤ tn) (ht1 : tn ≤ 255) (hy0 : 0 ≤ y) (hy1 : y ≤ 255) :
    Calls Try.prog 7 #[.slice A l.length c, .slice T b.length d, .agg #[.int .i64 wl, .int .i64 wh], .int .u8 tn, .int .u8 y] w (Ret (.bool true) w) := by
  by_cases h12 : 12 < l.length
  · exact order_large w A T c d l b wl wh tn y hl hA hT h12
  · by_cases h8 : 8 < b.length
    · exact order_many w A T c d l b wl wh tn y (by omega) hb hA hT h8
    · cases hs : sacksOk l with
      | false => exact order_sacks w A T c d l b wl wh tn y (by omega) (by omega) hA hT hs
      | true =>
        cases hs2 : batchB l b with
        | false => exact order_batch w A T c d l b wl wh tn y (by omega) (by omega) hA hT hs hs2
        | true => exact order_main w A T c d l b wl wh tn y (by omega) hcap hA hT (by rw [validB_split, hs, hs2]; rfl) ht0 ht1 hy0 hy1

theorem cap_slice {w : World} {H : Type} {enc : TypeId × Value → H} {base : Nat} {spare : Nat → Bool} {held : Bool} {t e : TypeId} {A : Option Addr} {n c : Nat} {d : DataW H} {p : List MemPlace} (ht : Try.prog.underlying t = some (.slice e)) (h : DataW.Trod enc Try.prog w base spare held t (.slice A n c) d p) : n ≤ c := by
  obtain ⟨fuel, hf⟩ := h
  rcases open_slice ht hf with ⟨hcs, -⟩ | ⟨a, len, cap, m, k, D, Pl, hcs, hb, hl, -⟩
  · simp [Value.cells] at hcs
    omega
  · simp [Value.cells] at hcs
    omega

set_option maxRecDepth 100000 in
theorem order_lifted (os : Os) (started : os.Started) (H : Type) (enc : TypeId × Value → H) :
    ReturnsInHanded {} Try.checked os 7 .any (Rows.sackOrderSpec.pre6 enc Try.prog Try.f7 Rows.sackOrderRow.domain false) (Rows.sackOrderSpec.post enc Try.prog Try.f7 false true false false) := by
  refine returnsInHanded_of_change (C := Try.checked) own started (by kernel_rfl) Try.func7
    (ChangeSpec.witness6 (enc := enc) (C := Try.checked) false ⟨#[], #[.slice none 0 0, .slice none 0 0, .agg #[.int .i64 0, .int .i64 0], .int .u8 0, .int .u8 0], []⟩ 8 (by kernel_rfl) (by kernel_rfl) (by kernel_rfl) (by kernel_rfl)) ?_
  intro W base args ds gs before hval0 hW hcnd _
  have hval : ∀ (j : Nat) t v, Try.f7.params[j]? = some t → args[j]? = some v → Value.okWide Try.prog W .any base t v := hval0
  have hW' := hW
  obtain ⟨p, q, hA0, hV, rfl, hfz, hnd⟩ := hW
  have hA : DataW.TrodAll enc Try.prog W 0 (fun _ => true) true Try.f7.params.toList args.toList ds p := hA0
  rw [params_order] at hA hval
  obtain ⟨v0, vs0, d0, ds0, p0, q0, hargs, rfl, rfl, h0, r0⟩ := trodAll_cons hA
  obtain ⟨v1, vs1, d1, ds1, p1, q1, rfl, rfl, rfl, h1, r1⟩ := trodAll_cons r0
  obtain ⟨v2, vs2, d2, ds2, p2, q2, rfl, rfl, rfl, h2, r2⟩ := trodAll_cons r1
  obtain ⟨v3, vs3, d3, ds3, p3, q3, rfl, rfl, rfl, h3, r3⟩ := trodAll_cons r2
  obtain ⟨v4, vs4, d4, ds4, p4, q4, rfl, rfl, rfl, h4, r4⟩ := trodAll_cons r3
  obtain ⟨rfl, rfl, rfl⟩ := trodAll_nil r4
  obtain rfl : args = #[v0, v1, v2, v3, v4] := by cases args; simp_all
  obtain ⟨rfl, rfl⟩ := trodVars_none hV
  obtain ⟨A, c, l, rfl, hlen, hS⟩ := open_sacks (hval 0 22 v0 rfl rfl) h0
  obtain ⟨T, d, b, rfl, hlenb, hT⟩ := open_takes (hval 1 23 v1 rfl rfl) h1
  have hcap := cap_slice und_takes h1
  obtain ⟨c0, c1, y0, y1, m, rfl, rfl, rfl, hy0, hy1⟩ := open_agg2 und_span (by kernel_rfl) cells_span (hval 2 25 v2 rfl rfl) h2
  obtain ⟨a4, e0, rfl, w4⟩ := DataW.trod_int und_int hy0
  obtain ⟨a5, e1, rfl, w5⟩ := DataW.trod_int und_int hy1
  obtain ⟨a6, rfl, rfl, rfl, w6⟩ := open_int und_u8 (hval 3 5 v3 rfl rfl) h3
  obtain ⟨a7, rfl, rfl, rfl, w7⟩ := open_int und_u8 (hval 4 5 v4 rfl rfl) h4
  simp only [List.cons.injEq, and_true] at e0 e1
  subst e0 e1
  clear hA0 hval0
  have hu := w6
  have hu' := w7
  simp only [Lit.wf] at hu hu'
  have hu2 : 0 ≤ a6 ∧ a6 ≤ 255 := by simpa [IntKind.min, IntKind.max, IntKind.signed, IntKind.bits] using hu
  have hu3 : 0 ≤ a7 ∧ a7 ≤ 255 := by simpa [IntKind.min, IntKind.max, IntKind.signed, IntKind.bits] using hu'
  refine (order_any W A T c d l b a4 a5 a6 a7 hlen hlenb hcap hS hT hu2.1 hu2.2 hu3.1 hu3.2).mono fun e W' ⟨he, hb⟩ => ?_
  subst he
  refine ⟨_, rfl, ?_⟩
  have hlt : ∀ x ∈ p0 ++ (p1 ++ (([] ++ []) ++ ([] ++ ([] ++ [])))), x.block < W.heap.size := fun x hx => hW'.lt x (by simpa using hx)
  have hR : ∀ sp : Nat → Bool, (∀ x ∈ p0 ++ p1, sp x.block = true) → DataW.TrodAll enc Try.prog W' 0 sp true Try.f7.params.toList _ _ _ := fun sp hsp => by
    rw [params_order]
    exact trodAll_stays (by kernel_rfl) (by decide +kernel) hA (fun x hx => hb.same (hlt x hx)) (fun x hx => hsp x (by simpa using hx))
  have hold : ∀ x ∈ p0 ++ p1, (fun b => decide (b < W.heap.size)) x.block = true := fun x hx => by simpa using hlt x (by simpa using hx)
  refine ⟨_, _, _, [], _, [], hW', trodAll_cons_mk (shut_bool und_bool _) trodAll_mk0, hR _ hold, rfl, World.keptBut_mono (fun x hx => ⟨hx, ?_⟩) (hb.frame (· ∈ _)), fun _ => ?_⟩
  · simpa using hx
  · obtain ⟨_, _, _, _, _, hz, hn⟩ := hW'
    refine ⟨ok_one (by kernel_rfl) rfl (okWide_bool_mk und_bool _), _, [], _, ⟨_, [], trodAll_append (hR _ (fun _ _ => rfl)) (trodAll_cons_mk (shut_bool und_bool _) trodAll_mk0), rfl, rfl, ?_, ?_⟩, ?_⟩
    · intro b off hx
      rw [hb.frozen (hlt _ (by simpa using hx))]
      exact hz b off (by simpa using hx)
    · intro h; cases h
    · intro x hx _
      simpa using hx

theorem order_over : Rows.sackOrderRow.holds Try.pinned (OpenSpec.ofChange Rows.sackOrderSpec) :=
  OpenClaim.holds_of_wide 7 Try.f7 rfl rfl rfl rfl rfl rfl rfl ⟨rfl, rfl, rfl, rfl, rfl⟩ rfl rfl rfl rfl rfl (by kernel_rfl) Try.func7 (by kernel_rfl)
    (of_decide_eq_true (by kernel_rfl)) (by unfold Func.isWrapper; first | (rw [if_pos (by decide +kernel)]; kernel_rfl) | (rw [if_neg (by decide +kernel)]; exact ⟨rfl, rfl⟩))
    (fun os started H enc _ => order_lifted os started H enc)

theorem sackOrder_proved : Rows.SackOrderSaid := order_over
end Go.Proofs.Ytoiggflhfbfiiaa
