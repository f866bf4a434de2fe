/- TopBlack returns true, whatever the input: how black leads can be follows from what was weighed out of the sacks. -/
import Derived.Test.YtffglhnmgapndaaRows
import Derived.Test.YtffglhnmgapndaaTb4
namespace Go.Proofs.Ytffglhnmgapndaa
open Go.ChangeShapes Go.WideShapes Go.ChangeAt Go.RowKit Go.Joins Go.Deep

theorem params_top : Try.f3.params = #[22, 23, 24, 5, 25] := by kernel_rfl
theorem und_u8 : Try.prog.underlying 5 = some (.int .u8) := by kernel_rfl
theorem und_tint : Try.prog.underlying 57 = some (.struct #[⟨"Ratio", 3, 0, false, "", "", 0⟩, ⟨"Black", 3, 1, false, "", "", 8⟩]) := by kernel_rfl
theorem und_tints : Try.prog.underlying 24 = some (.slice 57) := by kernel_rfl
theorem cells_tint : Try.prog.cellsOf 57 = 2 := by kernel_rfl
section
variable {H : Type} {enc : TypeId × Value → H} {w : World} {base : Nat} {spare : Nat → Bool} {held : Bool}
theorem tint_cells {fuel : Nat} {cs : List Value} {x : DataW H × List MemPlace} (h : DataW.trod enc Try.prog w base spare held fuel 57 cs = some x) :
    ∃ t : Tint, cs = [.int .i64 t.r, .int .i64 t.b] := by
  obtain ⟨xs, n, -, -, hlen, hxl, hf⟩ := DataW.trod_struct und_tint h
  rw [cells_tint] at hlen
  have h0 : DataW.trod enc Try.prog w base spare held n 3 ((cs.drop 0).take (Try.prog.cellsOf 3)) = xs[0]? := hf 0 _ rfl
  have h1 : DataW.trod enc Try.prog w base spare held n 3 ((cs.drop 1).take (Try.prog.cellsOf 3)) = xs[1]? := hf 1 _ rfl
  rw [cells_int] at h0 h1
  have e0 : xs[0]? = some (xs[0]'(by simp [hxl])) := List.getElem?_eq_getElem _
  have e1 : xs[1]? = some (xs[1]'(by simp [hxl])) := List.getElem?_eq_getElem _
  obtain ⟨a, ea, -, -⟩ := DataW.trod_int und_int (h0.trans e0)
  obtain ⟨b, eb, -, -⟩ := DataW.trod_int und_int (h1.trans e1)
  obtain ⟨c0, c1, rfl⟩ := len2 hlen
  simp only [List.drop_zero, List.drop_succ_cons, List.take_succ_cons, List.take_zero, List.cons.injEq, and_true] at ea eb
  subst ea eb
  exact ⟨⟨a, b⟩, rfl⟩
set_option maxRecDepth 100000 in
theorem open_tints {r : Go.Reach} {b0 : Nat} {v : Value} {d : DataW H} {p : List MemPlace} (hval : Value.okWide Try.prog w r b0 24 v) (h : DataW.Trod enc Try.prog w base spare held 24 v d p) :
    ∃ (A : Option Addr) (c : Nat) (l : List Tint), v = .slice A l.length c ∧ l.length ≤ 9223372036854775807 ∧ TintSl w w.heap.size A l := by
  obtain ⟨a0, len, cap, rfl⟩ := okWide_slice und_tints hval
  obtain ⟨fuel, hf⟩ := h
  rcases open_slice und_tints hf with ⟨hcs, hx⟩ | ⟨a, len', cap', m, n, D, Pl, hcs, hb, hl, hm, hmm, hx, hi⟩
  · simp [Value.cells] at hcs
    obtain ⟨rfl, rfl, rfl⟩ := hcs
    exact ⟨none, 0, [], rfl, Nat.zero_le _, fun h => absurd rfl h⟩
  · simp [Value.cells] at hcs
    obtain ⟨rfl, rfl, rfl⟩ := hcs
    have hlm : len ≤ m := by rw [hmm]; split <;> omega
    have hx : ∀ i, ∃ t : Tint, i < len → ∀ (j : Nat) (v : Value), [Value.int IntKind.i64 t.r, .int .i64 t.b][j]? = some v → w.cell? ((a.add (i * 2)).add j) = some v := by
      intro i
      by_cases hil : i < len
      · obtain ⟨cs', hc, ht⟩ := hi i (by omega)
        rw [cells_tint] at hc
        obtain ⟨s, rfl⟩ := tint_cells ht
        obtain ⟨_, _, hat⟩ := World.cells?_some hc
        refine ⟨s, fun _ j v hj => ?_⟩
        have hj3 : j < 2 := by
          have := (List.getElem?_eq_some_iff.1 hj).1
          simpa using this
        rw [hat j hj3, hj]
      · exact ⟨⟨0, 0⟩, fun h => absurd h hil⟩
    obtain ⟨f, hf'⟩ := Classical.axiomOfChoice hx
    have hlen : ((List.range len).map f).length = len := by simp
    refine ⟨some a, cap, (List.range len).map f, by rw [hlen], by rw [hlen]; have : maxLen ≤ 9223372036854775807 := (by unfold maxLen; omega); omega, fun hne => ?_⟩
    have h0 : 0 < len := by
      rcases Nat.eq_zero_or_pos len with e | e
      · subst e; exact absurd rfl hne
      · exact e
    obtain ⟨b, off, spot⟩ := a
    obtain ⟨hs, hlt⟩ := cell_old (hf' 0 h0 0 _ rfl)
    simp only [Addr.add] at hs hlt
    subst hs
    refine ⟨b, off, rfl, hlt, fun i hi' => ?_⟩
    have hil : i < len := by simpa using hi'
    have hg : ((List.range len).map f)[i]'hi' = f i := by simp
    rw [tAt_get hi', hg]
    have hc := hf' i hil
    simp only [add_at] at hc
    exact ⟨hc 0 _ rfl, hc 1 _ rfl⟩
end
theorem top_any (w : World) (A T C Y : Option Addr) (ca ct cc cy : Nat) (l : List Sack) (b : List Take) (c : List Tint) (tn : Int) (ys : List Int) (hA : SackSl w w.heap.size A l) (hT : TakeSl w w.heap.size T b) (hC : TintSl w w.heap.size C c) (hY : U32Sl w w.heap.size Y ys) (hl : l.length ≤ 9223372036854775807) (hb : b.length ≤ 9223372036854775807) (hc : c.length ≤ 9223372036854775807) (hy : ys.length ≤ 9223372036854775807)
    (t0 : 0 ≤ tn) (t1 : tn ≤ 255) (hys : ∀ y ∈ ys, 0 ≤ y ∧ y ≤ 4294967295) :
    Calls Try.prog 3 #[.slice A l.length ca, .slice T b.length ct, .slice C c.length cc, .int .u8 tn, .slice Y ys.length cy] w (Ret (.bool true) w) := by
  by_cases h0 : ys.length = 0
  · exact top_empty w A T C Y ca ct cc cy l b c tn ys hA hT hC hY hl hb hc hy h0
  · cases h1 : sacksOk l with
    | false => exact top_sacks w A T C Y ca ct cc cy l b c tn ys hA hT hC hY hl hb hc hy h0 h1
    | true =>
      cases h2 : batchB l b with
      | false => exact top_batch w A T C Y ca ct cc cy l b c tn ys hA hT hC hY hl hb hc hy h0 h1 h2
      | true =>
        cases h3 : curveB c with
        | false => exact top_curve w A T C Y ca ct cc cy l b c tn ys hA hT hC hY hl hb hc hy h0 h1 h2 h3
        | true => exact top_main w A T C Y ca ct cc cy l b c tn ys hA hT hC hY hl hb hc hy t0 t1 hys h0 (by rw [validB_split, h1, h2]; rfl) h3

set_option maxRecDepth 100000 in
theorem top_lifted (os : Os) (started : os.Started) (H : Type) (enc : TypeId × Value → H) :
    ReturnsInHanded {} Try.checked os 3 .any (Rows.topBlackSpec.pre6 enc Try.prog Try.f3 Rows.topBlackRow.domain false) (Rows.topBlackSpec.post enc Try.prog Try.f3 false true false false) := by
  refine returnsInHanded_of_change (C := Try.checked) own started (by kernel_rfl) Try.func3
    (ChangeSpec.witness6 (enc := enc) (C := Try.checked) false ⟨#[], #[.slice none 0 0, .slice none 0 0, .slice none 0 0, .int .u8 0, .slice none 0 0], []⟩ 8 (by kernel_rfl) (by kernel_rfl) (by kernel_rfl) (by kernel_rfl)) ?_
  intro W base args ds gs before hval0 hW hcnd _
  have hval : ∀ (j : Nat) t v, Try.f3.params[j]? = some t → args[j]? = some v → Value.okWide Try.prog W .any base t v := hval0
  have hW' := hW
  obtain ⟨p, q, hA0, hV, rfl, hfz, hnd⟩ := hW
  have hA : DataW.TrodAll enc Try.prog W 0 (fun _ => true) true Try.f3.params.toList args.toList ds p := hA0
  rw [params_top] at hA hval
  obtain ⟨v0, vs0, d0, ds0, p0, q0, hargs, rfl, rfl, h0, r0⟩ := trodAll_cons hA
  obtain ⟨v1, vs1, d1, ds1, p1, q1, rfl, rfl, rfl, h1, r1⟩ := trodAll_cons r0
  obtain ⟨v2, vs2, d2, ds2, p2, q2, rfl, rfl, rfl, h2, r2⟩ := trodAll_cons r1
  obtain ⟨v3, vs3, d3, ds3, p3, q3, rfl, rfl, rfl, h3, r3⟩ := trodAll_cons r2
  obtain ⟨v4, vs4, d4, ds4, p4, q4, rfl, rfl, rfl, h4, r4⟩ := trodAll_cons r3
  obtain ⟨rfl, rfl, rfl⟩ := trodAll_nil r4
  obtain rfl : args = #[v0, v1, v2, v3, v4] := by cases args; simp_all
  obtain ⟨rfl, rfl⟩ := trodVars_none hV
  obtain ⟨A, c, l, rfl, hlen, hS⟩ := open_sacks (hval 0 22 v0 rfl rfl) h0
  obtain ⟨T, d, b, rfl, hlenb, hT⟩ := open_takes (hval 1 23 v1 rfl rfl) h1
  obtain ⟨C, cc, cs, rfl, hlenc, hC⟩ := open_tints (hval 2 24 v2 rfl rfl) h2
  obtain ⟨tn, rfl, rfl, rfl, w3⟩ := open_int und_u8 (hval 3 5 v3 rfl rfl) h3
  obtain ⟨Y, y, ys, rfl, hleny, hY, hyb⟩ := open_u32s (hval 4 25 v4 rfl rfl) h4
  have hu := w3
  simp only [Lit.wf] at hu
  have hu2 : 0 ≤ tn ∧ tn ≤ 255 := by simpa [IntKind.min, IntKind.max, IntKind.signed, IntKind.bits] using hu
  clear hA0 hval0
  refine (top_any W A T C Y c d cc y l b cs tn ys hS hT hC hY hlen hlenb hlenc hleny hu2.1 hu2.2 hyb).mono fun e W' ⟨he, hb⟩ => ?_
  subst he
  refine ⟨_, rfl, ?_⟩
  have hlt : ∀ x ∈ p0 ++ (p1 ++ (p2 ++ ([] ++ (p4 ++ [])))), x.block < W.heap.size := fun x hx => hW'.lt x (by simpa using hx)
  have hR : ∀ sp : Nat → Bool, (∀ x ∈ p0 ++ (p1 ++ (p2 ++ p4)), sp x.block = true) → DataW.TrodAll enc Try.prog W' 0 sp true Try.f3.params.toList _ _ _ := fun sp hsp => by
    rw [params_top]
    exact trodAll_stays (by kernel_rfl) (by decide +kernel) hA (fun x hx => hb.same (hlt x hx)) (fun x hx => hsp x (by simpa using hx))
  have hold : ∀ x ∈ p0 ++ (p1 ++ (p2 ++ p4)), (fun b => decide (b < W.heap.size)) x.block = true := fun x hx => by simpa using hlt x (by simpa using hx)
  refine ⟨_, _, _, [], _, [], hW', trodAll_cons_mk (shut_bool und_bool _) trodAll_mk0, hR _ hold, rfl, World.keptBut_mono (fun x hx => ⟨hx, ?_⟩) (hb.frame (· ∈ _)), fun _ => ?_⟩
  · simpa using hx
  · obtain ⟨_, _, _, _, _, hz, hn⟩ := hW'
    refine ⟨ok_one (by kernel_rfl) rfl (okWide_bool_mk und_bool _), _, [], _, ⟨_, [], trodAll_append (hR _ (fun _ _ => rfl)) (trodAll_cons_mk (shut_bool und_bool _) trodAll_mk0), rfl, rfl, ?_, ?_⟩, ?_⟩
    · intro b off hx
      rw [hb.frozen (hlt _ (by simpa using hx))]
      exact hz b off (by simpa using hx)
    · intro h; cases h
    · intro x hx _
      simpa using hx

theorem top_over : Rows.topBlackRow.holds Try.pinned (OpenSpec.ofChange Rows.topBlackSpec) :=
  OpenClaim.holds_of_wide 3 Try.f3 rfl rfl rfl rfl rfl rfl rfl ⟨rfl, rfl, rfl, rfl, rfl⟩ rfl rfl rfl rfl rfl (by kernel_rfl) Try.func3 (by kernel_rfl)
    (of_decide_eq_true (by kernel_rfl)) (by unfold Func.isWrapper; first | (rw [if_pos (by decide +kernel)]; kernel_rfl) | (rw [if_neg (by decide +kernel)]; exact ⟨rfl, rfl⟩))
    (fun os started H enc _ => top_lifted os started H enc)

theorem topBlack_proved : Rows.TopBlackSaid := top_over
end Go.Proofs.Ytffglhnmgapndaa
