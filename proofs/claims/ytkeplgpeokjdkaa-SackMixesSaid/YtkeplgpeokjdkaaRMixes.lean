/- SackMixes returns true, whatever the input: how two sacks are to be mixed is what the document's own reckoning, gram by gram, finds. -/
import Derived.Test.YtkeplgpeokjdkaaRows
import Derived.Test.YtkeplgpeokjdkaaRc
import Derived.Test.YtkeplgpeokjdkaaV4
import Derived.Test.YtkeplgpeokjdkaaPm
namespace Go.Proofs.Ytkeplgpeokjdkaa
open Go.ChangeShapes Go.WideShapes Go.ChangeAt Go.RowKit Go.Joins

theorem params_mixes : Try.f4.params = #[22, 3, 3, 3, 25] := by kernel_rfl
theorem mixOk_parts {l : List Sack} {first second total wl wh : Int} (h : mixOk l first second total wl wh = true) : (0 ≤ first ∧ first < l.length) ∧ (0 ≤ second ∧ second < l.length) ∧ first ≠ second ∧ 2 ≤ total ∧ total ≤ 100000 ∧ withinB ⟨wl, wh⟩ 0 1000 = true := by
  simp only [mixOk, idxB, Bool.and_eq_true, decide_eq_true_eq, Bool.not_eq_true', beq_eq_false_iff_ne] at h
  obtain ⟨⟨⟨⟨h1, h2⟩, h3⟩, h4⟩, h5⟩ := h
  exact ⟨h1, h2, h3, h4.1, h4.2, h5⟩
theorem alike_mix {l : List Sack} (first second total wl wh : Int) (A : Option Addr) (c : Nat) (hl : l.length ≤ 12) : ∃ x xe, AlikeM l first second total wl wh A c x xe := by
  cases hv : sacksOk l with
  | false => exact ⟨⟨0, 0⟩, 1, fun W hA => mix_no W A c l first second total wl wh (by omega) hA hv, fun W hA => rmix_no W A c l first second total wl wh hl hA hv⟩
  | true =>
    cases hm : mixOk l first second total wl wh with
    | false => exact ⟨⟨0, 0⟩, 2, fun W hA => mix_range W A c l first second total wl wh (by omega) hA hv hm, fun W hA => rmix_range W A c l first second total wl wh hl hA hv hm⟩
    | true =>
      obtain ⟨⟨f0, f1⟩, ⟨s0, s1⟩, hne, ht, ht', hw⟩ := mixOk_parts hm
      obtain ⟨n1, rfl⟩ : ∃ n : Nat, first = n := ⟨first.toNat, by omega⟩
      obtain ⟨n2, rfl⟩ : ∃ n : Nat, second = n := ⟨second.toNat, by omega⟩
      obtain ⟨N, rfl⟩ : ∃ n : Nat, total = n := ⟨total.toNat, by omega⟩
      have h1 : n1 < l.length := by omega
      have h2 : n2 < l.length := by omega
      have hM : ∀ W, SackSl W W.heap.size A l → Calls Try.prog 17 #[.slice A l.length c, .int .i64 n1, .int .i64 n2, .int .i64 N, .agg #[.int .i64 wl, .int .i64 wh]] W (Ret (numV (mixA l[n1] l[n2] N wl wh) (mixZ l[n1] l[n2] N wl wh)) W) :=
        fun W hW => mix_yes W A c l n1 n2 N wl wh (by omega) hW hv h1 h2 (by simpa using hne) ht ht' hw
      have hR : ∀ W, SackSl W W.heap.size A l → Calls Try.prog 18 #[.slice A l.length c, .int .i64 n1, .int .i64 n2, .int .i64 N, .agg #[.int .i64 wl, .int .i64 wh]] W (Ret (numV (mixA l[n1] l[n2] N wl wh) (mixZ l[n1] l[n2] N wl wh)) W) :=
        fun W hW => rmix_yes W A c l n1 n2 N wl wh _ _ hl hW hv h1 h2 (by omega) (by omega) (by omega) hw (Int.le_max_right _ _) (Int.min_le_right _ _) fun n hn hn' => by
          rw [rmixW_eq hv h1 h2 (by omega) ht' hw n hn hn', mix_spec hv h1 h2 (by omega) ht ht' hw n hn hn']
      generalize mixA l[n1] l[n2] N wl wh = a at hM hR
      generalize mixZ l[n1] l[n2] N wl wh = b at hM hR
      by_cases hab : a ≤ b
      · simp only [numV, if_pos hab] at hM hR
        exact ⟨⟨a, b⟩, 0, hM, hR⟩
      · simp only [numV, if_neg hab] at hM hR
        exact ⟨⟨0, 0⟩, 4, hM, hR⟩
theorem mixes_any (w : World) (A : Option Addr) (c : Nat) (l : List Sack) (first second total wl wh : Int) (hl : l.length ≤ 9223372036854775807) (hA : SackSl w w.heap.size A l) :
    Calls Try.prog 4 #[.slice A l.length c, .int .i64 first, .int .i64 second, .int .i64 total, .agg #[.int .i64 wl, .int .i64 wh]] w (Ret (.bool true) w) := by
  by_cases h12 : 12 < l.length
  · exact mixes_large w A c l first second total wl wh hl hA h12
  · by_cases ht : 3000 < total ∧ total ≤ 100000
    · exact mixes_much w A c l first second total wl wh (by omega) hA ht.1 ht.2
    · obtain ⟨x, xe, h⟩ := alike_mix first second total wl wh A c (show l.length ≤ 12 by omega)
      exact mixes_alike w A c l first second total wl wh (by omega) hA (by omega) h

set_option maxRecDepth 100000 in
theorem mixes_lifted (os : Os) (started : os.Started) (H : Type) (enc : TypeId × Value → H) :
    ReturnsInHanded {} Try.checked os 4 .any (Rows.sackMixesSpec.pre6 enc Try.prog Try.f4 Rows.sackMixesRow.domain false) (Rows.sackMixesSpec.post enc Try.prog Try.f4 false true false false) := by
  refine returnsInHanded_of_change (C := Try.checked) own started (by kernel_rfl) Try.func4
    (ChangeSpec.witness6 (enc := enc) (C := Try.checked) false ⟨#[], #[.slice none 0 0, .int .i64 0, .int .i64 0, .int .i64 0, .agg #[.int .i64 0, .int .i64 0]], []⟩ 8 (by kernel_rfl) (by kernel_rfl) (by kernel_rfl) (by kernel_rfl)) ?_
  intro W base args ds gs before hval0 hW hcnd _
  have hval : ∀ (j : Nat) t v, Try.f4.params[j]? = some t → args[j]? = some v → Value.okWide Try.prog W .any base t v := hval0
  have hW' := hW
  obtain ⟨p, q, hA0, hV, rfl, hfz, hnd⟩ := hW
  have hA : DataW.TrodAll enc Try.prog W 0 (fun _ => true) true Try.f4.params.toList args.toList ds p := hA0
  rw [params_mixes] at hA hval
  obtain ⟨v0, vs0, d0, ds0, p0, q0, hargs, rfl, rfl, h0, r0⟩ := trodAll_cons hA
  obtain ⟨v1, vs1, d1, ds1, p1, q1, rfl, rfl, rfl, h1, r1⟩ := trodAll_cons r0
  obtain ⟨v2, vs2, d2, ds2, p2, q2, rfl, rfl, rfl, h2, r2⟩ := trodAll_cons r1
  obtain ⟨v3, vs3, d3, ds3, p3, q3, rfl, rfl, rfl, h3, r3⟩ := trodAll_cons r2
  obtain ⟨v4, vs4, d4, ds4, p4, q4, rfl, rfl, rfl, h4, r4⟩ := trodAll_cons r3
  obtain ⟨rfl, rfl, rfl⟩ := trodAll_nil r4
  obtain rfl : args = #[v0, v1, v2, v3, v4] := by cases args; simp_all
  obtain ⟨rfl, rfl⟩ := trodVars_none hV
  obtain ⟨A, c, l, rfl, hlen, hS⟩ := open_sacks (hval 0 22 v0 rfl rfl) h0
  obtain ⟨a1, rfl, rfl, rfl, w1⟩ := open_int und_int (hval 1 3 v1 rfl rfl) h1
  obtain ⟨a2, rfl, rfl, rfl, w2⟩ := open_int und_int (hval 2 3 v2 rfl rfl) h2
  obtain ⟨a3, rfl, rfl, rfl, w3⟩ := open_int und_int (hval 3 3 v3 rfl rfl) h3
  obtain ⟨c0, c1, y0, y1, m, rfl, rfl, rfl, hy0, hy1⟩ := open_agg2 und_span (by kernel_rfl) cells_span (hval 4 25 v4 rfl rfl) h4
  obtain ⟨a4, e0, rfl, w4⟩ := DataW.trod_int und_int hy0
  obtain ⟨a5, e1, rfl, w5⟩ := DataW.trod_int und_int hy1
  simp only [List.cons.injEq, and_true] at e0 e1
  subst e0 e1
  clear hA0 hval0
  refine (mixes_any W A c l a1 a2 a3 a4 a5 hlen hS).mono fun e W' ⟨he, hb⟩ => ?_
  subst he
  refine ⟨_, rfl, ?_⟩
  have hlt : ∀ x ∈ p0 ++ ([] ++ ([] ++ ([] ++ (([] ++ []) ++ [])))), x.block < W.heap.size := fun x hx => hW'.lt x (by simpa using hx)
  have hR : ∀ sp : Nat → Bool, (∀ x ∈ p0, sp x.block = true) → DataW.TrodAll enc Try.prog W' 0 sp true Try.f4.params.toList _ _ _ := fun sp hsp => by
    rw [params_mixes]
    exact trodAll_stays (by kernel_rfl) (by decide +kernel) hA (fun x hx => hb.same (hlt x hx)) (fun x hx => hsp x (by simpa using hx))
  have hold : ∀ x ∈ p0, (fun b => decide (b < W.heap.size)) x.block = true := fun x hx => by simpa using hlt x (by simp [hx])
  refine ⟨_, _, _, [], _, [], hW', trodAll_cons_mk (shut_bool und_bool _) trodAll_mk0, hR _ hold, rfl, World.keptBut_mono (fun x hx => ⟨hx, ?_⟩) (hb.frame (· ∈ _)), fun _ => ?_⟩
  · simpa using hx
  · obtain ⟨_, _, _, _, _, hz, hn⟩ := hW'
    refine ⟨ok_one (by kernel_rfl) rfl (okWide_bool_mk und_bool _), _, [], _, ⟨_, [], trodAll_append (hR _ (fun _ _ => rfl)) (trodAll_cons_mk (shut_bool und_bool _) trodAll_mk0), rfl, rfl, ?_, ?_⟩, ?_⟩
    · intro b off hx
      rw [hb.frozen (hlt _ (by simpa using hx))]
      exact hz b off (by simpa using hx)
    · intro h; cases h
    · intro x hx _
      simpa using hx

theorem mixes_over : Rows.sackMixesRow.holds Try.pinned (OpenSpec.ofChange Rows.sackMixesSpec) :=
  OpenClaim.holds_of_wide 4 Try.f4 rfl rfl rfl rfl rfl rfl rfl ⟨rfl, rfl, rfl, rfl, rfl⟩ rfl rfl rfl rfl rfl (by kernel_rfl) Try.func4 (by kernel_rfl)
    (of_decide_eq_true (by kernel_rfl)) (by unfold Func.isWrapper; first | (rw [if_pos (by decide +kernel)]; kernel_rfl) | (rw [if_neg (by decide +kernel)]; exact ⟨rfl, rfl⟩))
    (fun os started H enc _ => mixes_lifted os started H enc)

theorem sackMixes_proved : Rows.SackMixesSaid := mixes_over
end Go.Proofs.Ytkeplgpeokjdkaa
