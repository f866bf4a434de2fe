/- Walks of layer 2: is a curve valid, by the document and by the program; leads that are valid. -/
import Derived.Test.YtffglhnmgapndaaSh3
import Derived.Test.YtffglhnmgapndaaQe
namespace Go.Proofs.Ytffglhnmgapndaa
open Go.RowKit Go.Shelf

theorem curve_no {c : List Tint} {k : Nat} (h : k < c.length) (hk : okAt c k = false) : curveB c = false := by
  have : (List.range c.length).all (okAt c) = false := by
    rw [List.all_eq_false]
    exact ⟨k, List.mem_range.2 h, by simp [hk]⟩
  simp [curveB, this]
theorem curve_yes {c : List Tint} (he : endsB c = true) (h : ∀ j, j < c.length → okAt c j = true) : curveB c = true := by
  have : (List.range c.length).all (okAt c) = true := by
    rw [List.all_eq_true]
    exact fun j hj => h j (List.mem_range.1 hj)
  simp [curveB, this, he]
theorem ends_no {c : List Tint} (h : endsB c = false) : curveB c = false := by simp [curveB, h]

set_option maxRecDepth 100000 in
set_option maxHeartbeats 4000000 in
theorem rcurve_any (w : World) (A : Option Addr) (cp : Nat) (c : List Tint) (hl : c.length ≤ 9223372036854775807) (hA : TintSl w w.heap.size A c) :
    Calls Try.prog 6 #[.slice A c.length cp] w fun e w' => e = .returned (.bool (curveB c)) ∧ Below w.heap.size w w' := by
  by_cases hlen : 2 ≤ c.length ∧ c.length ≤ 8
  · obtain ⟨h2, h8⟩ := hlen
    obtain ⟨b, off, rfl, hlt, hc⟩ := hA (by intro e; subst e; simp at h2)
    have HC := Lib.hid hc
    obtain ⟨c0, c1⟩ := hc 0 (by omega)
    obtain ⟨d0, d1⟩ := hc (c.length - 1) (by omega)
    rw [show off + 0 * 2 = off by omega] at c0
    clear hc hA hl c1 d1
    have hd : decide ((2 : Int) ≤ (c.length : Int) ∧ (c.length : Int) ≤ 8) = true := decide_eq_true (by omega)
    have hlt0 : (0 : Int) < (c.length : Int) := by omega
    have hlt1 : (c.length : Int) - 1 < (c.length : Int) := by omega
    have hlt2 : (0 : Int) ≤ (c.length : Int) - 1 := by omega
    have hlt3 : ((c.length : Int) - 1).toNat = c.length - 1 := by omega
    have HE : Hid ((tAt c 0).r = 0 → (tAt c (c.length - 1)).r = 1000 → endsB c = true) := fun e1 e2 => by simp [endsB, h2, h8, e1, e2]
    have HE1 : Hid (¬ (tAt c 0).r = 0 → curveB c = false) := fun e1 => ends_no (by simp [endsB, e1])
    have HE2 : Hid (¬ (tAt c (c.length - 1)).r = 1000 → curveB c = false) := fun e1 => ends_no (by simp [endsB, e1])
    by_cases e0 : (tAt c 0).r = 0
    · have HZ := Lib.hid e0
      rw [e0] at c0
      by_cases e1 : (tAt c (c.length - 1)).r = 1000
      · rw [e1] at d0
        have HEN := Lib.hid (HE.out HZ.out e1)
        clear e0 e1 HE HE1 HE2 HZ
        go_enter Try.func6, Try.ntmps6
        go_wp2_with (go_at_call 17; (with_reducible refine (rin2_any _ _ _ _).mono ?_); rintro e w' ⟨rfl, rfl⟩)
        go_loopw [3] (fun i wr => ∃ k : Nat, k ≤ c.length ∧ i = .int .i64 k ∧ Hid (∀ j, j < k → okAt c j = true) ∧ Below w.heap.size w wr) (fun i _ => c.length - (intOf i).toNat)
        case atStart => exact ⟨0, by omega, rfl, Lib.hid fun j h => by omega, Below.refl _ _⟩
        case round =>
          obtain ⟨k, hk, rfl, HK, hB⟩ := hrel
          clear c0 d0 hd
          by_cases hltk : k < c.length
          · obtain ⟨x0, x1⟩ := (HC.out.below hB hlt) k hltk
            have hk0 : (0 : Int) ≤ (k : Int) := by omega
            have hkn : (k : Int) < (c.length : Int) := by omega
            have HB := Lib.hid hB
            by_cases hb : 0 ≤ (tAt c k).b ∧ (tAt c k).b ≤ 200
            · have HIN : Hid (∀ W, Calls Try.prog 17 #[.int .i64 (tAt c k).b, .int .i64 0, .int .i64 200] W fun e w' => e = .returned (.bool true) ∧ w' = W) := fun W => (rin2_any _ _ _ W).mono fun _ _ ⟨h, h'⟩ => ⟨by rw [h, decide_eq_true hb], h'.symm⟩
              by_cases hk1 : k = 0
              · subst hk1
                have HOK : Hid (∀ j, j < 0 + 1 → okAt c j = true) := Lib.hid fun j hj => by
                  obtain rfl : j = 0 := by omega
                  simp [okAt, hb]
                clear hb HK hB
                go_wp2_with fail
                go_quiet ((go_at_call 17; with_reducible exact Calls.quiet_of_same (HIN.out _)))
                go_wp2_with fail
                go_roundw
                case rel => exact ⟨0 + 1, by omega, by go_num, HOK, below_drewN HB.out _⟩
                case measure => simp [intOf]; omega
              · obtain ⟨j, rfl⟩ : ∃ j, k = j + 1 := ⟨k - 1, by omega⟩
                obtain ⟨y0, y1⟩ := (HC.out.below hB hlt) j (by omega)
                have hj1 : (0 : Int) ≤ (j : Int) + 1 := by omega
                have hjt : ((j : Int) + 1).toNat = j + 1 := by omega
                have hjw : IntKind.i64.wrap (j : Int) = (j : Int) := wrap_in (by omega) (by omega)
                have hj0 : (0 : Int) ≤ (j : Int) := by omega
                have hjn : (j : Int) < (c.length : Int) := by omega
                have hjp : decide ((0 : Int) < (j : Int) + 1) = true := decide_eq_true (by omega)
                have HNO : Hid (okAt c (j + 1) = false → curveB c = false) := fun h => curve_no hltk h
                have HYES : Hid ((tAt c j).r < (tAt c (j + 1)).r → (tAt c j).b ≤ (tAt c (j + 1)).b → ∀ i, i < j + 1 + 1 → okAt c i = true) := fun h1 h2 i hi => by
                  by_cases e : i = j + 1
                  · subst e; simp [okAt, hb, h1, h2]
                  · exact HK.out i (by omega)
                have HR0 : Hid (¬ (tAt c j).r < (tAt c (j + 1)).r → okAt c (j + 1) = false) := fun h => by simp [okAt, h]
                have HR1 : Hid (¬ (tAt c j).b ≤ (tAt c (j + 1)).b → okAt c (j + 1) = false) := fun h => by simp [okAt, h]
                clear hb HK hB
                by_cases hr : (tAt c j).r < (tAt c (j + 1)).r
                · have hd1 : decide ((tAt c (j + 1)).r ≤ (tAt c j).r) = false := by simpa using hr
                  by_cases hbb : (tAt c j).b ≤ (tAt c (j + 1)).b
                  · have hd2 : decide ((tAt c (j + 1)).b < (tAt c j).b) = false := by simpa using hbb
                    have HOK := Lib.hid (HYES.out hr hbb)
                    clear hr hbb HYES HR0 HR1 HNO
                    go_wp2_with fail
                    go_quiet ((go_at_call 17; with_reducible exact Calls.quiet_of_same (HIN.out _)))
                    go_wp2_with fail
                    go_roundw
                    case rel => exact ⟨j + 1 + 1, by omega, by go_num, HOK, below_drewN HB.out _⟩
                    case measure => simp [intOf]; omega
                  · have hd2 : decide ((tAt c (j + 1)).b < (tAt c j).b) = true := by simpa using hbb
                    have HF := Lib.hid (HNO.out (HR1.out hbb))
                    clear hr hbb HYES HR0 HR1 HNO
                    go_wp2_with fail
                    go_quiet ((go_at_call 17; with_reducible exact Calls.quiet_of_same (HIN.out _)))
                    go_wp2_with fail
                    go_ret
                    exact ⟨ret_bool HF.out.symm, below_drewN HB.out _⟩
                · have hd1 : decide ((tAt c (j + 1)).r ≤ (tAt c j).r) = true := by simpa using hr
                  have HF := Lib.hid (HNO.out (HR0.out hr))
                  clear hr HYES HR0 HR1 HNO
                  go_wp2_with fail
                  go_quiet ((go_at_call 17; with_reducible exact Calls.quiet_of_same (HIN.out _)))
                  go_wp2_with fail
                  go_ret
                  exact ⟨ret_bool HF.out.symm, below_drewN HB.out _⟩
            · have HIN : Hid (∀ W, Calls Try.prog 17 #[.int .i64 (tAt c k).b, .int .i64 0, .int .i64 200] W fun e w' => e = .returned (.bool false) ∧ w' = W) := fun W => (rin2_any _ _ _ W).mono fun _ _ ⟨h, h'⟩ => ⟨by rw [h, decide_eq_false hb], h'.symm⟩
              have HF := Lib.hid (curve_no hltk (by simp only [okAt, decide_eq_false hb, Bool.false_and]))
              clear hb HK hB
              go_wp2_with fail
              go_quiet ((go_at_call 17; with_reducible exact Calls.quiet_of_same (HIN.out _)))
              go_wp2_with fail
              go_ret
              exact ⟨ret_bool HF.out.symm, below_drewN HB.out _⟩
          · obtain rfl : k = c.length := by omega
            go_wp2_with fail
            go_ret
            exact ⟨ret_bool (curve_yes HEN.out HK.out).symm, hB⟩
      · have HF := Lib.hid (HE2.out e1)
        have hx : ((tAt c (c.length - 1)).r != 1000) = true := by simpa using e1
        clear e0 e1 HE HE1 HE2 HZ
        go_enter Try.func6, Try.ntmps6
        go_wp2_with (go_at_call 17; (with_reducible refine (rin2_any _ _ _ _).mono ?_); rintro e w' ⟨rfl, rfl⟩)
        go_ret
        exact ⟨ret_bool HF.out.symm, Below.refl _ _⟩
    · have HF := Lib.hid (HE1.out e0)
      have hx : ((tAt c 0).r != 0) = true := by simpa using e0
      clear e0 HE HE1 HE2
      go_enter Try.func6, Try.ntmps6
      go_wp2_with (go_at_call 17; (with_reducible refine (rin2_any _ _ _ _).mono ?_); rintro e w' ⟨rfl, rfl⟩)
      go_ret
      exact ⟨ret_bool HF.out.symm, Below.refl _ _⟩
  · have HF := Lib.hid (ends_no (c := c) (by
      cases he : endsB c with
      | false => rfl
      | true =>
        simp only [endsB, Bool.and_eq_true, decide_eq_true_eq] at he
        exact absurd he.1 hlen))
    have hd : decide ((2 : Int) ≤ (c.length : Int) ∧ (c.length : Int) ≤ 8) = false := by
      rw [decide_eq_false_iff_not]; omega
    clear hA hlen
    go_enter Try.func6, Try.ntmps6
    go_wp2_with (go_at_call 17; (with_reducible refine (rin2_any _ _ _ _).mono ?_); rintro e w' ⟨rfl, rfl⟩)
    go_ret
    exact ⟨ret_bool HF.out.symm, Below.refl _ _⟩
end Go.Proofs.Ytffglhnmgapndaa
