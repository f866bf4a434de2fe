/- Walks of package shade: a curve that is valid, leads that are valid and have no strokes. -/
import Derived.Test.YtffglhnmgapndaaSh4
namespace Go.Proofs.Ytffglhnmgapndaa
open Go.RowKit Go.Shelf

set_option maxRecDepth 100000 in
set_option maxHeartbeats 4000000 in
theorem validCurve_yes (w : World) (A : Option Addr) (cp : Nat) (c : List Tint) (h : Curve c) (hA : TintSl w w.heap.size A c) :
    Calls Try.prog 41 #[.slice A c.length cp] w (Ret (.bool true) w) := by
  have h2 := h.two
  have h8 := h.eight
  obtain ⟨b, off, rfl, hlt, hc⟩ := hA (by intro e; subst e; simp at h2)
  have HC := Lib.hid hc
  have H := Lib.hid h
  obtain ⟨c0, c1⟩ := hc 0 (by omega)
  obtain ⟨d0, d1⟩ := hc (c.length - 1) (by omega)
  rw [show off + 0 * 2 = off by omega, h.first] at c0
  rw [h.last] at d0
  clear hc hA c1 d1 h
  have hlt0 : (0 : Int) < (c.length : Int) := by omega
  have hlt1 : (c.length : Int) - 1 < (c.length : Int) := by omega
  have hlt2 : (0 : Int) ≤ (c.length : Int) - 1 := by omega
  have hlt3 : ((c.length : Int) - 1).toNat = c.length - 1 := by omega
  have hd1 : decide ((c.length : Int) < 2) = false := decide_eq_false (by omega)
  have hd2 : decide ((8 : Int) < (c.length : Int)) = false := decide_eq_false (by omega)
  go_enter Try.func41, Try.ntmps41
  go_wp2_with fail
  go_loopw [32] (fun i wr => ∃ k : Nat, k ≤ c.length ∧ i = .int .i64 k ∧ Below w.heap.size w wr) (fun i _ => c.length - (intOf i).toNat)
  case atStart => exact ⟨0, by omega, rfl, Below.refl _ _⟩
  case round =>
    obtain ⟨k, hk, rfl, hB⟩ := hrel
    clear c0 d0 hd1 hd2
    have HB := Lib.hid hB
    by_cases hltk : k < c.length
    · obtain ⟨x0, x1⟩ := (HC.out.below hB hlt) k hltk
      have hsz := hB.size
      have hb1 : b < wr.heap.size := by omega
      have hk0 : (0 : Int) ≤ (k : Int) := by omega
      have hkn : (k : Int) < (c.length : Int) := by omega
      obtain ⟨b1, b2⟩ := H.out.black k hltk
      clear hB
      by_cases hk1 : k = 0
      · subst hk1
        simp only [Nat.zero_mul, Nat.add_zero] at x0 x1
        go_wp2_with fail
        go_quiet (fail)
        go_wp2_with fail
        go_roundw
        case rel => exact ⟨0 + 1, by omega, by go_num, below_drewN (HB.out.alloc hsz _) _⟩
        case measure => simp [intOf]; omega
      · obtain ⟨j, rfl⟩ : ∃ j, k = j + 1 := ⟨k - 1, by omega⟩
        obtain ⟨y0, y1⟩ := (HC.out.below HB.out hlt) j (by omega)
        have hj1 : (0 : Int) ≤ (j : Int) + 1 := by omega
        have hjt : ((j : Int) + 1).toNat = j + 1 := by omega
        have hjw : IntKind.i64.wrap (j : Int) = (j : Int) := wrap_in (by omega) (by omega)
        have hj0 : (0 : Int) ≤ (j : Int) := by omega
        have hjn : (j : Int) < (c.length : Int) := by omega
        have hjp : decide ((0 : Int) < (j : Int) + 1) = true := decide_eq_true (by omega)
        obtain ⟨r1, r2⟩ := H.out.rises j (by omega)
        have hd1 : decide ((tAt c (j + 1)).r ≤ (tAt c j).r) = false := decide_eq_false (by omega)
        have hd2 : decide ((tAt c (j + 1)).b < (tAt c j).b) = false := decide_eq_false (by omega)
        go_wp2_with fail
        go_quiet (fail)
        go_wp2_with fail
        go_roundw
        case rel => exact ⟨j + 1 + 1, by omega, by go_num, below_drewN (HB.out.alloc hsz _) _⟩
        case measure => simp [intOf]; omega
    · obtain rfl : k = c.length := by omega
      clear hB
      go_wp2_with fail
      go_ret
      exact ⟨rfl, HB.out⟩

set_option maxHeartbeats 400000 in
theorem validStrokes_nil (cp : Nat) (A : Option Addr) (w : World) : Calls Try.prog 46 #[.slice A 0 cp] w (Ret (.bool true) w) := by
  go_enter Try.func46, Try.ntmps46
  go_wp2_with fail
  go_loopw [10] (fun i wr => i = .int .i64 0 ∧ wr = w) (fun _ _ => 0)
  case atStart => exact ⟨rfl, rfl⟩
  case round =>
    obtain ⟨rfl, rfl⟩ := hrel
    go_wp2_with fail
    go_ret
    exact ⟨rfl, Below.refl _ _⟩

set_option maxHeartbeats 400000 in
theorem validTests_zero (w : World) : Calls Try.prog 47 #[.agg #[.int .i64 0, .int .i64 0], .agg #[.int .i64 0, .int .i64 0]] w (Ret (.bool true) w) := by
  have hz : withinB ⟨0, 0⟩ 0 10000 = true := rfl
  go_enter Try.func47, Try.ntmps47
  go_wp2_with fail
  refine (within_any _ _ _ _ _).mono ?_
  rw [hz]
  rintro e w1 ⟨rfl, hb1⟩
  obtain ⟨hc', hf'⟩ := bcell hb1
  have hs1 : w.heap.size + 1 < w1.heap.size := by have := hb1.size; simp at this; omega
  have HB := Lib.hid ((show Below w.heap.size w _ from (((Below.refl _ _).alloc (Nat.le_refl _) _).alloc (by simp) _).trans (hb1.mono (by simp; omega))))
  clear hb1
  go_wp2_with fail
  refine (within_any _ _ _ _ _).mono ?_
  rw [hz]
  rintro e w2 ⟨rfl, hb2⟩
  have HB2 := Lib.hid (HB.out.trans (hb2.mono HB.out.size))
  clear hb2 hc' hf'
  go_wp2_with fail
  go_ret
  exact ⟨rfl, HB2.out⟩
end Go.Proofs.Ytffglhnmgapndaa
