/- Walks of the leaves of package sack. -/
import Derived.Test.YtoiggflhfbfiiaaLib
namespace Go.Proofs.Ytoiggflhfbfiiaa
open Go.RowKit

theorem tdiv_neg {a b : Int} (hb : 0 < b) (h : a.tmod b < 0) : a.tdiv b - 1 = a / b := by
  have h1 := Int.mul_tdiv_add_tmod a b
  have h2 : -b < a.tmod b := Int.lt_tmod_of_pos a hb
  have := (Int.ediv_emod_unique (a := a) (b := b) (r := a.tmod b + b) (q := a.tdiv b - 1) hb).2 ⟨by rw [Int.mul_sub]; omega, by omega, by omega⟩
  exact this.1.symm
theorem tdiv_pos {a b : Int} (hb : 0 < b) (h : 0 ≤ a.tmod b) : a.tdiv b = a / b := by
  have h1 := Int.mul_tdiv_add_tmod a b
  have h2 := Int.tmod_lt_of_pos a hb
  have := (Int.ediv_emod_unique (a := a) (b := b) (r := a.tmod b) (q := a.tdiv b) hb).2 ⟨by omega, by omega, by omega⟩
  exact this.1.symm
theorem tdiv_bd {a b M : Int} (h : -M ≤ a) (h' : a ≤ M) : -M ≤ a.tdiv b ∧ a.tdiv b ≤ M := by
  have := Int.natAbs_tdiv_le_natAbs a b
  omega
def cdiv (a b : Int) : Int := -(-a / b)

set_option maxHeartbeats 400000 in
theorem down_any (a b : Int) (w : World) (hb : 0 < b) (ha : -9000000000000000000 ≤ a) (ha' : a ≤ 9000000000000000000) :
    Calls Try.prog 45 #[.int .i64 a, .int .i64 b] w fun e w' => e = .returned (.int .i64 (a / b)) ∧ w = w' := by
  have hq := tdiv_bd (b := b) ha ha'
  obtain ⟨hq1, hq2⟩ := hq
  have HN := Lib.hid (@tdiv_neg a b hb)
  have HP := Lib.hid (@tdiv_pos a b hb)
  go_enter Try.func45, Try.ntmps45
  go_wp2
  · go_ret
    exact ⟨ret_int (HN.out (by assumption)), rfl⟩
  · go_ret
    exact ⟨ret_int (HP.out (by assumption)), rfl⟩

set_option maxHeartbeats 400000 in
theorem up_any (a b : Int) (w : World) (hb : 0 < b) (ha : -9000000000000000000 ≤ a) (ha' : a ≤ 9000000000000000000) :
    Calls Try.prog 43 #[.int .i64 a, .int .i64 b] w fun e w' => e = .returned (.int .i64 (cdiv a b)) ∧ w = w' := by
  have h0 : -9000000000000000000 ≤ -a / b ∧ -a / b ≤ 9000000000000000000 := by
    have h1 := Int.ediv_le_ediv hb ha'
    have h3 : -a / b = -a / b := rfl
    constructor
    · rcases Int.le_total 0 (-a) with h | h
      · have := Int.ediv_nonneg h (Int.le_of_lt hb); omega
      · have h4 := (Int.le_ediv_iff_mul_le hb (a := -9000000000000000000) (b := -a)).2 (by
          have : 9000000000000000000 * 1 ≤ 9000000000000000000 * b := Int.mul_le_mul_of_nonneg_left (by omega) (by omega)
          omega)
        exact h4
    · have h4 := Int.ediv_le_of_le_mul hb (a := -a) (b := 9000000000000000000) (by
        have : 9000000000000000000 * 1 ≤ 9000000000000000000 * b := Int.mul_le_mul_of_nonneg_left (by omega) (by omega)
        omega)
      exact h4
  obtain ⟨h1, h2⟩ := h0
  go_enter Try.func43, Try.ntmps43
  go_wp2_with (go_at_call 45; refine (down_any _ _ _ (by omega) (by omega) (by omega)).mono ?_; rintro e w' ⟨rfl, rfl⟩)
  go_ret
  exact ⟨rfl, rfl⟩

set_option maxHeartbeats 400000 in
theorem span_any (a b : Int) (w : World) : Calls Try.prog 24 #[.int .i64 a, .int .i64 b] w (Ret (.agg #[.int .i64 a, .int .i64 b]) w) := by
  go_enter Try.func24, Try.ntmps24
  go_wp2
  exact bodyPost_ret (v := .agg #[.int .i64 a, .int .i64 b]) (by simp [results, Try.results24, go_sem]) rfl ⟨rfl, (Below.refl _ _).alloc (Nat.le_refl _) _⟩

set_option maxHeartbeats 400000 in
theorem within_any (a b c d : Int) (w : World) : Calls Try.prog 42 #[.agg #[.int .i64 a, .int .i64 b], .int .i64 c, .int .i64 d] w (Ret (.bool (withinB ⟨a, b⟩ c d)) w) := by
  go_enter Try.func42, Try.ntmps42
  go_wp2
  all_goals go_ret
  all_goals exact ⟨ret_bool (by simp only [withinB]; rw [Bool.eq_iff_iff]; simp only [decide_eq_true_eq, Bool.false_eq_true, false_iff]; omega), (Below.refl _ _).alloc (Nat.le_refl _) _⟩

set_option maxHeartbeats 400000 in
theorem isIndex_any (A : Option Addr) (n c : Nat) (i : Int) (w : World) : Calls Try.prog 52 #[.slice A n c, .int .i64 i] w fun e w' => e = .returned (.bool (decide (0 ≤ i ∧ i < n))) ∧ w = w' := by
  go_enter Try.func52, Try.ntmps52
  go_wp2
  all_goals go_ret
  all_goals exact ⟨ret_bool (by symm; simp; try omega), rfl⟩

set_option maxHeartbeats 400000 in
theorem ends_any (a b : Int) (w : World) : Calls Try.prog 71 #[.agg #[.int .i64 a, .int .i64 b]] w (Ret (.agg #[.int .i64 a, .int .i64 b]) w) := by
  go_enter Try.func71, Try.ntmps71
  go_wp2
  exact bodyPost_ret (v := .agg #[.int .i64 a, .int .i64 b]) (by simp [results, Try.results71, go_sem]) rfl ⟨rfl, ((Below.refl _ _).alloc (Nat.le_refl _) _).alloc (by simp) _⟩

set_option maxHeartbeats 400000 in
theorem dry_any (m v c s : Int) (w : World) (h : (St.mk m v c s).ok) : Calls Try.prog 69 #[.agg #[.int .i64 m, .int .i64 v, .int .i64 c, .int .i64 s]] w (Ret (.int .i64 (St.mk m v c s).dry) w) := by
  have hd := St.dry_bd h
  simp only [St.dry] at hd
  obtain ⟨h1, h2, h3, h4, -⟩ := h
  obtain ⟨h5, h6⟩ := hd
  simp only at h1 h2 h3 h4
  go_enter Try.func69, Try.ntmps69
  go_wp2
  go_ret
  exact ⟨rfl, (Below.refl _ _).alloc (Nat.le_refl _) _⟩

set_option maxHeartbeats 400000 in
theorem water_any (m v c s : Int) (w : World) (h : (St.mk m v c s).ok) : Calls Try.prog 61 #[.agg #[.int .i64 m, .int .i64 v, .int .i64 c, .int .i64 s]] w (Ret (.int .i64 (St.mk m v c s).water) w) := by
  have h1 := St.mw_bd h
  obtain ⟨h1, h2⟩ := h1
  simp only at h1 h2
  go_enter Try.func61, Try.ntmps61
  go_wp2
  go_ret
  exact ⟨rfl, (Below.refl _ _).alloc (Nat.le_refl _) _⟩


/-- What is held of the world in a region of a state's method: the box of the state, and that what was there is kept. -/
def StS (B : Nat) (w : World) (m v c s : Int) (W : World) : Prop := Below B w W ∧ B < W.heap.size ∧ W.cell? ⟨B, 0, none⟩ = some (.int .i64 m) ∧ W.cell? ⟨B, 1, none⟩ = some (.int .i64 v) ∧ W.cell? ⟨B, 2, none⟩ = some (.int .i64 c) ∧ W.cell? ⟨B, 3, none⟩ = some (.int .i64 s)
theorem StS.start (w : World) (m v c s : Int) : StS w.heap.size w m v c s (w.alloc (.cells #[.int .i64 m, .int .i64 v, .int .i64 c, .int .i64 s] 101)) :=
  ⟨(Below.refl _ _).alloc (Nat.le_refl _) _, by simp, by go_simp, by go_simp, by go_simp, by go_simp⟩
theorem StS.call {B : Nat} {w W W' : World} {m v c s : Int} (hb : Below W.heap.size W W') (h : StS B w m v c s W) : StS B w m v c s W' := by
  obtain ⟨h1, h2, h4, h5, h6, h7⟩ := h
  have hs := hb.size
  exact ⟨h1.trans (hb.mono (by omega)), by omega, (hb.cell (p := ⟨B, 0, none⟩) h2).trans h4, (hb.cell (p := ⟨B, 1, none⟩) h2).trans h5, (hb.cell (p := ⟨B, 2, none⟩) h2).trans h6, (hb.cell (p := ⟨B, 3, none⟩) h2).trans h7⟩

theorem StS.drew {B : Nat} {w W : World} {m v c s : Int} (h : StS B w m v c s W) : StS B w m v c s W.drew := ⟨h.1.drew, h.2⟩

theorem wr {x : Int} (h : -9223372036854775808 ≤ x) (h' : x ≤ 9223372036854775807) : IntKind.i64.wrap x = x := IntWalk.i64_in x ⟨h, h'⟩


set_option maxHeartbeats 400000 in
theorem carbon_any (m v c s : Int) (w : World) (h : (St.mk m v c s).ok) : Calls Try.prog 62 #[.agg #[.int .i64 m, .int .i64 v, .int .i64 c, .int .i64 s]] w (Ret (.int .i64 (St.mk m v c s).carbon) w) := by
  have HW : Hid (IntKind.i64.wrap (IntKind.i64.wrap ((St.mk m v c s).dry * c) * 1000) = (St.mk m v c s).carbon) := by
    have h1 := St.dryc_bd h
    have h2 := St.carbon_bd h
    simp only [St.carbon] at h1 h2 ⊢
    show _ = _
    rw [wr (x := (St.mk m v c s).dry * c) (by omega) (by omega), wr (by omega) (by omega)]
  have H := Lib.hid h
  clear h
  go_enter Try.func62, Try.ntmps62
  go_wp2; have h0 := StS.start w m v c s; unfold StS at h0; generalize w.alloc _ = W0 at h0 ⊢
  go_region_held3 (fun W => Below w.heap.size w W ∧ w.heap.size < W.heap.size ∧ W.cell? ⟨w.heap.size, 0, none⟩ = some (.int .i64 m) ∧ W.cell? ⟨w.heap.size, 1, none⟩ = some (.int .i64 v) ∧ W.cell? ⟨w.heap.size, 2, none⟩ = some (.int .i64 c) ∧ W.cell? ⟨w.heap.size, 3, none⟩ = some (.int .i64 s)) (first | exact StS.drew h0 | (exact StS.call (by assumption) (by assumption)) | go_keep) (first | (go_at_call 69; refine (dry_any _ _ _ _ _ H.out).mono ?_; rintro e e' ⟨rfl, hb'⟩))
  go_wp2; go_ret; obtain ⟨hH, -⟩ : StS w.heap.size w m v c s _ := by assumption
  exact ⟨ret_int HW.out, hH⟩

set_option maxHeartbeats 400000 in
theorem smoke_any (m v c s : Int) (w : World) (h : (St.mk m v c s).ok) : Calls Try.prog 63 #[.agg #[.int .i64 m, .int .i64 v, .int .i64 c, .int .i64 s]] w (Ret (.int .i64 (St.mk m v c s).smoke) w) := by
  have HW : Hid (IntKind.i64.wrap (IntKind.i64.wrap ((St.mk m v c s).dry * IntKind.i64.wrap (1000 - c)) * s) = (St.mk m v c s).smoke) := by
    have h1 := St.dryr_bd h
    have h2 := St.smoke_bd h
    have h3 := h
    simp only [St.smoke, St.ok] at h1 h2 h3 ⊢
    show _ = _
    rw [wr (x := 1000 - c) (by omega) (by omega), wr (x := (St.mk m v c s).dry * _) (by omega) (by omega), wr (by omega) (by omega)]
  have H := Lib.hid h
  clear h
  go_enter Try.func63, Try.ntmps63
  go_wp2; have h0 := StS.start w m v c s; unfold StS at h0; generalize w.alloc _ = W0 at h0 ⊢
  go_region_held3 (fun W => Below w.heap.size w W ∧ w.heap.size < W.heap.size ∧ W.cell? ⟨w.heap.size, 0, none⟩ = some (.int .i64 m) ∧ W.cell? ⟨w.heap.size, 1, none⟩ = some (.int .i64 v) ∧ W.cell? ⟨w.heap.size, 2, none⟩ = some (.int .i64 c) ∧ W.cell? ⟨w.heap.size, 3, none⟩ = some (.int .i64 s)) (first | exact StS.drew h0 | (exact StS.call (by assumption) (by assumption)) | go_keep) (first | (go_at_call 69; refine (dry_any _ _ _ _ _ H.out).mono ?_; rintro e e' ⟨rfl, hb'⟩))
  go_wp2; go_ret; obtain ⟨hH, -⟩ : StS w.heap.size w m v c s _ := by assumption
  exact ⟨ret_int HW.out, hH⟩

set_option maxHeartbeats 400000 in
theorem clay_any (m v c s : Int) (w : World) (h : (St.mk m v c s).ok) : Calls Try.prog 64 #[.agg #[.int .i64 m, .int .i64 v, .int .i64 c, .int .i64 s]] w (Ret (.int .i64 (St.mk m v c s).clay) w) := by
  have HW : Hid (IntKind.i64.wrap (IntKind.i64.wrap ((St.mk m v c s).dry * IntKind.i64.wrap (1000 - c)) * IntKind.i64.wrap (1000 - s)) = (St.mk m v c s).clay) := by
    have h1 := St.dryr_bd h
    have h2 := St.clay_bd h
    have h3 := h
    simp only [St.clay, St.ok] at h1 h2 h3 ⊢
    show _ = _
    rw [wr (x := 1000 - c) (by omega) (by omega), wr (x := 1000 - s) (by omega) (by omega), wr (x := (St.mk m v c s).dry * _) (by omega) (by omega), wr (by omega) (by omega)]
  have H := Lib.hid h
  clear h
  go_enter Try.func64, Try.ntmps64
  go_wp2; have h0 := StS.start w m v c s; unfold StS at h0; generalize w.alloc _ = W0 at h0 ⊢
  go_region_held3 (fun W => Below w.heap.size w W ∧ w.heap.size < W.heap.size ∧ W.cell? ⟨w.heap.size, 0, none⟩ = some (.int .i64 m) ∧ W.cell? ⟨w.heap.size, 1, none⟩ = some (.int .i64 v) ∧ W.cell? ⟨w.heap.size, 2, none⟩ = some (.int .i64 c) ∧ W.cell? ⟨w.heap.size, 3, none⟩ = some (.int .i64 s)) (first | exact StS.drew h0 | (exact StS.call (by assumption) (by assumption)) | go_keep) (first | (go_at_call 69; refine (dry_any _ _ _ _ _ H.out).mono ?_; rintro e e' ⟨rfl, hb'⟩))
  go_wp2; go_ret; obtain ⟨hH, -⟩ : StS w.heap.size w m v c s _ := by assumption
  exact ⟨ret_int HW.out, hH⟩

set_option maxHeartbeats 400000 in
theorem lead_any (m v c s : Int) (w : World) (h : (St.mk m v c s).ok) : Calls Try.prog 65 #[.agg #[.int .i64 m, .int .i64 v, .int .i64 c, .int .i64 s]] w (Ret (.int .i64 (St.mk m v c s).lead) w) := by
  have HW : Hid (IntKind.i64.wrap ((St.mk m v c s).carbon + (St.mk m v c s).clay) = (St.mk m v c s).lead) := by
    have h1 := St.lead_bd h
    simp only [St.lead] at h1 ⊢
    show _ = _
    rw [wr (by omega) (by omega)]
  have H := Lib.hid h
  clear h
  go_enter Try.func65, Try.ntmps65
  go_wp2; have h0 := StS.start w m v c s; unfold StS at h0; generalize w.alloc _ = W0 at h0 ⊢
  go_region_held3 (fun W => Below w.heap.size w W ∧ w.heap.size < W.heap.size ∧ W.cell? ⟨w.heap.size, 0, none⟩ = some (.int .i64 m) ∧ W.cell? ⟨w.heap.size, 1, none⟩ = some (.int .i64 v) ∧ W.cell? ⟨w.heap.size, 2, none⟩ = some (.int .i64 c) ∧ W.cell? ⟨w.heap.size, 3, none⟩ = some (.int .i64 s)) (first | exact StS.drew h0 | (exact StS.call (by assumption) (by assumption)) | go_keep) (first | (go_at_call 62; refine (carbon_any _ _ _ _ _ H.out).mono ?_; rintro e e' ⟨rfl, hb'⟩) | (go_at_call 64; refine (clay_any _ _ _ _ _ H.out).mono ?_; rintro e e' ⟨rfl, hb'⟩))
  go_wp2; go_ret; obtain ⟨hH, -⟩ : StS w.heap.size w m v c s _ := by assumption
  exact ⟨ret_int HW.out, hH⟩
end Go.Proofs.Ytoiggflhfbfiiaa
