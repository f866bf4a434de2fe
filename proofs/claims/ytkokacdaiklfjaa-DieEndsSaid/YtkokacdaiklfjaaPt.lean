/- The plain part of DieTrue: whatever is true lies between the ends. -/
import Derived.Test.YtkokacdaiklfjaaLb
namespace Go.Proofs.Ytkokacdaiklfjaa
open Go.RowKit Go.Shelf

def pickV (lo hi y : Int) : Int := lo + y % (hi - lo + 1)
theorem pickV_bd {lo hi y : Int} (h : lo ≤ hi) : lo ≤ pickV lo hi y ∧ pickV lo hi y ≤ hi := by
  unfold pickV
  have h1 := Int.emod_nonneg y (show hi - lo + 1 ≠ 0 by omega)
  have h2 := Int.emod_lt_of_pos y (show (0 : Int) < hi - lo + 1 by omega)
  omega
/-- A true width is between the thinnest and the thickest one. -/
theorem nano_between {wide w0 w1 s0 s1 u0 u1 u wear shrink : Int} (a0 : 0 ≤ wide) (b0 : 0 ≤ w0) (_c0 : 0 ≤ s0) (c1 : s1 ≤ 300) (d0 : 0 ≤ u0) (hw0 : w0 ≤ wear) (hw1 : wear ≤ w1) (hs0 : s0 ≤ shrink) (hs1 : shrink ≤ s1) (hu0 : u0 ≤ u) (hu1 : u ≤ u1) :
    nano wide w0 s1 u0 ≤ nano wide wear shrink u ∧ nano wide wear shrink u ≤ nano wide w1 s0 u1 := by
  unfold nano
  have e0 : w0 * u0 ≤ wear * u := Int.mul_le_mul hw0 hu0 d0 (by omega)
  have e1 : wear * u ≤ w1 * u1 := Int.mul_le_mul hw1 hu1 (by omega) (by omega)
  have e2 : 0 ≤ w0 * u0 := Int.mul_nonneg b0 d0
  exact ⟨Int.mul_le_mul (by omega) (by omega) (by omega) (by omega), Int.mul_le_mul (by omega) (by omega) (by omega) (by omega)⟩
/-- What a lead of a good plan is like. -/
theorem true_lead {d : Die} {s : Span} {x : Draw} {u at_ wear shrink : Int} (hd : DieIn d) (hs : ShrIn s) (hdo : doesB d s x u = true) (u0 : 0 ≤ u) (h0 : u ≤ at_) (h1 : at_ ≤ u + x.len) (w0 : d.wear.lo ≤ wear) (w1 : wear ≤ d.wear.hi) (g0 : s.lo ≤ shrink) (g1 : shrink ≤ s.hi) :
    (1000 * x.want.lo ≤ nano d.wide wear shrink at_ ∧ nano d.wide wear shrink at_ ≤ 1000 * x.want.hi) ∧ (1000 * (thin d s at_ / 1000) ≤ nano d.wide wear shrink at_ ∧ nano d.wide wear shrink at_ ≤ 1000 * cdiv (thick d s at_) 1000) := by
  obtain ⟨d1, -, d3, d4, -⟩ := hd
  obtain ⟨s1, s2, s3⟩ := hs
  unfold doesB at hdo
  rw [Bool.and_eq_true, decide_eq_true_eq, decide_eq_true_eq] at hdo
  have a := nano_between (wide := d.wide) (u0 := u) (u1 := u + x.len) (by omega) d3 s1 s3 u0 w0 w1 g0 g1 h0 h1
  have b := nano_between (wide := d.wide) (u0 := at_) (u1 := at_) (by omega) d3 s1 s3 (by omega) w0 w1 g0 g1 (Int.le_refl _) (Int.le_refl _)
  unfold thin thick at *
  refine ⟨⟨by omega, by omega⟩, by omega, ?_⟩
  unfold cdiv
  omega
set_option maxRecDepth 100000 in
set_option maxHeartbeats 2000000 in
theorem pick_any (lo hi y : Int) (w : World) (h0 : 0 ≤ lo) (h1 : lo ≤ hi) (h2 : hi ≤ 100000) (y0 : 0 ≤ y) (y1 : y ≤ 65535) :
    Calls Try.prog 24 #[.agg #[.int .i64 lo, .int .i64 hi], .int .u16 y] w (Ret (.int .i64 (pickV lo hi y)) w) := by
  have hb := pickV_bd (y := y) h1
  have HP : Hid (pickV lo hi y = lo + y % (hi - lo + 1)) := Lib.hid rfl
  have hr : y.tmod (hi - lo + 1) = y % (hi - lo + 1) := Int.tmod_eq_emod_of_nonneg y0
  have hm0 := Int.emod_nonneg y (show hi - lo + 1 ≠ 0 by omega)
  have hm1 := Int.emod_lt_of_pos y (show (0 : Int) < hi - lo + 1 by omega)
  have hw1 : IntKind.i64.wrap (hi - lo) = hi - lo := wr (by omega) (by omega)
  have hw2 : IntKind.i64.wrap (hi - lo + 1) = hi - lo + 1 := wr (by omega) (by omega)
  have hw3 : IntKind.i64.wrap y = y := wr (by omega) (by omega)
  have hn : (hi - lo + 1 == 0) = false := by rw [beq_eq_false_iff_ne]; omega
  have hn2 : hi - lo + 1 ≠ 0 := by omega
  generalize y % (hi - lo + 1) = m at *
  have hw4 : IntKind.i64.wrap m = m := wr (by omega) (by omega)
  have hw5 : IntKind.i64.wrap (lo + m) = lo + m := wr (by omega) (by omega)
  generalize pickV lo hi y = z at *
  go_enter Try.func24, Try.ntmps24
  go_wp2_with fail
  go_quiet (fail)
  go_wp2_with fail
  go_ret
  exact ⟨ret_int HP.out.symm, below_drewN ((Below.refl _ _).alloc (Nat.le_refl _) _) _⟩
end Go.Proofs.Ytkokacdaiklfjaa
