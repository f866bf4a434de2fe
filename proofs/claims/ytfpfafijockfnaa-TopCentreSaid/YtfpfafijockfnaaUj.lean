/- The numbers of a round of TopCentre's loop, away from the walk (omega in the walk's own context runs away). -/
import Derived.Test.YtfpfafijockfnaaUd
namespace Go.Proofs.Ytfpfafijockfnaa
open Go.RowKit

theorem round_bds {j : Jig} {a b : Slat} (hj : JigIn j) (ha : SlatIn a) (hb : SlatIn b) {k : Nat} (hk : k ≤ 9) {sh pi le tu sd : Int} (h1 : a.shift.lo ≤ sh ∧ sh ≤ a.shift.hi) (h2 : a.pitch.lo ≤ pi ∧ pi ≤ a.pitch.hi) (h3 : b.shift.lo ≤ le ∧ le ≤ b.shift.hi) (h4 : b.pitch.lo ≤ tu ∧ tu ≤ b.pitch.hi) (h5 : j.side.lo ≤ sd ∧ sd ≤ j.side.hi) :
    (-450 ≤ (k : Int) * pi ∧ (k : Int) * pi ≤ 450) ∧ (-450 ≤ (k : Int) * tu ∧ (k : Int) * tu ≤ 450) ∧ (-500 ≤ sh ∧ sh ≤ 500) ∧ (-500 ≤ le ∧ le ≤ 500) ∧ (-500 ≤ sd ∧ sd ≤ 500) := by
  have q1 : -50 ≤ pi ∧ pi ≤ 50 := by have := ha.p0; have := ha.p2; omega
  have q2 : -50 ≤ tu ∧ tu ≤ 50 := by have := hb.p0; have := hb.p2; omega
  have m1 := mul_in (i := (k : Int)) (x := pi) (m := 50) (by omega) (by omega) q1.1 q1.2 (by omega)
  have m2 := mul_in (i := (k : Int)) (x := tu) (m := 50) (by omega) (by omega) q2.1 q2.2 (by omega)
  refine ⟨⟨by omega, by omega⟩, ⟨by omega, by omega⟩, ?_, ?_, ?_⟩
  · have := ha.s0; have := ha.s2; omega
  · have := hb.s0; have := hb.s2; omega
  · have := hj.s0; have := hj.s2; omega
theorem round_wraps {kp kt sh le sd : Int} (h1 : -450 ≤ kp ∧ kp ≤ 450) (h2 : -450 ≤ kt ∧ kt ≤ 450) (h3 : -500 ≤ sh ∧ sh ≤ 500) (h4 : -500 ≤ le ∧ le ≤ 500) (h5 : -500 ≤ sd ∧ sd ≤ 500) :
    IntKind.i64.wrap kp = kp ∧ IntKind.i64.wrap (sh + kp) = sh + kp ∧ IntKind.i64.wrap (sh + kp + le) = sh + kp + le ∧ IntKind.i64.wrap kt = kt ∧ IntKind.i64.wrap (sh + kp + le + kt) = sh + kp + le + kt ∧ IntKind.i64.wrap (2 * sd) = 2 * sd ∧ IntKind.i64.wrap (sh + kp + le + kt - 2 * sd) = sh + kp + le + kt - 2 * sd ∧ (-6000 ≤ sh + kp + le + kt - 2 * sd ∧ sh + kp + le + kt - 2 * sd ≤ 6000) := by
  refine ⟨?_, ?_, ?_, ?_, ?_, ?_, ?_, ?_⟩
  all_goals first | (exact IntWalk.i64_in _ ⟨by omega, by omega⟩) | omega
theorem high_wraps {j : Jig} {a b : Slat} (hj : JigIn j) (ha : SlatIn a) (hb : SlatIn b) : IntKind.i64.wrap (1000 * (heightS j a b).lo) = 1000 * (heightS j a b).lo ∧ IntKind.i64.wrap (1000 * (heightS j a b).hi) = 1000 * (heightS j a b).hi := by
  have h := height_bd hj ha hb
  unfold SpanBd at h
  exact ⟨IntWalk.i64_in _ ⟨by omega, by omega⟩, IntWalk.i64_in _ ⟨by omega, by omega⟩⟩
/-- The numbers of the last test. -/
theorem last_wraps {out up lim : Int} (h1 : -6000 ≤ out ∧ out ≤ 6000) (h2 : -200000000 ≤ up ∧ up ≤ 200000000) (h3 : 0 ≤ lim ∧ lim ≤ 1000) :
    IntKind.i64.wrap (1000000 * out) = 1000000 * out ∧ IntKind.i64.wrap (1000000 * out * out) = 1000000 * out * out ∧ IntKind.i64.wrap (up * up) = up * up ∧ IntKind.i64.wrap (1000000 * out * out + up * up) = 1000000 * out * out + up * up ∧ IntKind.i64.wrap (4000000 * lim) = 4000000 * lim ∧ IntKind.i64.wrap (4000000 * lim * lim) = 4000000 * lim * lim := by
  have a1 := sq_le (x := out) (m := 6000) (by omega) (by omega)
  have a2 := sq_le (x := up) (m := 200000000) (by omega) (by omega)
  have a3 := sq_le (x := lim) (m := 1000) (by omega) (by omega)
  have nn : ∀ x : Int, 0 ≤ x * x := fun x => by
    rcases Int.le_total 0 x with h | h
    · exact Int.mul_nonneg h h
    · exact Int.mul_nonneg_of_nonpos_of_nonpos h h
  have b1 := nn out
  have b2 := nn up
  have b3 := nn lim
  have e1 : 1000000 * out * out = 1000000 * (out * out) := Int.mul_assoc _ _ _
  have e2 : 4000000 * lim * lim = 4000000 * (lim * lim) := Int.mul_assoc _ _ _
  rw [e1, e2]
  refine ⟨?_, ?_, ?_, ?_, ?_, ?_⟩
  all_goals exact IntWalk.i64_in _ ⟨by omega, by omega⟩
end Go.Proofs.Ytfpfafijockfnaa
