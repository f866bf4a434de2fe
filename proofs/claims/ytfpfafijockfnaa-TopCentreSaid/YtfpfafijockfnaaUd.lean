/- The plain part of TopCentre. -/
import Derived.Test.YtfpfafijockfnaaUb
import Derived.Test.YtfpfafijockfnaaUc
import Derived.Test.YtfpfafijockfnaaWi
namespace Go.Proofs.Ytfpfafijockfnaa

/-- What is truly so lies between the ends that Wide tells. -/
theorem lead_true {p : Press} {n : Nat} {used wear shrink : Int} (hp : pressOk p = true) (hn : n < p.dies.length) (u0 : 0 ≤ used) (u1 : used ≤ 8000) (w0 : p.dies[n].wear.lo ≤ wear) (w1 : wear ≤ p.dies[n].wear.hi) (g0 : p.shrink.lo ≤ shrink) (g1 : shrink ≤ p.shrink.hi) :
    wideE p n used = 0 ∧ 1000 * (wideS p n used).lo ≤ nano p.dies[n].wide wear shrink used ∧ nano p.dies[n].wide wear shrink used ≤ 1000 * (wideS p n used).hi ∧ 0 ≤ nano p.dies[n].wide wear shrink used ∧ nano p.dies[n].wide wear shrink used ≤ 1820000000 ∧ (0 ≤ wear * used ∧ wear * used ≤ 1800000) := by
  obtain ⟨-, hdi, hsh, -⟩ := press_parts hp
  obtain ⟨d1, d2, d3, d4, d5⟩ := hdi p.dies[n] (List.getElem_mem hn)
  obtain ⟨s1, s2, s3⟩ := hsh
  have he : wideE p n used = 0 := by
    unfold wideE errOf
    rw [if_pos hp, if_pos]
    refine ⟨by simp [drawsOk], ?_⟩
    rw [Bool.and_eq_true, fromB_iff, fromB_iff]
    omega
  have hd : p.dieI n = p.dies[n] := by simp [Press.dieI, hn]
  have b := nano_between (wide := p.dies[n].wide) (u0 := used) (u1 := used) (u := used) (by omega) d3 s1 s3 u0 w0 w1 g0 g1 (Int.le_refl _) (Int.le_refl _)
  have c := nano_bd (wide := p.dies[n].wide) (wear := wear) (shrink := shrink) (used := used) d1 d2 (by omega) (by omega) (by omega) (by omega) u0 (by omega)
  refine ⟨he, ?_, ?_, c.2.1, c.2.2, c.1⟩
  · unfold wideS
    rw [if_pos he, hd]
    unfold thin
    dsimp only
    omega
  · unfold wideS
    rw [if_pos he, hd]
    unfold thick cdiv
    dsimp only
    omega
/-- The jig that is told the leads. -/
def Jig.told (j : Jig) (l : Span) : Jig := { j with lead := l }
theorem room_true {j : Jig} {a b : Slat} {dp ov gl ld : Int} (hc : closesN j a b = 2) (d0 : a.depth.lo ≤ dp) (o0 : b.depth.lo ≤ ov) (g0 : j.glue.lo ≤ gl) (hl : ld ≤ 1000 * j.lead.hi) : ld ≤ 1000 * (dp + ov + gl) := by
  unfold closesN at hc
  split at hc
  · rename_i h
    unfold alwaysB at h
    rw [Bool.and_eq_true] at h
    have h1 := h.1
    unfold insideB roomS roomB at h1
    rw [Bool.and_eq_true, decide_eq_true_eq] at h1
    have h2 := h1.1
    dsimp only at h2
    omega
  · split at hc <;> cases hc
theorem side_true {j : Jig} {a b : Slat} {i sh pi le tu sd : Int} (hi : 0 ≤ i) (h1 : a.shift.lo ≤ sh ∧ sh ≤ a.shift.hi) (h2 : a.pitch.lo ≤ pi ∧ pi ≤ a.pitch.hi) (h3 : b.shift.lo ≤ le ∧ le ≤ b.shift.hi) (h4 : b.pitch.lo ≤ tu ∧ tu ≤ b.pitch.hi) (h5 : j.side.lo ≤ sd ∧ sd ≤ j.side.hi) :
    (sideS j a b i).lo ≤ sh + i * pi + le + i * tu - 2 * sd ∧ sh + i * pi + le + i * tu - 2 * sd ≤ (sideS j a b i).hi := by
  have a1 := Int.mul_le_mul_of_nonneg_left h2.1 hi
  have a2 := Int.mul_le_mul_of_nonneg_left h2.2 hi
  have a3 := Int.mul_le_mul_of_nonneg_left h4.1 hi
  have a4 := Int.mul_le_mul_of_nonneg_left h4.2 hi
  unfold sideS placeS
  dsimp only
  omega
theorem high_true {j : Jig} {a b : Slat} {tk ot gl dp ht ld : Int} (h1 : a.thick.lo ≤ tk ∧ tk ≤ a.thick.hi) (h2 : b.thick.lo ≤ ot ∧ ot ≤ b.thick.hi) (h3 : j.glue.lo ≤ gl ∧ gl ≤ j.glue.hi) (h4 : a.depth.lo ≤ dp ∧ dp ≤ a.depth.hi) (h5 : j.height.lo ≤ ht ∧ ht ≤ j.height.hi) (h6 : 1000 * j.lead.lo ≤ ld ∧ ld ≤ 1000 * j.lead.hi) :
    1000 * (heightS j a b).lo ≤ 1000 * (tk - ot - gl - 2 * dp - 2 * ht) + ld ∧ 1000 * (tk - ot - gl - 2 * dp - 2 * ht) + ld ≤ 1000 * (heightS j a b).hi := by
  unfold heightS
  dsimp only
  omega
theorem sq_le {x m : Int} (h1 : -m ≤ x) (h2 : x ≤ m) : x * x ≤ m * m := by
  rcases Int.le_total 0 x with h | h
  · exact Int.mul_le_mul h2 h2 h (by omega)
  · have := Int.mul_le_mul (show -x ≤ m by omega) (show -x ≤ m by omega) (show 0 ≤ -x by omega) (by omega)
    rw [Int.neg_mul_neg] at this
    exact this
theorem grade_in : ∀ (x : List Int) (l : Lead) (i : Int), gradeFrom l x i = -1 ∨ ∃ k : Nat, ∃ h : k < x.length, gradeFrom l x i = i + k ∧ leadIn l x[k] = true
  | [], _, _ => .inl rfl
  | y :: x, l, i => by
    unfold gradeFrom
    by_cases h : leadIn l y = true
    · rw [if_pos h]
      exact .inr ⟨0, by simp, by simp, h⟩
    · rw [if_neg h]
      rcases grade_in x l (i + 1) with h1 | ⟨k, hk, h1, h2⟩
      · exact .inl h1
      · exact .inr ⟨k + 1, by simpa using hk, by rw [h1]; simp; omega, h2⟩
/-- A lead with a grade is within its limit, truly. -/
theorem graded_true {l : Lead} {x : List Int} {out up : Int} (h : gradeOf l x ≠ -1) (h1 : l.side.lo ≤ out ∧ out ≤ l.side.hi) (h2 : 1000 * l.height.lo ≤ up ∧ up ≤ 1000 * l.height.hi) :
    ∃ k : Nat, ∃ hk : k < x.length, gradeOf l x = (k : Int) ∧ 1000000 * out * out + up * up ≤ 4000000 * x[k] * x[k] := by
  rcases grade_in x l 0 with hg | ⟨k, hk, hg, hin⟩
  · exact absurd hg h
  · refine ⟨k, hk, by unfold gradeOf; rw [hg]; omega, ?_⟩
    unfold leadIn at hin
    rw [decide_eq_true_eq] at hin
    have a1 := sq_le (x := out) (m := amountS l.side) (by unfold amountS; omega) (by unfold amountS; omega)
    have a2 := sq_le (x := up) (m := 1000 * amountS l.height) (by unfold amountS; omega) (by unfold amountS; omega)
    have e1 : 1000 * amountS l.height * (1000 * amountS l.height) = 1000000 * (amountS l.height * amountS l.height) := by
      rw [Int.mul_assoc, Int.mul_left_comm (amountS l.height) 1000, ← Int.mul_assoc]
      rfl
    have e2 : 1000000 * out * out = 1000000 * (out * out) := Int.mul_assoc _ _ _
    have e3 : 4000000 * x[k] * x[k] = 1000000 * (4 * x[k] * x[k]) := by
      rw [Int.mul_assoc, Int.mul_assoc, ← Int.mul_assoc 1000000 4]
      rfl
    rw [e1] at a2
    rw [e2, e3]
    omega
theorem told_ok {j : Jig} {a b : Slat} (hj : jigOk j = true) (ha : slatOk a = true) (hb : slatOk b = true) (o : Bool) (ho : o = true) : slErr j [a] [b] [] o = 0 := by
  subst ho
  unfold slErr
  simp [hj, ha, hb, limsOk]
end Go.Proofs.Ytfpfafijockfnaa
