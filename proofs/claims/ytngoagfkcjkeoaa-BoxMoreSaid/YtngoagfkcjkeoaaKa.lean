/- Walks: the document's Fill: what its rows are while they are made. -/
import Derived.Test.YtngoagfkcjkeoaaGb
namespace Go.Proofs.Ytngoagfkcjkeoaa
open Go.RowKit Go.Shelf

/-- The fold of docN, as far as set k. -/
def docP (_m o q : Nat) (rest : List Pile) (left : List Int) (many : Int) (k : Nat) : Int := (List.range' 1 (k - 1)).foldl (fun n t => if (!t.testBit q && mt o (q + 1) t) = true then min n (many + hasS rest t - needS left t) else n) (min many (left.getD q 0))
theorem docP_one (m o q : Nat) (rest : List Pile) (left : List Int) (many : Int) : docP m o q rest left many 1 = min many (left.getD q 0) := rfl
theorem docP_end (m o q : Nat) (rest : List Pile) (left : List Int) (many : Int) : docP m o q rest left many (2 ^ m) = docN m o q rest left many := rfl
theorem docP_next (m o q : Nat) (rest : List Pile) (left : List Int) (many : Int) {k : Nat} (h : 1 ≤ k) : docP m o q rest left many (k + 1) = if (!k.testBit q && mt o (q + 1) k) = true then min (docP m o q rest left many k) (many + hasS rest k - needS left k) else docP m o q rest left many k := by
  unfold docP
  rw [show k + 1 - 1 = k - 1 + 1 by omega, List.range'_concat, List.foldl_append, show 1 + 1 * (k - 1) = k by omega]
  rfl
/-- The shades from q on. -/
def cutB (o q : Nat) : Nat := o >>> q <<< q
theorem cut_bit (o q j : Nat) : (cutB o q).testBit j = (decide (q ≤ j) && o.testBit j) := by
  unfold cutB
  rw [Nat.testBit_shiftLeft, Nat.testBit_shiftRight]
  by_cases h : q ≤ j
  · rw [Nat.add_sub_cancel' h]
  · simp [h]
theorem cut_le (o q : Nat) : cutB o q ≤ o := by
  unfold cutB
  rw [Nat.shiftLeft_eq, Nat.shiftRight_eq_div_pow]
  exact Nat.div_mul_le_self _ _
theorem cut_common (o q s : Nat) : (s &&& cutB o q != 0) = mt o q s := by
  rw [Bool.eq_iff_iff]
  have h0 : (s &&& cutB o q != 0) = mt (cutB o q) 0 s := (mt_zero _ _).symm
  rw [h0, mt_iff, mt_iff]
  constructor
  · rintro ⟨j, -, h1, h2⟩
    rw [cut_bit, Bool.and_eq_true, decide_eq_true_eq] at h1
    exact ⟨j, h1.1, h1.2, h2⟩
  · rintro ⟨j, h1, h2, h3⟩
    exact ⟨j, Nat.zero_le _, by rw [cut_bit, decide_eq_true h1, h2]; rfl, h3⟩
theorem cut_zero' (o : Nat) : cutB o 0 = o := by simp [cutB]
theorem cut_skip {o q : Nat} (h : o.testBit q = false) : cutB o (q + 1) = cutB o q := by
  apply Nat.eq_of_testBit_eq
  intro j
  rw [cut_bit, cut_bit]
  by_cases e : j = q
  · subst e; rw [h]; simp
  · by_cases e2 : q + 1 ≤ j
    · simp [e2, show q ≤ j by omega]
    · simp [e2, show ¬ q ≤ j by omega]
theorem cut_take {o q : Nat} (h : o.testBit q = true) : cutB o q = cutB o (q + 1) + 2 ^ q := by
  have : cutB o q = cutB o (q + 1) ||| 2 ^ q := by
    apply Nat.eq_of_testBit_eq
    intro j
    rw [Nat.testBit_or, cut_bit, cut_bit, Nat.testBit_two_pow]
    by_cases e : q = j
    · subst e; simp [h]
    · by_cases e2 : q + 1 ≤ j
      · simp [e2, e, show q ≤ j by omega]
      · simp [e2, e, show ¬ q ≤ j by omega]
  rw [this]
  have e9 : cutB o (q + 1) = 2 ^ (q + 1) * (o >>> (q + 1)) := by unfold cutB; rw [Nat.shiftLeft_eq, Nat.mul_comm]
  rw [e9]
  exact (Nat.two_pow_add_eq_or_of_lt (Nat.pow_lt_pow_right (by omega) (by omega)) _).symm
end Go.Proofs.Ytngoagfkcjkeoaa
