/- The plain model of layer 2 (shade): the curve, and the fraction that it has at a ratio. -/
import Derived.Test.YtffglhnmgapndaaRows
namespace Go.Proofs.Ytffglhnmgapndaa

structure Tint where
  r : Int
  b : Int
def tAt (c : List Tint) (i : Nat) : Tint := c.getD i ⟨0, 0⟩
def okAt (c : List Tint) (i : Nat) : Bool := decide (0 ≤ (tAt c i).b ∧ (tAt c i).b ≤ 200) && (i == 0 || decide ((tAt c (i - 1)).r < (tAt c i).r ∧ (tAt c (i - 1)).b ≤ (tAt c i).b))
def endsB (c : List Tint) : Bool := decide (2 ≤ c.length ∧ c.length ≤ 8) && decide ((tAt c 0).r = 0 ∧ (tAt c (c.length - 1)).r = 1000)
def curveB (c : List Tint) : Bool := endsB c && (List.range c.length).all (okAt c)
theorem tAt_get {c : List Tint} {i : Nat} (h : i < c.length) : tAt c i = c[i] := by simp [tAt, h]

structure Curve (c : List Tint) : Prop where
  two : 2 ≤ c.length
  eight : c.length ≤ 8
  first : (tAt c 0).r = 0
  last : (tAt c (c.length - 1)).r = 1000
  black : ∀ i, i < c.length → 0 ≤ (tAt c i).b ∧ (tAt c i).b ≤ 200
  rises : ∀ i, i + 1 < c.length → (tAt c i).r < (tAt c (i + 1)).r ∧ (tAt c i).b ≤ (tAt c (i + 1)).b
theorem curve_of {c : List Tint} (h : curveB c = true) : Curve c := by
  simp only [curveB, endsB, Bool.and_eq_true, decide_eq_true_eq, List.all_eq_true, List.mem_range] at h
  obtain ⟨⟨⟨h1, h2⟩, h3, h4⟩, h5⟩ := h
  refine ⟨h1, h2, h3, h4, fun i hi => ?_, fun i hi => ?_⟩
  · have h := h5 i hi
    simp only [okAt, Bool.and_eq_true, decide_eq_true_eq] at h
    exact h.1
  · have h := h5 (i + 1) hi
    simp only [okAt, Bool.and_eq_true, Bool.or_eq_true, decide_eq_true_eq, beq_iff_eq, Nat.add_sub_cancel] at h
    rcases h.2 with h | h
    · omega
    · exact h
theorem Curve.up_r {c : List Tint} (h : Curve c) {i : Nat} : ∀ {j : Nat}, i ≤ j → j < c.length → (tAt c i).r ≤ (tAt c j).r ∧ (tAt c i).b ≤ (tAt c j).b := by
  intro j
  induction j with
  | zero => intro h1 _; have : i = 0 := by omega
            subst this; omega
  | succ j ih =>
    intro h1 h2
    by_cases e : i = j + 1
    · subst e; omega
    · have h3 := ih (by omega) (by omega)
      have h4 := h.rises j h2
      omega
theorem Curve.r_bd {c : List Tint} (h : Curve c) {i : Nat} (hi : i < c.length) : 0 ≤ (tAt c i).r ∧ (tAt c i).r ≤ 1000 := by
  have h1 := (h.up_r (i := 0) (Nat.zero_le i) hi).1
  have h2 := (h.up_r (i := i) (j := c.length - 1) (by omega) (by omega)).1
  rw [h.first] at h1
  rw [h.last] at h2
  omega

/-- The tint from which on a ratio is not beyond (the first is left out, the last is the last resort). -/
structure IsNext (c : List Tint) (g a : Int) (i : Nat) : Prop where
  one : 1 ≤ i
  lt : i < c.length
  before : ∀ j, 1 ≤ j → j < i → (tAt c j).r * a < 1000 * g
  here : i + 1 < c.length → 1000 * g ≤ (tAt c i).r * a
theorem IsNext.uniq {c : List Tint} {g a : Int} {i j : Nat} (h : IsNext c g a i) (k : IsNext c g a j) : i = j := by
  rcases Nat.lt_trichotomy i j with e | e | e
  · have h1 := h.here (by have := k.lt; omega)
    have h2 := k.before i h.one e
    omega
  · exact e
  · have h1 := k.here (by have := h.lt; omega)
    have h2 := h.before j k.one e
    omega
def ixFrom (c : List Tint) (g a : Int) : Nat → Nat → Nat
  | 0, i => i
  | f + 1, i => if i + 1 < c.length ∧ (tAt c i).r * a < 1000 * g then ixFrom c g a f (i + 1) else i
def nextIx (c : List Tint) (g a : Int) : Nat := ixFrom c g a c.length 1
theorem ixFrom_is (c : List Tint) (g a : Int) : ∀ (f i : Nat), 1 ≤ i → i < c.length → c.length ≤ i + f → (∀ j, 1 ≤ j → j < i → (tAt c j).r * a < 1000 * g) → IsNext c g a (ixFrom c g a f i)
  | 0, i, h1, h2, h3, _ => by omega
  | f + 1, i, h1, h2, h3, h4 => by
    unfold ixFrom
    by_cases e : i + 1 < c.length ∧ (tAt c i).r * a < 1000 * g
    · rw [if_pos e]
      refine ixFrom_is c g a f (i + 1) (by omega) e.1 (by omega) fun j hj hj' => ?_
      by_cases k : j = i
      · subst k; exact e.2
      · exact h4 j hj (by omega)
    · rw [if_neg e]
      exact ⟨h1, h2, h4, fun h => by
        have : ¬ (tAt c i).r * a < 1000 * g := fun x => e ⟨h, x⟩
        omega⟩
theorem next_is {c : List Tint} (h : 2 ≤ c.length) (g a : Int) : IsNext c g a (nextIx c g a) :=
  ixFrom_is c g a c.length 1 (by omega) (by omega) (by omega) fun j h1 h2 => by omega

structure Frac where
  top : Int
  under : Int
def fracIn (f t : Tint) (g a : Int) : Frac := ⟨f.b * (t.r - f.r) * a + (t.b - f.b) * (1000 * g - f.r * a), (t.r - f.r) * a⟩
def fracAt (c : List Tint) (g y : Int) : Frac := fracIn (tAt c (nextIx c g (g + y) - 1)) (tAt c (nextIx c g (g + y))) g (g + y)

theorem mul_le_r {a b c : Int} (h : a ≤ b) (hc : 0 ≤ c) : a * c ≤ b * c := Int.mul_le_mul_of_nonneg_right h hc
theorem mul_le_l {a b c : Int} (h : a ≤ b) (hc : 0 ≤ c) : c * a ≤ c * b := Int.mul_le_mul_of_nonneg_left h hc

/-- Where the fraction lies. -/
structure FracBd (c : List Tint) (g a : Int) (i : Nat) : Prop where
  pos : 0 < (fracIn (tAt c (i - 1)) (tAt c i) g a).under
  most : (fracIn (tAt c (i - 1)) (tAt c i) g a).under ≤ 1000 * a
  low : (tAt c (i - 1)).b * (fracIn (tAt c (i - 1)) (tAt c i) g a).under ≤ (fracIn (tAt c (i - 1)) (tAt c i) g a).top
  high : (fracIn (tAt c (i - 1)) (tAt c i) g a).top ≤ (tAt c i).b * (fracIn (tAt c (i - 1)) (tAt c i) g a).under
  beyond : 0 ≤ 1000 * g - (tAt c (i - 1)).r * a ∧ 1000 * g - (tAt c (i - 1)).r * a ≤ ((tAt c i).r - (tAt c (i - 1)).r) * a
theorem frac_bd {c : List Tint} (h : Curve c) {g a : Int} {i : Nat} (hi : IsNext c g a i) (h0 : 0 ≤ g) (h1 : g ≤ a) (h2 : 0 < a) : FracBd c g a i := by
  have hlt := hi.lt
  have h1' := hi.one
  obtain ⟨r1, r2⟩ := h.rises (i - 1) (by omega)
  rw [show i - 1 + 1 = i by omega] at r1 r2
  have b1 := h.r_bd (i := i) hlt
  have b0 := h.r_bd (i := i - 1) (by omega)
  have hbey : 0 ≤ 1000 * g - (tAt c (i - 1)).r * a := by
    by_cases e : i = 1
    · subst e
      rw [show (1 : Nat) - 1 = 0 by omega, h.first]
      omega
    · have := hi.before (i - 1) (by omega) (by omega)
      omega
  have htop : 1000 * g ≤ (tAt c i).r * a := by
    by_cases e : i + 1 < c.length
    · exact hi.here e
    · have e' : i = c.length - 1 := by omega
      have := h.last
      rw [← e'] at this
      rw [this]
      omega
  have hw : ((tAt c i).r - (tAt c (i - 1)).r) * a = (tAt c i).r * a - (tAt c (i - 1)).r * a := Int.sub_mul _ _ _
  have hbe2 : 1000 * g - (tAt c (i - 1)).r * a ≤ ((tAt c i).r - (tAt c (i - 1)).r) * a := by omega
  have hd : 0 ≤ (tAt c i).b - (tAt c (i - 1)).b := by omega
  have m1 := Int.mul_nonneg hd hbey
  have m2 := mul_le_l hbe2 hd
  have e1 : (tAt c (i - 1)).b * (((tAt c i).r - (tAt c (i - 1)).r) * a) = (tAt c (i - 1)).b * ((tAt c i).r - (tAt c (i - 1)).r) * a := (Int.mul_assoc _ _ _).symm
  have e2 : (tAt c i).b * (((tAt c i).r - (tAt c (i - 1)).r) * a) = (tAt c (i - 1)).b * (((tAt c i).r - (tAt c (i - 1)).r) * a) + ((tAt c i).b - (tAt c (i - 1)).b) * (((tAt c i).r - (tAt c (i - 1)).r) * a) := by
    rw [← Int.add_mul]; congr 1; omega
  refine ⟨?_, ?_, ?_, ?_, hbey, hbe2⟩
  · exact Int.mul_pos (by omega) h2
  · exact mul_le_r (by omega) (by omega)
  · simp only [fracIn]; omega
  · simp only [fracIn]; omega
def Frac.le (x y : Frac) : Prop := x.top * y.under ≤ y.top * x.under
theorem frac_same (f t : Tint) {g a g' a' : Int} (hd : 0 ≤ t.b - f.b) (hw : 0 ≤ t.r - f.r) (h : g * a' ≤ g' * a) : (fracIn f t g a).le (fracIn f t g' a') := by
  unfold Frac.le fracIn
  have key : (f.b * (t.r - f.r) * a' + (t.b - f.b) * (1000 * g' - f.r * a')) * ((t.r - f.r) * a) - (f.b * (t.r - f.r) * a + (t.b - f.b) * (1000 * g - f.r * a)) * ((t.r - f.r) * a') = 1000 * ((t.b - f.b) * (t.r - f.r)) * (g' * a - g * a') := by
    generalize t.b - f.b = d
    generalize t.r - f.r = w
    simp only [Int.add_mul, Int.mul_sub, Int.sub_mul]
    have p1 : f.b * w * a' * (w * a) = f.b * w * a * (w * a') := by
      rw [Int.mul_assoc (f.b * w) a' (w * a), Int.mul_assoc (f.b * w) a (w * a')]
      congr 1
      rw [Int.mul_left_comm a' w a, Int.mul_left_comm a w a', Int.mul_comm a' a]
    have p2 : d * (f.r * a') * (w * a) = d * (f.r * a) * (w * a') := by
      rw [Int.mul_assoc d, Int.mul_assoc d]
      congr 1
      rw [Int.mul_assoc, Int.mul_assoc]
      congr 1
      rw [Int.mul_left_comm a' w a, Int.mul_left_comm a w a', Int.mul_comm a' a]
    have p3 : ∀ x y : Int, d * (1000 * x) * (w * y) = 1000 * (d * w) * (x * y) := fun x y => by
      rw [Int.mul_left_comm d 1000 x, Int.mul_assoc 1000, Int.mul_assoc 1000]
      congr 1
      rw [Int.mul_assoc d x, Int.mul_assoc d w, Int.mul_left_comm x w y]
    rw [p1, p2, p3, p3]
    omega
  have := Int.mul_nonneg (Int.mul_nonneg (show (0 : Int) ≤ 1000 by omega) (Int.mul_nonneg hd hw)) (show 0 ≤ g' * a - g * a' by omega)
  exact Int.le_of_sub_nonneg (by rw [key]; exact this)
theorem frac_mono {c : List Tint} (h : Curve c) {g y g' y' : Int} (g0 : 0 ≤ g) (y0 : 0 ≤ y) (a0 : 0 < g + y) (g0' : 0 ≤ g') (y0' : 0 ≤ y') (a0' : 0 < g' + y') (hr : g * (g' + y') ≤ g' * (g + y)) : (fracAt c g y).le (fracAt c g' y') := by
  unfold fracAt
  have N := next_is h.two g (g + y)
  have N' := next_is h.two g' (g' + y')
  have F := frac_bd h N g0 (by omega) a0
  have F' := frac_bd h N' g0' (by omega) a0'
  generalize nextIx c g (g + y) = i at N F ⊢
  generalize nextIx c g' (g' + y') = j at N' F' ⊢
  generalize ha : g + y = a at *
  generalize ha' : g' + y' = a' at *
  have i1 := N.one
  have j1 := N'.one
  have il := N.lt
  have jl := N'.lt
  by_cases e : i = j
  · subst e
    obtain ⟨r1, r2⟩ := h.rises (i - 1) (by omega)
    rw [show i - 1 + 1 = i by omega] at r1 r2
    exact frac_same _ _ (by omega) (by omega) hr
  · have hij : i < j := by
      rcases Nat.lt_or_ge i j with h | h
      · exact h
      · have hji : j < i := by omega
        have h1 := N.before j j1 hji
        have h2 := N'.here (by omega)
        have h3 := mul_le_r (Int.le_of_lt h1) (c := a') (by omega)
        have h4 := mul_le_r h2 (c := a) (by omega)
        have h1' := Int.mul_lt_mul_of_pos_right h1 (show 0 < a' by omega)
        have e1 : (tAt c j).r * a * a' = (tAt c j).r * a' * a := by rw [Int.mul_assoc, Int.mul_comm a a', ← Int.mul_assoc]
        have e2 : 1000 * g * a' = 1000 * (g * a') := Int.mul_assoc _ _ _
        have e3 : 1000 * g' * a = 1000 * (g' * a) := Int.mul_assoc _ _ _
        omega
    have hb := (h.up_r (i := i) (j := j - 1) (by omega) (by omega)).2
    have p1 := mul_le_r F.high (Int.le_of_lt F'.pos)
    have p2 := mul_le_r F'.low (Int.le_of_lt F.pos)
    have p3 := mul_le_r hb (Int.le_of_lt (Int.mul_pos F.pos F'.pos))
    unfold Frac.le
    generalize (fracIn (tAt c (i - 1)) (tAt c i) g a).under = u at *
    generalize (fracIn (tAt c (j - 1)) (tAt c j) g' a').under = u' at *
    rw [Int.mul_assoc] at p1
    rw [Int.mul_assoc, Int.mul_comm u' u] at p2
    omega

def Frac.down (x : Frac) : Int := x.top / x.under
def Frac.up (x : Frac) : Int := (x.top + x.under - 1) / x.under
theorem Frac.down_mono {x y : Frac} (hx : 0 < x.under) (hy : 0 < y.under) (h : x.le y) : x.down ≤ y.down := by
  unfold Frac.down Frac.le at *
  rw [Int.le_ediv_iff_mul_le hy]
  have h1 : x.top / x.under * x.under ≤ x.top := Int.ediv_mul_le _ (by omega)
  have h2 := mul_le_r h1 (Int.le_of_lt hy)
  refine Int.le_of_mul_le_mul_right (a := x.under) ?_ hx
  rw [Int.mul_assoc, Int.mul_comm y.under, ← Int.mul_assoc]
  omega
theorem up_ge {x u : Int} (hu : 0 < u) : x ≤ (x + u - 1) / u * u := by
  have h1 := Int.mul_ediv_add_emod (x + u - 1) u
  have h2 := Int.emod_lt_of_pos (x + u - 1) hu
  rw [Int.mul_comm] at h1
  omega
theorem up_le {x u n : Int} (hu : 0 < u) (h : x ≤ n * u) : (x + u - 1) / u ≤ n := by
  have h1 : (x + u - 1) / u < n + 1 := by
    rw [Int.ediv_lt_iff_lt_mul hu, Int.add_mul]
    omega
  omega
theorem Frac.up_mono {x y : Frac} (hx : 0 < x.under) (hy : 0 < y.under) (h : x.le y) : x.up ≤ y.up := by
  unfold Frac.up Frac.le at *
  refine up_le hx ?_
  have h1 := mul_le_r (up_ge (x := y.top) hy) (Int.le_of_lt hx)
  refine Int.le_of_mul_le_mul_right (a := y.under) ?_ hy
  rw [Int.mul_assoc, Int.mul_comm x.under, ← Int.mul_assoc]
  omega
theorem Frac.down_up {x : Frac} (hx : 0 < x.under) : x.down ≤ x.up := by
  unfold Frac.down Frac.up
  exact Int.ediv_le_ediv hx (by omega)
theorem up_cdiv {x u : Int} (hu : 0 < u) : (x + u - 1) / u = -(-x / u) := by
  have h1 : (x + u - 1) / u ≤ -(-x / u) := up_le hu (by
    have := Int.ediv_mul_le (-x) (show u ≠ 0 by omega)
    rw [Int.neg_mul]
    omega)
  have h2 : -(-x / u) ≤ (x + u - 1) / u := by
    have h3 := up_ge (x := x) hu
    have h4 : -((x + u - 1) / u) ≤ -x / u := by
      rw [Int.le_ediv_iff_mul_le hu, Int.neg_mul]
      omega
    omega
  omega
theorem Frac.bds {x : Frac} (hx : 0 < x.under) (h0 : 0 ≤ x.top) (h1 : x.top ≤ 200 * x.under) : 0 ≤ x.down ∧ x.down ≤ 200 ∧ 0 ≤ x.up ∧ x.up ≤ 200 := by
  have h2 : 0 ≤ x.down := Int.ediv_nonneg h0 (Int.le_of_lt hx)
  have h3 := Frac.down_up hx
  have h4 : x.up ≤ 200 := up_le hx h1
  omega
theorem fracAt_bd {c : List Tint} (h : Curve c) {g y : Int} (g0 : 0 ≤ g) (y0 : 0 ≤ y) (a0 : 0 < g + y) : 0 < (fracAt c g y).under ∧ (fracAt c g y).under ≤ 1000 * (g + y) ∧ 0 ≤ (fracAt c g y).top ∧ (fracAt c g y).top ≤ 200 * (fracAt c g y).under := by
  have N := next_is h.two g (g + y)
  have F := frac_bd h N g0 (by omega) a0
  unfold fracAt
  generalize nextIx c g (g + y) = i at N F ⊢
  have b0 := h.black (i - 1) (by have := N.lt; omega)
  have b1 := h.black i N.lt
  have p1 := Int.mul_nonneg b0.1 (Int.le_of_lt F.pos)
  have p2 := mul_le_r b1.2 (Int.le_of_lt F.pos)
  have p3 := F.low
  have p4 := F.high
  exact ⟨F.pos, F.most, by omega, by omega⟩
end Go.Proofs.Ytffglhnmgapndaa
