/- The plain model of layer 4 (die): numbers and lists only. -/
namespace Go.Proofs.Ytfpfafijockfnaa

structure Span where
  lo : Int
  hi : Int
  deriving DecidableEq
structure Die where
  wide : Int
  wear : Span
  deriving DecidableEq
structure Draw where
  len : Int
  want : Span
  deriving DecidableEq
structure Press where
  dies : List Die
  shrink : Span
  change : Int

def withinB (s : Span) (a b : Int) : Bool := decide (a ≤ s.lo ∧ s.lo ≤ s.hi ∧ s.hi ≤ b)
def fromB (n a b : Int) : Bool := decide (a ≤ n ∧ n ≤ b)
theorem withinB_iff {s : Span} {a b : Int} : withinB s a b = true ↔ a ≤ s.lo ∧ s.lo ≤ s.hi ∧ s.hi ≤ b := by simp [withinB]
theorem fromB_iff {n a b : Int} : fromB n a b = true ↔ a ≤ n ∧ n ≤ b := by simp [fromB]
def dieOk (d : Die) : Bool := fromB d.wide 1 20000 && withinB d.wear 0 200
def endB (s : Span) (ch : Int) : Bool := withinB s 0 300 && fromB ch 0 10000
def pressOk (p : Press) : Bool := fromB p.dies.length 1 4 && p.dies.all dieOk && endB p.shrink p.change
def drawOk (d : Draw) : Bool := fromB d.len 1 1000 && withinB d.want 0 20000
def drawsOk (l : List Draw) : Bool := decide (l.length ≤ 8) && l.all drawOk

theorem all_snoc {α : Type} {f : α → Bool} {l : List α} {k : Nat} (h : k < l.length) : (l.take (k + 1)).all f = ((l.take k).all f && f l[k]) := by
  rw [List.take_succ_eq_append_getElem h, List.all_append]; simp
theorem all_no {α : Type} {f : α → Bool} {l : List α} {k : Nat} (h : k < l.length) (hf : f l[k] = false) : l.all f = false := by
  cases hx : l.all f with
  | false => rfl
  | true => have := List.all_eq_true.1 hx l[k] (List.getElem_mem h); rw [hf] at this; cases this

/-- A width, times 1000: of a die with a wear, and what it shrinks. -/
def nano (wide wear shrink used : Int) : Int := (wide + wear * used) * (1000 - shrink)
def thin (d : Die) (s : Span) (used : Int) : Int := nano d.wide d.wear.lo s.hi used
def thick (d : Die) (s : Span) (used : Int) : Int := nano d.wide d.wear.hi s.lo used
def doesB (d : Die) (s : Span) (x : Draw) (used : Int) : Bool := decide (1000 * x.want.lo ≤ thin d s used) && decide (thick d s (used + x.len) ≤ 1000 * x.want.hi)

theorem mul_bd {a b A B : Int} (h0 : 0 ≤ a) (h1 : a ≤ A) (h2 : 0 ≤ b) (h3 : b ≤ B) : 0 ≤ a * b ∧ a * b ≤ A * B :=
  ⟨Int.mul_nonneg h0 h2, Int.mul_le_mul h1 h3 h2 (Int.le_trans h0 h1)⟩
theorem nano_bd {wide wear shrink used : Int} (a0 : 1 ≤ wide) (a1 : wide ≤ 20000) (b0 : 0 ≤ wear) (b1 : wear ≤ 200) (c0 : 0 ≤ shrink) (c1 : shrink ≤ 300) (d0 : 0 ≤ used) (d1 : used ≤ 9000) :
    (0 ≤ wear * used ∧ wear * used ≤ 1800000) ∧ 0 ≤ nano wide wear shrink used ∧ nano wide wear shrink used ≤ 1820000000 := by
  have h1 := mul_bd b0 b1 d0 d1
  have h2 := mul_bd (show 0 ≤ wide + wear * used by omega) (show wide + wear * used ≤ 1820000 by omega) (show 0 ≤ 1000 - shrink by omega) (show 1000 - shrink ≤ 1000 by omega)
  unfold nano
  omega
theorem nano_mono {wide wear shrink u v : Int} (b0 : 0 ≤ wear) (c1 : shrink ≤ 300) (h : u ≤ v) : nano wide wear shrink u ≤ nano wide wear shrink v := by
  unfold nano
  have h1 := Int.mul_le_mul_of_nonneg_left h b0
  exact Int.mul_le_mul_of_nonneg_right (by omega) (by omega)
def DieIn (d : Die) : Prop := 1 ≤ d.wide ∧ d.wide ≤ 20000 ∧ 0 ≤ d.wear.lo ∧ d.wear.lo ≤ d.wear.hi ∧ d.wear.hi ≤ 200
def ShrIn (s : Span) : Prop := 0 ≤ s.lo ∧ s.lo ≤ s.hi ∧ s.hi ≤ 300
theorem dieIn_of {d : Die} (h : dieOk d = true) : DieIn d := by
  simp only [dieOk, Bool.and_eq_true, fromB_iff, withinB_iff] at h
  exact ⟨h.1.1, h.1.2, h.2⟩
theorem press_parts {p : Press} (h : pressOk p = true) : (1 ≤ p.dies.length ∧ p.dies.length ≤ 4) ∧ (∀ d ∈ p.dies, DieIn d) ∧ ShrIn p.shrink ∧ 0 ≤ p.change ∧ p.change ≤ 10000 := by
  simp only [pressOk, endB, Bool.and_eq_true, fromB_iff, withinB_iff, List.all_eq_true] at h
  obtain ⟨⟨⟨h1, h2⟩, h3⟩, h4, h5⟩ := h
  exact ⟨by omega, fun d hd => dieIn_of (h3 d hd), h4, h5⟩
theorem draws_parts {l : List Draw} (h : drawsOk l = true) : l.length ≤ 8 ∧ ∀ d ∈ l, (1 ≤ d.len ∧ d.len ≤ 1000) ∧ 0 ≤ d.want.lo ∧ d.want.lo ≤ d.want.hi ∧ d.want.hi ≤ 20000 := by
  simp only [drawsOk, Bool.and_eq_true, List.all_eq_true, decide_eq_true_eq] at h
  refine ⟨h.1, fun d hd => ?_⟩
  have := h.2 d hd
  simp only [drawOk, Bool.and_eq_true, fromB_iff, withinB_iff] at this
  exact this
theorem thin_bd {d : Die} {s : Span} {u : Int} (hd : DieIn d) (hs : ShrIn s) (h0 : 0 ≤ u) (h1 : u ≤ 9000) : 0 ≤ thin d s u ∧ thin d s u ≤ 1820000000 := by
  obtain ⟨a, b, c, e, f⟩ := hd
  obtain ⟨g, h, i⟩ := hs
  exact (nano_bd a b c (by omega) (by omega) i h0 h1).2
theorem thick_bd {d : Die} {s : Span} {u : Int} (hd : DieIn d) (hs : ShrIn s) (h0 : 0 ≤ u) (h1 : u ≤ 9000) : 0 ≤ thick d s u ∧ thick d s u ≤ 1820000000 := by
  obtain ⟨a, b, c, e, f⟩ := hd
  obtain ⟨g, h, i⟩ := hs
  exact (nano_bd a b (by omega) f g (by omega) h0 h1).2
def cdiv (a b : Int) : Int := -(-a / b)
end Go.Proofs.Ytfpfafijockfnaa
