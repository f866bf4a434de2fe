/- The plain model of layer 5 (slat): numbers and lists only. -/
import Derived.Test.YtfpfafijockfnaaSpec
namespace Go.Proofs.Ytfpfafijockfnaa

structure Slat where
  thick : Span
  depth : Span
  shift : Span
  pitch : Span
  deriving DecidableEq
structure Jig where
  glue : Span
  lead : Span
  side : Span
  height : Span
  play : Int
  grooves : Int
  deriving DecidableEq
def slatOk (s : Slat) : Bool := withinB s.thick 1 10000 && withinB s.depth 0 s.thick.lo && withinB s.shift (-500) 500 && withinB s.pitch (-50) 50
def jigOk (j : Jig) : Bool := withinB j.glue 0 500 && withinB j.lead 1 5000 && withinB j.side (-500) 500 && withinB j.height (-500) 500 && fromB j.play 0 500 && fromB j.grooves 1 10
def limAt (l : List Int) (i : Nat) : Bool := fromB (l.getD i 0) 0 1000 && (decide (i = 0) || decide (l.getD (i - 1) 0 < l.getD i 0))
def limsOk (l : List Int) : Bool := (List.range l.length).all (limAt l)
def slErr (j : Jig) (lower upper : List Slat) (lims : List Int) (o : Bool) : Int :=
  if (jigOk j && lower.all slatOk && upper.all slatOk) = false then 1
  else if 7 < lower.length ∨ 7 < upper.length ∨ 8 < lims.length then 3
  else if (limsOk lims && o) = false then 2 else 0
structure SlatIn (s : Slat) : Prop where
  t0 : 1 ≤ s.thick.lo
  t1 : s.thick.lo ≤ s.thick.hi
  t2 : s.thick.hi ≤ 10000
  d0 : 0 ≤ s.depth.lo
  d1 : s.depth.lo ≤ s.depth.hi
  d2 : s.depth.hi ≤ s.thick.lo
  s0 : -500 ≤ s.shift.lo
  s1 : s.shift.lo ≤ s.shift.hi
  s2 : s.shift.hi ≤ 500
  p0 : -50 ≤ s.pitch.lo
  p1 : s.pitch.lo ≤ s.pitch.hi
  p2 : s.pitch.hi ≤ 50
structure JigIn (j : Jig) : Prop where
  g0 : 0 ≤ j.glue.lo
  g1 : j.glue.lo ≤ j.glue.hi
  g2 : j.glue.hi ≤ 500
  l0 : 1 ≤ j.lead.lo
  l1 : j.lead.lo ≤ j.lead.hi
  l2 : j.lead.hi ≤ 5000
  s0 : -500 ≤ j.side.lo
  s1 : j.side.lo ≤ j.side.hi
  s2 : j.side.hi ≤ 500
  h0 : -500 ≤ j.height.lo
  h1 : j.height.lo ≤ j.height.hi
  h2 : j.height.hi ≤ 500
  p0 : 0 ≤ j.play
  p1 : j.play ≤ 500
  n0 : 1 ≤ j.grooves
  n1 : j.grooves ≤ 10
theorem slatIn_of {s : Slat} (h : slatOk s = true) : SlatIn s := by
  simp only [slatOk, Bool.and_eq_true, withinB_iff] at h
  constructor <;> omega
theorem jigIn_of {j : Jig} (h : jigOk j = true) : JigIn j := by
  simp only [jigOk, Bool.and_eq_true, withinB_iff, fromB_iff] at h
  constructor <;> omega

/- Reaches. -/
def addS (a b : Span) : Span := ⟨a.lo + b.lo, a.hi + b.hi⟩
def timesS (n : Int) (s : Span) : Span := if n < 0 then ⟨n * s.hi, n * s.lo⟩ else ⟨n * s.lo, n * s.hi⟩
def cutS (a b : Span) : Span := ⟨max a.lo b.lo, min a.hi b.hi⟩
def insideB (r b : Span) : Bool := decide (b.lo ≤ r.lo) && decide (r.hi ≤ b.hi)
def meetsB (r b : Span) : Bool := decide ((cutS r b).lo ≤ (cutS r b).hi)
def amountS (r : Span) : Int := max (-r.lo) r.hi
def playS (j : Jig) : Span := ⟨-j.play, j.play⟩
def roomS (j : Jig) (a b : Slat) : Span := ⟨a.depth.lo + b.depth.lo + j.glue.lo - j.lead.hi, a.depth.hi + b.depth.hi + j.glue.hi - j.lead.lo⟩
def firstS (a b : Slat) : Span := ⟨a.shift.lo - b.shift.hi, a.shift.hi - b.shift.lo⟩
def stepS (a b : Slat) : Span := ⟨a.pitch.lo - b.pitch.hi, a.pitch.hi - b.pitch.lo⟩
def lastS (j : Jig) (a b : Slat) : Span := ⟨(cutS (firstS a b) (playS j)).lo + (j.grooves - 1) * (stepS a b).lo, (cutS (firstS a b) (playS j)).hi + (j.grooves - 1) * (stepS a b).hi⟩
def roomB : Span := ⟨0, 9223372036854775807⟩
def alwaysB (j : Jig) (a b : Slat) : Bool := insideB (roomS j a b) roomB && (insideB (firstS a b) (playS j) && insideB (lastS j a b) (playS j))
def perhapsB (j : Jig) (a b : Slat) : Bool := meetsB (roomS j a b) roomB && (meetsB (firstS a b) (playS j) && meetsB (lastS j a b) (playS j))
def closesN (j : Jig) (a b : Slat) : Int := if alwaysB j a b = true then 2 else if perhapsB j a b = true then 1 else 0
def placeS (s : Slat) (i : Int) : Span := ⟨s.shift.lo + i * s.pitch.lo, s.shift.hi + i * s.pitch.hi⟩
def sideS (j : Jig) (a b : Slat) (i : Int) : Span := ⟨-2 * j.side.hi + (placeS a i).lo + (placeS b i).lo, -2 * j.side.lo + (placeS a i).hi + (placeS b i).hi⟩
def heightS (j : Jig) (a b : Slat) : Span := ⟨a.thick.lo - b.thick.hi - j.glue.hi - 2 * a.depth.hi + j.lead.lo - 2 * j.height.hi, a.thick.hi - b.thick.lo - j.glue.lo - 2 * a.depth.lo + j.lead.hi - 2 * j.height.lo⟩
structure Lead where
  side : Span
  height : Span
  deriving DecidableEq
def leadOf (j : Jig) (a b : Slat) (i : Int) : Lead := ⟨sideS j a b i, heightS j a b⟩
def leadsOf (j : Jig) (a b : Slat) : List Lead := (List.range j.grooves.toNat).map fun (i : Nat) => leadOf j a b (i : Int)
def leadIn (l : Lead) (limit : Int) : Bool := decide (amountS l.side * amountS l.side + amountS l.height * amountS l.height ≤ 4 * limit * limit)
def gradeFrom (l : Lead) : List Int → Int → Int
  | [], _ => -1
  | x :: xs, i => if leadIn l x = true then i else gradeFrom l xs (i + 1)
def gradeOf (l : Lead) (lims : List Int) : Int := gradeFrom l lims 0
def gradesOf (j : Jig) (a b : Slat) (lims : List Int) : List Int := (leadsOf j a b).map fun l => gradeOf l lims

/- How far they are from 0. -/
def SpanBd (s : Span) (m : Int) : Prop := -m ≤ s.lo ∧ s.lo ≤ m ∧ -m ≤ s.hi ∧ s.hi ≤ m
theorem mul_in {i x m : Int} (h0 : 0 ≤ i) (h1 : i ≤ 9) (h2 : -m ≤ x) (h3 : x ≤ m) (hm : 0 ≤ m) : -(9 * m) ≤ i * x ∧ i * x ≤ 9 * m := by
  have a := Int.mul_le_mul_of_nonneg_left h3 h0
  have b := Int.mul_le_mul_of_nonneg_left h2 h0
  have c := Int.mul_le_mul_of_nonneg_right h1 hm
  have d : i * -m = -(i * m) := Int.mul_neg i m
  omega
theorem place_bd {s : Slat} (h : SlatIn s) {i : Int} (h0 : 0 ≤ i) (h1 : i ≤ 9) : SpanBd (placeS s i) 1000 := by
  have a := mul_in (m := 50) h0 h1 (show -50 ≤ s.pitch.lo from h.p0) (by have := h.p1; have := h.p2; omega) (by omega)
  have b := mul_in (m := 50) h0 h1 (show -50 ≤ s.pitch.hi by have := h.p1; have := h.p0; omega) h.p2 (by omega)
  have := h.s0; have := h.s1; have := h.s2
  unfold SpanBd placeS
  dsimp only
  omega
theorem side_bd {j : Jig} {a b : Slat} (hj : JigIn j) (ha : SlatIn a) (hb : SlatIn b) {i : Int} (h0 : 0 ≤ i) (h1 : i ≤ 9) : SpanBd (sideS j a b i) 3000 := by
  have p := place_bd ha h0 h1
  have q := place_bd hb h0 h1
  have := hj.s0; have := hj.s1; have := hj.s2
  unfold SpanBd at p q ⊢
  unfold sideS
  dsimp only
  omega
theorem height_bd {j : Jig} {a b : Slat} (hj : JigIn j) (ha : SlatIn a) (hb : SlatIn b) : SpanBd (heightS j a b) 40000 := by
  have := hj.g0; have := hj.g1; have := hj.g2; have := hj.l0; have := hj.l1; have := hj.l2; have := hj.h0; have := hj.h1; have := hj.h2
  have := ha.t0; have := ha.t1; have := ha.t2; have := ha.d0; have := ha.d1; have := ha.d2
  have := hb.t0; have := hb.t1; have := hb.t2
  unfold SpanBd heightS
  dsimp only
  omega
theorem amount_bd {s : Span} {m : Int} (h : SpanBd s m) (ho : s.lo ≤ s.hi) : 0 ≤ amountS s ∧ amountS s ≤ m := by
  unfold SpanBd at h
  unfold amountS
  omega
theorem leads_len (j : Jig) (a b : Slat) : (leadsOf j a b).length = j.grooves.toNat := by simp [leadsOf]
theorem leads_at {j : Jig} {a b : Slat} {k : Nat} (h : k < (leadsOf j a b).length) : (leadsOf j a b)[k] = leadOf j a b (k : Int) := by simp [leadsOf]
end Go.Proofs.Ytfpfafijockfnaa
