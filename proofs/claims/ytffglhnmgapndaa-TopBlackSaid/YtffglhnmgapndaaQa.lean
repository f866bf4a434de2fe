/- Made by program out of parts: Spec,Spec2,Lib,A,B,C,D,MapL,MapR. -/
import Derived.Test.YtffglhnmgapndaaRows
import Derived.WalkKit
import Derived.WalkSpells
import Derived.WalkLawsBesides
import Derived.Lib.Hide
import Derived.Maps.RangeRun
import Derived.RangeFuncBox
import Derived.Deep.RegionHeld3
import Derived.Laws.EntriesVeiled
import Derived.RangeFuncNested
import Derived.RangeFuncBound
import Derived.RangeFuncCalls
import Derived.RangeFuncLeaves
import Derived.Shelf.Abstract
import Derived.Shelf.RegionOpen
import Derived.OwnWalkIn
import Derived.TacticsInMore
import Derived.LoopNIn
import Derived.LoopIn
import Derived.Laws.ResultCell
import Derived.Laws.Rows
import Derived.MapKept
import Derived.Maps.RangeWalk
/- The plain model of layer 1 (sack): numbers and lists only. -/
namespace Go.Proofs.Ytffglhnmgapndaa

structure Span where
  lo : Int
  hi : Int
  deriving DecidableEq
structure Sack where
  w : Span
  c : Span
  l : Span
  deriving DecidableEq
structure Take where
  s : Int
  m : Span
  deriving DecidableEq
structure St where
  m : Int
  w : Int
  c : Int
  s : Int
structure Reach where
  least : Int
  most : Int
structure Held where
  sack : Sack
  weight : Span

def St.dry (t : St) : Int := t.m * (1000 - t.w)
def St.water (t : St) : Int := t.m * t.w * 1000000
def St.carbon (t : St) : Int := t.dry * t.c * 1000
def St.smoke (t : St) : Int := t.dry * (1000 - t.c) * t.s
def St.clay (t : St) : Int := t.dry * (1000 - t.c) * (1000 - t.s)
def St.lead (t : St) : Int := t.carbon + t.clay
def carbonOver (thou : Int) (t : St) : Int := 1000 * t.carbon - thou * t.lead
def St.ok (t : St) : Prop := 0 ≤ t.m ∧ t.m ≤ 800000 ∧ 0 ≤ t.w ∧ t.w ≤ 900 ∧ 0 ≤ t.c ∧ t.c ≤ 1000 ∧ 0 ≤ t.s ∧ t.s ≤ 900

def maxI : Int := 9223372036854775807
def minI : Int := -9223372036854775808

def Span.ends (s : Span) : List Int := [s.lo, s.hi]
def Held.corners (h : Held) : List St :=
  h.weight.ends.flatMap fun m => h.sack.w.ends.flatMap fun w => h.sack.c.ends.flatMap fun c => h.sack.l.ends.map fun s => ⟨m, w, c, s⟩
def Reach.step (g : St → Int) (r : Reach) (t : St) : Reach := ⟨min r.least (g t), max r.most (g t)⟩
def Held.adds (h : Held) (g : St → Int) : Reach := h.corners.foldl (Reach.step g) ⟨maxI, minI⟩
def Reach.plus (a b : Reach) : Reach := ⟨a.least + b.least, a.most + b.most⟩
def together (l : List Held) (g : St → Int) : Reach := l.foldl (fun r h => r.plus (h.adds g)) ⟨0, 0⟩

def withinB (s : Span) (c d : Int) : Bool := decide (c ≤ s.lo ∧ s.lo ≤ s.hi ∧ s.hi ≤ d)
def sackOk (s : Sack) : Bool := withinB s.w 0 900 && withinB s.c 0 1000 && withinB s.l 0 900
def sacksOk (l : List Sack) : Bool := decide (l.length ≤ 8) && l.all sackOk
def idxB (l : List Sack) (i : Int) : Bool := decide (0 ≤ i ∧ i < l.length)
def takeOk (l : List Sack) (t : Take) : Bool := idxB l t.s && withinB t.m 1 100000
def validB (l : List Sack) (b : List Take) : Bool := sacksOk l && decide (1 ≤ b.length ∧ b.length ≤ 8) && b.all (takeOk l)

def Held.ok (h : Held) : Prop := sackOk h.sack = true ∧ 0 ≤ h.weight.lo ∧ h.weight.lo ≤ h.weight.hi ∧ h.weight.hi ≤ 800000

/-- Bounds of a product of two numbers that are not below 0. -/
theorem mul_bd {a b A B : Int} (ha : 0 ≤ a) (hA : a ≤ A) (hb : 0 ≤ b) (hB : b ≤ B) : 0 ≤ a * b ∧ a * b ≤ A * B :=
  ⟨Int.mul_nonneg ha hb, Int.mul_le_mul hA hB hb (by omega)⟩

theorem St.dry_bd {t : St} (h : t.ok) : 0 ≤ t.dry ∧ t.dry ≤ 800000000 := by
  obtain ⟨a, b, c, d, _⟩ := h
  have := mul_bd a b (show 0 ≤ 1000 - t.w by omega) (show 1000 - t.w ≤ 1000 by omega)
  unfold St.dry; omega
theorem St.mw_bd {t : St} (h : t.ok) : 0 ≤ t.m * t.w ∧ t.m * t.w ≤ 720000000 := by
  obtain ⟨a, b, c, d, _⟩ := h
  have := mul_bd a b c d
  omega
theorem St.dryc_bd {t : St} (h : t.ok) : 0 ≤ t.dry * t.c ∧ t.dry * t.c ≤ 800000000000 := by
  have h1 := St.dry_bd h
  obtain ⟨_, _, _, _, a, b, _⟩ := h
  have := mul_bd h1.1 h1.2 a b
  omega
theorem St.dryr_bd {t : St} (h : t.ok) : 0 ≤ t.dry * (1000 - t.c) ∧ t.dry * (1000 - t.c) ≤ 800000000000 := by
  have h1 := St.dry_bd h
  obtain ⟨_, _, _, _, a, b, _⟩ := h
  have := mul_bd h1.1 h1.2 (show 0 ≤ 1000 - t.c by omega) (show 1000 - t.c ≤ 1000 by omega)
  omega
theorem St.water_bd {t : St} (h : t.ok) : 0 ≤ t.water ∧ t.water ≤ 720000000000000 := by
  have := St.mw_bd h
  unfold St.water; omega
theorem St.carbon_bd {t : St} (h : t.ok) : 0 ≤ t.carbon ∧ t.carbon ≤ 800000000000000 := by
  have := St.dryc_bd h
  unfold St.carbon; omega
theorem St.smoke_bd {t : St} (h : t.ok) : 0 ≤ t.smoke ∧ t.smoke ≤ 720000000000000 := by
  have h1 := St.dryr_bd h
  obtain ⟨_, _, _, _, _, _, a, b⟩ := h
  have := mul_bd h1.1 h1.2 a b
  unfold St.smoke; omega
theorem St.clay_bd {t : St} (h : t.ok) : 0 ≤ t.clay ∧ t.clay ≤ 800000000000000 := by
  have h1 := St.dryr_bd h
  obtain ⟨_, _, _, _, _, _, a, b⟩ := h
  have := mul_bd h1.1 h1.2 (show 0 ≤ 1000 - t.s by omega) (show 1000 - t.s ≤ 1000 by omega)
  unfold St.clay; omega
theorem St.part_eq (t : St) : t.carbon + t.smoke + t.clay = t.dry * 1000000 := by
  unfold St.carbon St.smoke St.clay
  generalize t.dry = d
  have e : d * (1000 - t.c) * (1000 - t.s) = d * (1000 - t.c) * 1000 - d * (1000 - t.c) * t.s := Int.mul_sub _ _ _
  have e2 : d * (1000 - t.c) = d * 1000 - d * t.c := Int.mul_sub _ _ _
  omega
theorem St.lead_bd {t : St} (h : t.ok) : 0 ≤ t.lead ∧ t.lead ≤ 800000000000000 := by
  have h1 := St.carbon_bd h
  have h2 := St.clay_bd h
  have h3 := St.smoke_bd h
  have h4 := St.part_eq t
  have h5 := St.dry_bd h
  unfold St.lead; omega
theorem tl_bd {t : St} (h : t.ok) {thou : Int} (h0 : 0 ≤ thou) (h1 : thou ≤ 1000) : 0 ≤ thou * t.lead ∧ thou * t.lead ≤ 800000000000000000 := by
  have h2 := St.lead_bd h
  have := mul_bd h0 h1 h2.1 h2.2
  omega
theorem carbonOver_bd {t : St} (h : t.ok) {thou : Int} (h0 : 0 ≤ thou) (h1 : thou ≤ 1000) : -800000000000000000 ≤ carbonOver thou t ∧ carbonOver thou t ≤ 800000000000000000 := by
  have h2 := tl_bd h h0 h1
  have h3 := St.carbon_bd h
  unfold carbonOver; omega
theorem withinB_iff {s : Span} {c d : Int} : withinB s c d = true ↔ c ≤ s.lo ∧ s.lo ≤ s.hi ∧ s.hi ≤ d := by simp [withinB]

theorem Held.corner_ok {h : Held} (hh : h.ok) : ∀ t ∈ h.corners, t.ok := by
  intro t ht
  obtain ⟨hs, h1, h2, h3⟩ := hh
  simp only [sackOk, Bool.and_eq_true, withinB_iff] at hs
  simp only [Held.corners, Span.ends, List.mem_flatMap, List.mem_map, List.mem_cons, List.not_mem_nil, or_false] at ht
  obtain ⟨m, hm, w, hw, c, hc, s, hs', rfl⟩ := ht
  simp only [St.ok]
  omega

/-- A measure that lies within bounds at states: so does what a sack adds. -/
theorem adds_bd {h : Held} {g : St → Int} {B : Int} (hh : h.ok) (hg : ∀ t : St, t.ok → -B ≤ g t ∧ g t ≤ B) (_hB : B ≤ 9000000000000000000) :
    -B ≤ (h.adds g).least ∧ (h.adds g).least ≤ B ∧ -B ≤ (h.adds g).most ∧ (h.adds g).most ≤ B := by
  have hc := Held.corner_ok hh
  have key : ∀ (l : List St) (r : Reach), (∀ t ∈ l, t.ok) → (l ≠ [] ∨ (-B ≤ r.least ∧ r.least ≤ B ∧ -B ≤ r.most ∧ r.most ≤ B)) → -B ≤ r.least → r.most ≤ B →
      -B ≤ (l.foldl (Reach.step g) r).least ∧ (l.foldl (Reach.step g) r).least ≤ B ∧ -B ≤ (l.foldl (Reach.step g) r).most ∧ (l.foldl (Reach.step g) r).most ≤ B := by
    intro l
    induction l with
    | nil => intro r _ h1 _ _; simpa using h1
    | cons t l ih =>
      intro r ht _ h2 h3
      have h4 := hg t (ht t (by simp))
      refine ih _ (fun u hu => ht u (by simp [hu])) (.inr ?_) ?_ ?_ <;> simp only [Reach.step] <;> omega
  refine key h.corners ⟨maxI, minI⟩ hc (.inl ?_) ?_ ?_
  · simp [Held.corners, Span.ends]
  · have := (hg ⟨0, 0, 0, 0⟩ (by simp [St.ok])); simp only [maxI]; omega
  · have := (hg ⟨0, 0, 0, 0⟩ (by simp [St.ok])); simp only [minI]; omega

/-- What is known of the takes out of each sack, by the numbers of sacks in the order in which they come. -/
def updH : List (Int × Held) → Int → Held → List (Int × Held)
  | [], k, v => [(k, v)]
  | (a, b) :: l, k, v => if a = k then (a, v) :: l else (a, b) :: updH l k v
def oldH : List (Int × Held) → Int → Held
  | [], _ => ⟨⟨⟨0, 0⟩, ⟨0, 0⟩, ⟨0, 0⟩⟩, ⟨0, 0⟩⟩
  | (a, b) :: l, k => if a = k then b else oldH l k
def sackAt (l : List Sack) (i : Int) : Sack := l.getD i.toNat ⟨⟨0, 0⟩, ⟨0, 0⟩, ⟨0, 0⟩⟩
def gstep (l : List Sack) (m : List (Int × Held)) (t : Take) : List (Int × Held) :=
  updH m t.s ⟨sackAt l t.s, ⟨(oldH m t.s).weight.lo + t.m.lo, (oldH m t.s).weight.hi + t.m.hi⟩⟩
def gather (l : List Sack) (b : List Take) : List (Int × Held) := b.foldl (gstep l) []

theorem oldH_bd (B : Int) (hB : 0 ≤ B) (k : Int) : ∀ (m : List (Int × Held)), (∀ p ∈ m, 0 ≤ p.2.weight.lo ∧ p.2.weight.lo ≤ p.2.weight.hi ∧ p.2.weight.hi ≤ B) →
    0 ≤ (oldH m k).weight.lo ∧ (oldH m k).weight.lo ≤ (oldH m k).weight.hi ∧ (oldH m k).weight.hi ≤ B
  | [], _ => by simp [oldH, hB]
  | (a, b) :: l, h => by
    unfold oldH
    split
    · exact h (a, b) (by simp)
    · exact oldH_bd B hB k l fun p hp => h p (by simp [hp])
theorem mem_updH (k : Int) (v : Held) : ∀ (m : List (Int × Held)) (p : Int × Held), p ∈ updH m k v → p = (k, v) ∨ p ∈ m
  | [], p, h => by simp [updH] at h; exact .inl h
  | (a, b) :: l, p, h => by
    unfold updH at h
    split at h
    · rename_i e
      subst e
      simp at h
      rcases h with rfl | h
      · exact .inl rfl
      · exact .inr (by simp [h])
    · simp at h
      rcases h with rfl | h
      · exact .inr (by simp)
      · rcases mem_updH k v l p h with h | h
        · exact .inl h
        · exact .inr (by simp [h])
theorem gather_snoc (l : List Sack) (b : List Take) (t : Take) : gather l (b ++ [t]) = gstep l (gather l b) t := by simp [gather]
theorem gather_bd (l : List Sack) : ∀ (b : List Take), (∀ t ∈ b, withinB t.m 1 100000 = true) → ∀ p ∈ gather l b, p.2.sack = sackAt l p.1 ∧ 0 ≤ p.2.weight.lo ∧ p.2.weight.lo ≤ p.2.weight.hi ∧ p.2.weight.hi ≤ 100000 * b.length := by
  intro b hb
  suffices H : ∀ (b : List Take) (m : List (Int × Held)) (n : Nat), (∀ t ∈ b, withinB t.m 1 100000 = true) → (∀ p ∈ m, p.2.sack = sackAt l p.1 ∧ 0 ≤ p.2.weight.lo ∧ p.2.weight.lo ≤ p.2.weight.hi ∧ p.2.weight.hi ≤ 100000 * n) →
      ∀ p ∈ b.foldl (gstep l) m, p.2.sack = sackAt l p.1 ∧ 0 ≤ p.2.weight.lo ∧ p.2.weight.lo ≤ p.2.weight.hi ∧ p.2.weight.hi ≤ 100000 * (n + b.length) by
    have := H b [] 0 hb (by simp)
    simpa [gather] using this
  intro b
  induction b with
  | nil => intro m n _ hm; simpa using hm
  | cons t b ih =>
    intro m n hb hm
    have ht := withinB_iff.1 (hb t (by simp))
    have ho := oldH_bd (100000 * n) (by omega) t.s m fun p hp => (hm p hp).2
    have := ih (gstep l m t) (n + 1) (fun u hu => hb u (by simp [hu])) (by
      intro p hp
      rcases mem_updH _ _ _ _ hp with rfl | hp
      · simp only [true_and]; omega
      · have := hm p hp; exact ⟨this.1, by omega⟩)
    intro p hp
    have := this p hp
    simp only [List.length_cons]
    exact ⟨this.1, by omega⟩
end Go.Proofs.Ytffglhnmgapndaa

/- The plain model of shares: where a share begins and ends. -/
namespace Go.Proofs.Ytffglhnmgapndaa

theorem step_mono {g g' : St → Int} {r r' : Reach} {t : St} (hg : g t ≤ g' t) (h1 : r.least ≤ r'.least) (h2 : r.most ≤ r'.most) : (r.step g t).least ≤ (r'.step g' t).least ∧ (r.step g t).most ≤ (r'.step g' t).most := by
  simp only [Reach.step]; omega
theorem adds_mono {h : Held} {g g' : St → Int} (hh : h.ok) (hg : ∀ t : St, t.ok → g t ≤ g' t) : (h.adds g).least ≤ (h.adds g').least ∧ (h.adds g).most ≤ (h.adds g').most := by
  have hc := Held.corner_ok hh
  unfold Held.adds
  suffices H : ∀ (l : List St) (r r' : Reach), (∀ t ∈ l, t.ok) → r.least ≤ r'.least → r.most ≤ r'.most → (l.foldl (Reach.step g) r).least ≤ (l.foldl (Reach.step g') r').least ∧ (l.foldl (Reach.step g) r).most ≤ (l.foldl (Reach.step g') r').most from
    H _ _ _ hc (Int.le_refl _) (Int.le_refl _)
  intro l
  induction l with
  | nil => intro r r' _ h1 h2; exact ⟨h1, h2⟩
  | cons t l ih =>
    intro r r' ht h1 h2
    have := step_mono (t := t) (hg t (ht t (by simp))) h1 h2
    exact ih _ _ (fun u hu => ht u (by simp [hu])) this.1 this.2
theorem together_mono {l : List Held} {g g' : St → Int} (hl : ∀ h ∈ l, h.ok) (hg : ∀ t : St, t.ok → g t ≤ g' t) : (together l g).least ≤ (together l g').least ∧ (together l g).most ≤ (together l g').most := by
  unfold together
  suffices H : ∀ (l : List Held) (r r' : Reach), (∀ h ∈ l, h.ok) → r.least ≤ r'.least → r.most ≤ r'.most →
      (l.foldl (fun r h => r.plus (h.adds g)) r).least ≤ (l.foldl (fun r h => r.plus (h.adds g')) r').least ∧ (l.foldl (fun r h => r.plus (h.adds g)) r).most ≤ (l.foldl (fun r h => r.plus (h.adds g')) r').most from
    H _ _ _ hl (Int.le_refl _) (Int.le_refl _)
  intro l
  induction l with
  | nil => intro r r' _ h1 h2; exact ⟨h1, h2⟩
  | cons a l ih =>
    intro r r' ha h1 h2
    have := adds_mono (ha a (by simp)) hg
    refine ih _ _ (fun u hu => ha u (by simp [hu])) ?_ ?_ <;> simp only [Reach.plus] <;> omega
theorem over_mono {a b : Int} (h : a ≤ b) : ∀ t : St, t.ok → carbonOver b t ≤ carbonOver a t := by
  intro t ht
  have := (St.lead_bd ht).1
  have := Int.mul_le_mul_of_nonneg_right h this
  unfold carbonOver; omega

/-- The first number from 0 on, below n, that has a property; n if none has. -/
def firstFrom (p : Int → Bool) : Nat → Int → Int
  | 0, i => i
  | f + 1, i => if p i then i else firstFrom p f (i + 1)
def firstOf (n : Nat) (p : Int → Bool) : Int := firstFrom p n 0
theorem firstFrom_is (p : Int → Bool) : ∀ (f : Nat) (i r : Int), i ≤ r → r ≤ i + f → (∀ x, i ≤ x → x < r → p x = false) → (r < i + f → p r = true) → firstFrom p f i = r
  | 0, i, r, h1, h2, _, _ => by simp [firstFrom]; omega
  | f + 1, i, r, h1, h2, h3, h4 => by
    unfold firstFrom
    by_cases e : i = r
    · subst e
      rw [if_pos (h4 (by omega))]
    · rw [h3 i (Int.le_refl _) (by omega)]
      exact firstFrom_is p f (i + 1) r (by omega) (by omega) (fun x hx hr => h3 x (by omega) hr) (fun h => h4 (by omega))
theorem firstOf_is (p : Int → Bool) (n : Nat) (r : Int) (h1 : 0 ≤ r) (h2 : r ≤ n) (h3 : ∀ x, 0 ≤ x → x < r → p x = false) (h4 : r < n → p r = true) : firstOf n p = r :=
  firstFrom_is p n 0 r h1 (by omega) h3 (fun h => h4 (by omega))
theorem firstFrom_spec (p : Int → Bool) : ∀ (f : Nat) (i : Int), i ≤ firstFrom p f i ∧ firstFrom p f i ≤ i + f ∧ (∀ x, i ≤ x → x < firstFrom p f i → p x = false) ∧ (firstFrom p f i < i + f → p (firstFrom p f i) = true)
  | 0, i => by simp [firstFrom]; omega
  | f + 1, i => by
    unfold firstFrom
    split
    · rename_i h
      exact ⟨by omega, by omega, fun x h1 h2 => by omega, fun _ => h⟩
    · rename_i h
      obtain ⟨h1, h2, h3, h4⟩ := firstFrom_spec p f (i + 1)
      refine ⟨by omega, by omega, fun x hx hr => ?_, fun hlt => h4 (by omega)⟩
      by_cases e : x = i
      · subst e; simpa using h
      · exact h3 x (by omega) hr
theorem firstOf_spec (p : Int → Bool) (n : Nat) : 0 ≤ firstOf n p ∧ firstOf n p ≤ n ∧ (∀ x, 0 ≤ x → x < firstOf n p → p x = false) ∧ (firstOf n p < n → p (firstOf n p) = true) := by
  have := firstFrom_spec p n 0
  simpa [firstOf] using this

def loP (hs : List Held) (x : Int) : Bool := decide ((together hs (carbonOver (x + 1))).least < 0)
def hiP (hs : List Held) (x : Int) : Bool := decide ((together hs (carbonOver x)).most ≤ 0)
def shareOf (hs : List Held) : Span := ⟨firstOf 1000 (loP hs), firstOf 1000 (hiP hs)⟩
theorem loP_mono {hs : List Held} (hl : ∀ h ∈ hs, h.ok) {i j : Int} (h : i ≤ j) (hp : loP hs i = true) : loP hs j = true := by
  have := together_mono hl (over_mono (show i + 1 ≤ j + 1 by omega))
  simp only [loP, decide_eq_true_eq] at hp ⊢; omega
theorem hiP_mono {hs : List Held} (hl : ∀ h ∈ hs, h.ok) {i j : Int} (h : i ≤ j) (hp : hiP hs i = true) : hiP hs j = true := by
  have := together_mono hl (over_mono h)
  simp only [hiP, decide_eq_true_eq] at hp ⊢; omega
end Go.Proofs.Ytffglhnmgapndaa

/- General lemmas for the walks: memory that is kept, slices that are read. -/
namespace Go.Proofs.Ytffglhnmgapndaa
open Go.RowKit

theorem bcell {W w1 : World} (hb : Below W.heap.size W w1) : (∀ b o, b < W.heap.size → w1.cell? ⟨b, o, none⟩ = W.cell? ⟨b, o, none⟩) ∧ (∀ b o, b < W.heap.size → w1.frozen? ⟨b, o, none⟩ = W.frozen? ⟨b, o, none⟩) :=
  ⟨fun b o h => hb.cell (p := ⟨b, o, none⟩) h, fun b o h => hb.frozen (p := ⟨b, o, none⟩) h⟩

theorem ret_int {k : IntKind} {a b : Int} (h : a = b) : Ending.returned (.int k a) = .returned (.int k b) := by rw [h]
theorem ret_bool {a b : Bool} (h : a = b) : Ending.returned (.bool a) = .returned (.bool b) := by rw [h]

/-- The post of a call that makes memory: its value, and that what was there is kept. -/
def Ret (v : Value) (w : World) (e : Ending) (w' : World) : Prop := e = .returned v ∧ Below w.heap.size w w'
end Go.Proofs.Ytffglhnmgapndaa

/- Walks of the leaves of package sack. -/
namespace Go.Proofs.Ytffglhnmgapndaa
open Go.RowKit

theorem tdiv_neg {a b : Int} (hb : 0 < b) (h : a.tmod b < 0) : a.tdiv b - 1 = a / b := by
  have h1 := Int.mul_tdiv_add_tmod a b
  have h2 : -b < a.tmod b := Int.lt_tmod_of_pos a hb
  have := (Int.ediv_emod_unique (a := a) (b := b) (r := a.tmod b + b) (q := a.tdiv b - 1) hb).2 ⟨by rw [Int.mul_sub]; omega, by omega, by omega⟩
  exact this.1.symm
theorem tdiv_pos {a b : Int} (hb : 0 < b) (h : 0 ≤ a.tmod b) : a.tdiv b = a / b := by
  have h1 := Int.mul_tdiv_add_tmod a b
  have h2 := Int.tmod_lt_of_pos a hb
  have := (Int.ediv_emod_unique (a := a) (b := b) (r := a.tmod b) (q := a.tdiv b) hb).2 ⟨by omega, by omega, by omega⟩
  exact this.1.symm
theorem tdiv_bd {a b M : Int} (h : -M ≤ a) (h' : a ≤ M) : -M ≤ a.tdiv b ∧ a.tdiv b ≤ M := by
  have := Int.natAbs_tdiv_le_natAbs a b
  omega
def cdiv (a b : Int) : Int := -(-a / b)

set_option maxHeartbeats 400000 in
theorem down_any (a b : Int) (w : World) (hb : 0 < b) (ha : -9000000000000000000 ≤ a) (ha' : a ≤ 9000000000000000000) :
    Calls Try.prog 38 #[.int .i64 a, .int .i64 b] w fun e w' => e = .returned (.int .i64 (a / b)) ∧ w = w' := by
  have hq := tdiv_bd (b := b) ha ha'
  obtain ⟨hq1, hq2⟩ := hq
  have HN := Lib.hid (@tdiv_neg a b hb)
  have HP := Lib.hid (@tdiv_pos a b hb)
  go_enter Try.func38, Try.ntmps38
  go_wp2
  · go_ret
    exact ⟨ret_int (HN.out (by assumption)), rfl⟩
  · go_ret
    exact ⟨ret_int (HP.out (by assumption)), rfl⟩

set_option maxHeartbeats 400000 in
theorem up_any (a b : Int) (w : World) (hb : 0 < b) (ha : -9000000000000000000 ≤ a) (ha' : a ≤ 9000000000000000000) :
    Calls Try.prog 39 #[.int .i64 a, .int .i64 b] w fun e w' => e = .returned (.int .i64 (cdiv a b)) ∧ w = w' := by
  have h0 : -9000000000000000000 ≤ -a / b ∧ -a / b ≤ 9000000000000000000 := by
    have h1 := Int.ediv_le_ediv hb ha'
    have h3 : -a / b = -a / b := rfl
    constructor
    · rcases Int.le_total 0 (-a) with h | h
      · have := Int.ediv_nonneg h (Int.le_of_lt hb); omega
      · have h4 := (Int.le_ediv_iff_mul_le hb (a := -9000000000000000000) (b := -a)).2 (by
          have : 9000000000000000000 * 1 ≤ 9000000000000000000 * b := Int.mul_le_mul_of_nonneg_left (by omega) (by omega)
          omega)
        exact h4
    · have h4 := Int.ediv_le_of_le_mul hb (a := -a) (b := 9000000000000000000) (by
        have : 9000000000000000000 * 1 ≤ 9000000000000000000 * b := Int.mul_le_mul_of_nonneg_left (by omega) (by omega)
        omega)
      exact h4
  obtain ⟨h1, h2⟩ := h0
  go_enter Try.func39, Try.ntmps39
  go_wp2_with (go_at_call 38; refine (down_any _ _ _ (by omega) (by omega) (by omega)).mono ?_; rintro e w' ⟨rfl, rfl⟩)
  go_ret
  exact ⟨rfl, rfl⟩

set_option maxHeartbeats 400000 in
theorem within_any (a b c d : Int) (w : World) : Calls Try.prog 31 #[.agg #[.int .i64 a, .int .i64 b], .int .i64 c, .int .i64 d] w (Ret (.bool (withinB ⟨a, b⟩ c d)) w) := by
  go_enter Try.func31, Try.ntmps31
  go_wp2
  all_goals go_ret
  all_goals exact ⟨ret_bool (by simp only [withinB]; rw [Bool.eq_iff_iff]; simp only [decide_eq_true_eq, Bool.false_eq_true, false_iff]; omega), (Below.refl _ _).alloc (Nat.le_refl _) _⟩

set_option maxHeartbeats 400000 in
theorem isIndex_any (A : Option Addr) (n c : Nat) (i : Int) (w : World) : Calls Try.prog 30 #[.slice A n c, .int .i64 i] w fun e w' => e = .returned (.bool (decide (0 ≤ i ∧ i < n))) ∧ w = w' := by
  go_enter Try.func30, Try.ntmps30
  go_wp2
  all_goals go_ret
  all_goals exact ⟨ret_bool (by symm; simp; try omega), rfl⟩

set_option maxHeartbeats 400000 in
theorem ends_any (a b : Int) (w : World) : Calls Try.prog 50 #[.agg #[.int .i64 a, .int .i64 b]] w (Ret (.agg #[.int .i64 a, .int .i64 b]) w) := by
  go_enter Try.func50, Try.ntmps50
  go_wp2
  exact bodyPost_ret (v := .agg #[.int .i64 a, .int .i64 b]) (by simp [results, Try.results50, go_sem]) rfl ⟨rfl, ((Below.refl _ _).alloc (Nat.le_refl _) _).alloc (by simp) _⟩

set_option maxHeartbeats 400000 in
theorem dry_any (m v c s : Int) (w : World) (h : (St.mk m v c s).ok) : Calls Try.prog 45 #[.agg #[.int .i64 m, .int .i64 v, .int .i64 c, .int .i64 s]] w (Ret (.int .i64 (St.mk m v c s).dry) w) := by
  have hd := St.dry_bd h
  simp only [St.dry] at hd
  obtain ⟨h1, h2, h3, h4, -⟩ := h
  obtain ⟨h5, h6⟩ := hd
  simp only at h1 h2 h3 h4
  go_enter Try.func45, Try.ntmps45
  go_wp2
  go_ret
  exact ⟨rfl, (Below.refl _ _).alloc (Nat.le_refl _) _⟩

set_option maxHeartbeats 400000 in
theorem water_any (m v c s : Int) (w : World) (h : (St.mk m v c s).ok) : Calls Try.prog 33 #[.agg #[.int .i64 m, .int .i64 v, .int .i64 c, .int .i64 s]] w (Ret (.int .i64 (St.mk m v c s).water) w) := by
  have h1 := St.mw_bd h
  obtain ⟨h1, h2⟩ := h1
  simp only at h1 h2
  go_enter Try.func33, Try.ntmps33
  go_wp2
  go_ret
  exact ⟨rfl, (Below.refl _ _).alloc (Nat.le_refl _) _⟩


/-- What is held of the world in a region of a state's method: the box of the state, and that what was there is kept. -/
def StS (B : Nat) (w : World) (m v c s : Int) (W : World) : Prop := Below B w W ∧ B < W.heap.size ∧ W.cell? ⟨B, 0, none⟩ = some (.int .i64 m) ∧ W.cell? ⟨B, 1, none⟩ = some (.int .i64 v) ∧ W.cell? ⟨B, 2, none⟩ = some (.int .i64 c) ∧ W.cell? ⟨B, 3, none⟩ = some (.int .i64 s)
theorem StS.start (w : World) (m v c s : Int) : StS w.heap.size w m v c s (w.alloc (.cells #[.int .i64 m, .int .i64 v, .int .i64 c, .int .i64 s] 84)) :=
  ⟨(Below.refl _ _).alloc (Nat.le_refl _) _, by simp, by go_simp, by go_simp, by go_simp, by go_simp⟩
theorem StS.call {B : Nat} {w W W' : World} {m v c s : Int} (hb : Below W.heap.size W W') (h : StS B w m v c s W) : StS B w m v c s W' := by
  obtain ⟨h1, h2, h4, h5, h6, h7⟩ := h
  have hs := hb.size
  exact ⟨h1.trans (hb.mono (by omega)), by omega, (hb.cell (p := ⟨B, 0, none⟩) h2).trans h4, (hb.cell (p := ⟨B, 1, none⟩) h2).trans h5, (hb.cell (p := ⟨B, 2, none⟩) h2).trans h6, (hb.cell (p := ⟨B, 3, none⟩) h2).trans h7⟩

theorem StS.drew {B : Nat} {w W : World} {m v c s : Int} (h : StS B w m v c s W) : StS B w m v c s W.drew := ⟨h.1.drew, h.2⟩

theorem wr {x : Int} (h : -9223372036854775808 ≤ x) (h' : x ≤ 9223372036854775807) : IntKind.i64.wrap x = x := IntWalk.i64_in x ⟨h, h'⟩


set_option maxHeartbeats 400000 in
theorem carbon_any (m v c s : Int) (w : World) (h : (St.mk m v c s).ok) : Calls Try.prog 34 #[.agg #[.int .i64 m, .int .i64 v, .int .i64 c, .int .i64 s]] w (Ret (.int .i64 (St.mk m v c s).carbon) w) := by
  have HW : Hid (IntKind.i64.wrap (IntKind.i64.wrap ((St.mk m v c s).dry * c) * 1000) = (St.mk m v c s).carbon) := by
    have h1 := St.dryc_bd h
    have h2 := St.carbon_bd h
    simp only [St.carbon] at h1 h2 ⊢
    show _ = _
    rw [wr (x := (St.mk m v c s).dry * c) (by omega) (by omega), wr (by omega) (by omega)]
  have H := Lib.hid h
  clear h
  go_enter Try.func34, Try.ntmps34
  go_wp2; have h0 := StS.start w m v c s; unfold StS at h0; generalize w.alloc _ = W0 at h0 ⊢
  go_region_held3 (fun W => Below w.heap.size w W ∧ w.heap.size < W.heap.size ∧ W.cell? ⟨w.heap.size, 0, none⟩ = some (.int .i64 m) ∧ W.cell? ⟨w.heap.size, 1, none⟩ = some (.int .i64 v) ∧ W.cell? ⟨w.heap.size, 2, none⟩ = some (.int .i64 c) ∧ W.cell? ⟨w.heap.size, 3, none⟩ = some (.int .i64 s)) (first | exact StS.drew h0 | (exact StS.call (by assumption) (by assumption)) | go_keep) (first | (go_at_call 45; refine (dry_any _ _ _ _ _ H.out).mono ?_; rintro e e' ⟨rfl, hb'⟩))
  go_wp2; go_ret; obtain ⟨hH, -⟩ : StS w.heap.size w m v c s _ := by assumption
  exact ⟨ret_int HW.out, hH⟩

set_option maxHeartbeats 400000 in
theorem smoke_any (m v c s : Int) (w : World) (h : (St.mk m v c s).ok) : Calls Try.prog 35 #[.agg #[.int .i64 m, .int .i64 v, .int .i64 c, .int .i64 s]] w (Ret (.int .i64 (St.mk m v c s).smoke) w) := by
  have HW : Hid (IntKind.i64.wrap (IntKind.i64.wrap ((St.mk m v c s).dry * IntKind.i64.wrap (1000 - c)) * s) = (St.mk m v c s).smoke) := by
    have h1 := St.dryr_bd h
    have h2 := St.smoke_bd h
    have h3 := h
    simp only [St.smoke, St.ok] at h1 h2 h3 ⊢
    show _ = _
    rw [wr (x := 1000 - c) (by omega) (by omega), wr (x := (St.mk m v c s).dry * _) (by omega) (by omega), wr (by omega) (by omega)]
  have H := Lib.hid h
  clear h
  go_enter Try.func35, Try.ntmps35
  go_wp2; have h0 := StS.start w m v c s; unfold StS at h0; generalize w.alloc _ = W0 at h0 ⊢
  go_region_held3 (fun W => Below w.heap.size w W ∧ w.heap.size < W.heap.size ∧ W.cell? ⟨w.heap.size, 0, none⟩ = some (.int .i64 m) ∧ W.cell? ⟨w.heap.size, 1, none⟩ = some (.int .i64 v) ∧ W.cell? ⟨w.heap.size, 2, none⟩ = some (.int .i64 c) ∧ W.cell? ⟨w.heap.size, 3, none⟩ = some (.int .i64 s)) (first | exact StS.drew h0 | (exact StS.call (by assumption) (by assumption)) | go_keep) (first | (go_at_call 45; refine (dry_any _ _ _ _ _ H.out).mono ?_; rintro e e' ⟨rfl, hb'⟩))
  go_wp2; go_ret; obtain ⟨hH, -⟩ : StS w.heap.size w m v c s _ := by assumption
  exact ⟨ret_int HW.out, hH⟩

set_option maxHeartbeats 400000 in
theorem clay_any (m v c s : Int) (w : World) (h : (St.mk m v c s).ok) : Calls Try.prog 36 #[.agg #[.int .i64 m, .int .i64 v, .int .i64 c, .int .i64 s]] w (Ret (.int .i64 (St.mk m v c s).clay) w) := by
  have HW : Hid (IntKind.i64.wrap (IntKind.i64.wrap ((St.mk m v c s).dry * IntKind.i64.wrap (1000 - c)) * IntKind.i64.wrap (1000 - s)) = (St.mk m v c s).clay) := by
    have h1 := St.dryr_bd h
    have h2 := St.clay_bd h
    have h3 := h
    simp only [St.clay, St.ok] at h1 h2 h3 ⊢
    show _ = _
    rw [wr (x := 1000 - c) (by omega) (by omega), wr (x := 1000 - s) (by omega) (by omega), wr (x := (St.mk m v c s).dry * _) (by omega) (by omega), wr (by omega) (by omega)]
  have H := Lib.hid h
  clear h
  go_enter Try.func36, Try.ntmps36
  go_wp2; have h0 := StS.start w m v c s; unfold StS at h0; generalize w.alloc _ = W0 at h0 ⊢
  go_region_held3 (fun W => Below w.heap.size w W ∧ w.heap.size < W.heap.size ∧ W.cell? ⟨w.heap.size, 0, none⟩ = some (.int .i64 m) ∧ W.cell? ⟨w.heap.size, 1, none⟩ = some (.int .i64 v) ∧ W.cell? ⟨w.heap.size, 2, none⟩ = some (.int .i64 c) ∧ W.cell? ⟨w.heap.size, 3, none⟩ = some (.int .i64 s)) (first | exact StS.drew h0 | (exact StS.call (by assumption) (by assumption)) | go_keep) (first | (go_at_call 45; refine (dry_any _ _ _ _ _ H.out).mono ?_; rintro e e' ⟨rfl, hb'⟩))
  go_wp2; go_ret; obtain ⟨hH, -⟩ : StS w.heap.size w m v c s _ := by assumption
  exact ⟨ret_int HW.out, hH⟩

set_option maxHeartbeats 400000 in
theorem lead_any (m v c s : Int) (w : World) (h : (St.mk m v c s).ok) : Calls Try.prog 37 #[.agg #[.int .i64 m, .int .i64 v, .int .i64 c, .int .i64 s]] w (Ret (.int .i64 (St.mk m v c s).lead) w) := by
  have HW : Hid (IntKind.i64.wrap ((St.mk m v c s).carbon + (St.mk m v c s).clay) = (St.mk m v c s).lead) := by
    have h1 := St.lead_bd h
    simp only [St.lead] at h1 ⊢
    show _ = _
    rw [wr (by omega) (by omega)]
  have H := Lib.hid h
  clear h
  go_enter Try.func37, Try.ntmps37
  go_wp2; have h0 := StS.start w m v c s; unfold StS at h0; generalize w.alloc _ = W0 at h0 ⊢
  go_region_held3 (fun W => Below w.heap.size w W ∧ w.heap.size < W.heap.size ∧ W.cell? ⟨w.heap.size, 0, none⟩ = some (.int .i64 m) ∧ W.cell? ⟨w.heap.size, 1, none⟩ = some (.int .i64 v) ∧ W.cell? ⟨w.heap.size, 2, none⟩ = some (.int .i64 c) ∧ W.cell? ⟨w.heap.size, 3, none⟩ = some (.int .i64 s)) (first | exact StS.drew h0 | (exact StS.call (by assumption) (by assumption)) | go_keep) (first | (go_at_call 34; refine (carbon_any _ _ _ _ _ H.out).mono ?_; rintro e e' ⟨rfl, hb'⟩) | (go_at_call 36; refine (clay_any _ _ _ _ _ H.out).mono ?_; rintro e e' ⟨rfl, hb'⟩))
  go_wp2; go_ret; obtain ⟨hH, -⟩ : StS w.heap.size w m v c s _ := by assumption
  exact ⟨ret_int HW.out, hH⟩
end Go.Proofs.Ytffglhnmgapndaa

/- Walks of package sack: function values and small functions. -/
namespace Go.Proofs.Ytffglhnmgapndaa
open Go.RowKit

set_option maxHeartbeats 400000 in
theorem mkCarbonOver (n : Int) (w : World) : Calls Try.prog 26 #[.int .i64 n] w fun e w' => e = .returned (.func (.func 40) #[] #[.pointer (some ⟨w.heap.size, 0, none⟩)]) ∧ w' = w.alloc (.cells #[.int .i64 n] 3) := by
  go_enter Try.func26, Try.ntmps26
  go_wp2
  go_ret
  exact ⟨rfl, rfl⟩

theorem StS.cellq {B : Nat} {w W : World} {m v c s : Int} (h : StS B w m v c s W) {q : Nat} {x : Value} (hq : w.cell? ⟨q, 0, none⟩ = some x) (hlt : q < B) : W.cell? ⟨q, 0, none⟩ = some x :=
  (h.1.cell (p := ⟨q, 0, none⟩) hlt).trans hq

set_option maxHeartbeats 400000 in
theorem carbonOver_any (m v c s n : Int) (q : Nat) (w : World) (h : (St.mk m v c s).ok) (hn : 0 ≤ n) (hn' : n ≤ 1000) (hq : w.cell? ⟨q, 0, none⟩ = some (.int .i64 n)) (hlt : q < w.heap.size) :
    Calls Try.prog 40 #[.agg #[.int .i64 m, .int .i64 v, .int .i64 c, .int .i64 s], .pointer (some ⟨q, 0, none⟩)] w (Ret (.int .i64 (carbonOver n ⟨m, v, c, s⟩)) w) := by
  have HW : Hid (IntKind.i64.wrap (IntKind.i64.wrap (1000 * (St.mk m v c s).carbon) - IntKind.i64.wrap (n * (St.mk m v c s).lead)) = carbonOver n ⟨m, v, c, s⟩) := by
    have h1 := St.carbon_bd h
    have h2 := tl_bd h hn hn'
    have h3 := carbonOver_bd h hn hn'
    simp only [carbonOver] at h1 h2 h3 ⊢
    show _ = _
    rw [wr (x := 1000 * _) (by omega) (by omega), wr (x := n * _) (by omega) (by omega), wr (by omega) (by omega)]
  have H := Lib.hid h
  have HQ := Lib.hid hq
  clear h hq
  go_enter Try.func40, Try.ntmps40
  go_wp2
  have h0 := StS.start w m v c s
  have hq0 := h0.cellq HQ.out hlt
  have h1 : StS w.heap.size w m v c s (w.alloc (.cells #[.int .i64 m, .int .i64 v, .int .i64 c, .int .i64 s] 84)) ∧ (w.alloc (.cells #[.int .i64 m, .int .i64 v, .int .i64 c, .int .i64 s] 84)).cell? ⟨q, 0, none⟩ = some (.int .i64 n) := ⟨h0, hq0⟩
  clear h0 hq0
  unfold StS at h1
  generalize w.alloc _ = W0 at h1 ⊢
  go_region_held3 (fun W => (Below w.heap.size w W ∧ w.heap.size < W.heap.size ∧ W.cell? ⟨w.heap.size, 0, none⟩ = some (.int .i64 m) ∧ W.cell? ⟨w.heap.size, 1, none⟩ = some (.int .i64 v) ∧ W.cell? ⟨w.heap.size, 2, none⟩ = some (.int .i64 c) ∧ W.cell? ⟨w.heap.size, 3, none⟩ = some (.int .i64 s)) ∧ W.cell? ⟨q, 0, none⟩ = some (.int .i64 n))
    (first | exact ⟨StS.drew h1.1, h1.2⟩ | (have hX := StS.call (by assumption) (And.left (by assumption)); exact ⟨hX, hX.cellq HQ.out hlt⟩) | go_keep)
    (first | (go_at_call 34; refine (carbon_any _ _ _ _ _ H.out).mono ?_; rintro e e' ⟨rfl, hb'⟩) | (go_at_call 37; refine (lead_any _ _ _ _ _ H.out).mono ?_; rintro e e' ⟨rfl, hb'⟩))
  go_wp2
  go_ret
  obtain ⟨⟨hH, -⟩, -⟩ : StS w.heap.size w m v c s _ ∧ _ := by assumption
  exact ⟨ret_int HW.out, hH⟩

set_option maxHeartbeats 400000 in
theorem parts_any (w : World) : Calls Try.prog 21 #[] w (Ret (.agg #[.func (.func 33) #[] #[], .func (.func 34) #[] #[], .func (.func 35) #[] #[], .func (.func 36) #[] #[], .func (.func 37) #[] #[]]) w) := by
  go_enter Try.func21, Try.ntmps21
  go_wp2
  exact bodyPost_ret (by simp [results, Try.results21, go_sem]) rfl ⟨rfl, (Below.refl _ _).alloc (Nat.le_refl _) _⟩

set_option maxHeartbeats 400000 in
theorem grams_any (a b : Int) (w : World) (ha : -8000000000000000000 ≤ a) (ha' : a ≤ 8000000000000000000) (hb : -8000000000000000000 ≤ b) (hb' : b ≤ 8000000000000000000) :
    Calls Try.prog 23 #[.agg #[.int .i64 a, .int .i64 b]] w (Ret (.agg #[.int .i64 (a / 1000000000), .int .i64 (cdiv b 1000000000)]) w) := by
  go_enter Try.func23, Try.ntmps23
  go_wp2
  go_region_with (first | (go_at_call 38; refine (down_any _ _ _ (by omega) (by omega) (by omega)).mono ?_; rintro e w' ⟨rfl, rfl⟩) | (go_at_call 39; refine (up_any _ _ _ (by omega) (by omega) (by omega)).mono ?_; rintro e w' ⟨rfl, rfl⟩))
  all_goals go_wp2
  all_goals exact bodyPost_ret (v := .agg #[.int .i64 (a / 1000000000), .int .i64 (cdiv b 1000000000)]) (by simp [results, Try.results23, go_sem]) rfl ⟨rfl, by repeat (first | exact Below.refl _ _ | refine Below.drew ?_ | refine Below.alloc ?_ (by simp) _ | refine Below.setCell ?_ (by simp) _)⟩

set_option maxHeartbeats 400000 in
theorem corners_any (a b c d e f g h : Int) (w : World) : Calls Try.prog 44 #[.agg #[.int .i64 a, .int .i64 b, .int .i64 c, .int .i64 d, .int .i64 e, .int .i64 f, .int .i64 g, .int .i64 h]] w
    fun e' w' => e' = .returned (.func (.func 49) #[] #[.pointer (some ⟨w.heap.size, 0, none⟩)]) ∧ w' = w.alloc (.cells #[.int .i64 a, .int .i64 b, .int .i64 c, .int .i64 d, .int .i64 e, .int .i64 f, .int .i64 g, .int .i64 h] 80) := by
  go_enter Try.func44, Try.ntmps44
  go_wp2
  go_ret
  exact ⟨rfl, rfl⟩
end Go.Proofs.Ytffglhnmgapndaa

/- The iterator over the corners of what is held, and what a sack adds to a measure. -/
namespace Go.Proofs.Ytffglhnmgapndaa
open Go.RowKit Go.Shelf
attribute [local go_sem] Oper.semAt_some

/-- A state whose numbers lie within their bounds. -/
structure OkSt where
  t : St
  ok : t.ok
def stV (x : OkSt) : Array Value := #[.agg #[.int .i64 x.t.m, .int .i64 x.t.w, .int .i64 x.t.c, .int .i64 x.t.s]]

/-- The box of what is held lies in the world. -/
def HeldAt (W : World) (q : Nat) (h : Held) : Prop :=
  W.cell? ⟨q, 0, none⟩ = some (.int .i64 h.sack.w.lo) ∧ W.cell? ⟨q, 1, none⟩ = some (.int .i64 h.sack.w.hi) ∧ W.cell? ⟨q, 2, none⟩ = some (.int .i64 h.sack.c.lo) ∧ W.cell? ⟨q, 3, none⟩ = some (.int .i64 h.sack.c.hi) ∧
  W.cell? ⟨q, 4, none⟩ = some (.int .i64 h.sack.l.lo) ∧ W.cell? ⟨q, 5, none⟩ = some (.int .i64 h.sack.l.hi) ∧ W.cell? ⟨q, 6, none⟩ = some (.int .i64 h.weight.lo) ∧ W.cell? ⟨q, 7, none⟩ = some (.int .i64 h.weight.hi)
/-- Block q is as it was. -/
def SameAt (q : Nat) (W W' : World) : Prop := W'.heap[q]? = W.heap[q]?
theorem SameAt.cell {q : Nat} {W W' : World} (h : SameAt q W W') (i : Nat) : W'.cell? ⟨q, i, none⟩ = W.cell? ⟨q, i, none⟩ := World.cell?_of_block (w := W) (a := ⟨q, i, none⟩) h
theorem SameAt.of_below {q B : Nat} {W W' : World} (h : Below B W W') (hq : q < B) : SameAt q W W' := h.block q hq
theorem SameAt.trans {q : Nat} {A B C : World} (h : SameAt q A B) (k : SameAt q B C) : SameAt q A C := Eq.trans k h
theorem HeldAt.same {W W' : World} {q : Nat} {h : Held} (hh : HeldAt W q h) (hb : SameAt q W W') : HeldAt W' q h := by
  obtain ⟨h0, h1, h2, h3, h4, h5, h6, h7⟩ := hh
  exact ⟨(hb.cell _).trans h0, (hb.cell _).trans h1, (hb.cell _).trans h2, (hb.cell _).trans h3, (hb.cell _).trans h4, (hb.cell _).trans h5, (hb.cell _).trans h6, (hb.cell _).trans h7⟩
theorem HeldAt.below {W W' : World} {B q : Nat} {h : Held} (hh : HeldAt W q h) (hb : Below B W W') (hq : q < B) : HeldAt W' q h := by
  obtain ⟨h0, h1, h2, h3, h4, h5, h6, h7⟩ := hh
  exact ⟨(hb.cell (p := ⟨q, _, none⟩) hq).trans h0, (hb.cell (p := ⟨q, _, none⟩) hq).trans h1, (hb.cell (p := ⟨q, _, none⟩) hq).trans h2, (hb.cell (p := ⟨q, _, none⟩) hq).trans h3,
    (hb.cell (p := ⟨q, _, none⟩) hq).trans h4, (hb.cell (p := ⟨q, _, none⟩) hq).trans h5, (hb.cell (p := ⟨q, _, none⟩) hq).trans h6, (hb.cell (p := ⟨q, _, none⟩) hq).trans h7⟩

/-- The number at one end. -/
def Span.at_ (s : Span) (k : Nat) : Int := if k = 0 then s.lo else s.hi

/-- The state at corner k of 16. -/
def Held.at_ (h : Held) (k : Nat) : St := ⟨h.weight.at_ (k / 8), h.sack.w.at_ (k / 4 % 2), h.sack.c.at_ (k / 2 % 2), h.sack.l.at_ (k % 2)⟩
theorem Span.at_bd {s : Span} {a b : Int} (h1 : a ≤ s.lo) (h2 : s.lo ≤ s.hi) (h3 : s.hi ≤ b) (k : Nat) : a ≤ s.at_ k ∧ s.at_ k ≤ b := by
  unfold Span.at_; split <;> omega
theorem Held.at_ok {h : Held} (hh : h.ok) (k : Nat) : (h.at_ k).ok := by
  obtain ⟨hs, h1, h2, h3⟩ := hh
  simp only [sackOk, Bool.and_eq_true, withinB_iff] at hs
  obtain ⟨⟨⟨w1, w2, w3⟩, c1, c2, c3⟩, l1, l2, l3⟩ := hs
  have a1 := Span.at_bd h1 h2 h3 (k / 8)
  have a2 := Span.at_bd w1 w2 w3 (k / 4 % 2)
  have a3 := Span.at_bd c1 c2 c3 (k / 2 % 2)
  have a4 := Span.at_bd l1 l2 l3 (k % 2)
  exact ⟨a1.1, a1.2, a2.1, a2.2, a3.1, a3.2, a4.1, a4.2⟩
def Held.atO (h : Held) (hh : h.ok) (k : Nat) : OkSt := ⟨h.at_ k, Held.at_ok hh k⟩


theorem ri0 (a b : Int) (w : World) : (Instr.index 101 (.agg #[.int .i64 a, .int .i64 b]) (.int .i64 ((0 : Nat) : Int))).run Try.prog w = .ok (.int .i64 a) w := by
  kernel_rfl
theorem ri1 (a b : Int) (w : World) : (Instr.index 101 (.agg #[.int .i64 a, .int .i64 b]) (.int .i64 ((1 : Nat) : Int))).run Try.prog w = .ok (.int .i64 b) w := by
  kernel_rfl
theorem run_index2 (s : Span) (k : Nat) (hk : k < 2) (w : World) : (Instr.index 101 (.agg #[.int .i64 s.lo, .int .i64 s.hi]) (.int .i64 (k : Int))).run Try.prog w = .ok (.int .i64 (s.at_ k)) w := by
  have h : k = 0 ∨ k = 1 := by omega
  rcases h with rfl | rfl
  · exact ri0 _ _ w
  · exact ri1 _ _ w

/-- What has come when k rounds are over. -/
def Held.upto (h : Held) (hh : h.ok) (k : Nat) : List OkSt := (List.range k).map (h.atO hh)
theorem Held.upto_succ (h : Held) (hh : h.ok) (k : Nat) : h.upto hh (k + 1) = h.upto hh k ++ [h.atO hh k] := by simp [Held.upto, List.range_succ]
theorem Held.at_mk (h : Held) {a b c d : Nat} (_ha : a < 2) (hb : b < 2) (hc : c < 2) (hd : d < 2) : h.at_ (8 * a + 4 * b + 2 * c + d) = ⟨h.weight.at_ a, h.sack.w.at_ b, h.sack.c.at_ c, h.sack.l.at_ d⟩ := by
  have e1 : (8 * a + 4 * b + 2 * c + d) / 8 = a := by omega
  have e2 : (8 * a + 4 * b + 2 * c + d) / 4 % 2 = b := by omega
  have e3 : (8 * a + 4 * b + 2 * c + d) / 2 % 2 = c := by omega
  have e4 : (8 * a + 4 * b + 2 * c + d) % 2 = d := by omega
  simp only [Held.at_, e1, e2, e3, e4]

theorem lt_of_same {q : Nat} {W W' : World} (h : SameAt q W W') : q < W.heap.size ↔ q < W'.heap.size := by
  unfold SameAt at h
  rcases Nat.lt_or_ge q W.heap.size with a | a <;> rcases Nat.lt_or_ge q W'.heap.size with b | b
  · simp [a, b]
  · rw [Array.getElem?_eq_none b, Array.getElem?_eq_getElem a] at h; cases h
  · rw [Array.getElem?_eq_none a, Array.getElem?_eq_getElem b] at h; cases h
  · omega
/-- What is kept from round to round. -/
def ItS (q : Nat) (W0 : World) (J : List OkSt → World → Prop) (h : Held) (hh : h.ok) (k : Nat) (W : World) : Prop := J (h.upto hh k) W ∧ SameAt q W0 W ∧ q < W.heap.size
theorem ItS.to {q : Nat} {W0 : World} {J : List OkSt → World → Prop} {h : Held} {hh : h.ok} {k k' : Nat} {W : World} (hs : ItS q W0 J h hh k W) (e : k = k') : ItS q W0 J h hh k' W := e ▸ hs
theorem ItS.next {q : Nat} {W0 : World} {J : List OkSt → World → Prop} {h : Held} {hh : h.ok} {k : Nat} {W W' : World} (hs : ItS q W0 J h hh k W) (hj : J (h.upto hh k ++ [h.atO hh k]) W') (hb : SameAt q W W') : ItS q W0 J h hh (k + 1) W' :=
  ⟨by rw [Held.upto_succ]; exact hj, hs.2.1.trans hb, (lt_of_same hb).1 hs.2.2⟩


set_option maxRecDepth 100000 in
set_option maxHeartbeats 4000000 in
theorem corners1_in (n : Nat) (hn : 2 ≤ n) (l q : Nat) (h : Held) (hh : h.ok) (J Jx : List OkSt → World → Prop) (W : World) (hJ : AbidesFrom W.heap.size J) 
    (hY : ∀ pre x W, J pre W → pre.length < 16 → YieldAt Fence.wide (n - 1) Try.prog l (stV x) W fun e W' =>
      (e = .returned (.bool true) ∧ J (pre ++ [x]) W' ∧ SameAt q W W') ∨ (e = .returned (.bool false) ∧ Jx (pre ++ [x]) W'))
    (hq : q < W.heap.size) (hL : HeldAt W q h) (h0 : J [] W) :
    CallsIn Fence.wide n Try.prog 49 #[.func (.yield l) #[] #[], .pointer (some ⟨q, 0, none⟩)] W fun e W' => (∃ v, e = .returned v) ∧
      ((∃ ys, ys = h.upto hh 16 ∧ J ys W') ∨ (∃ pre, True ∧ Jx pre W')) := by
  refine callsIn_of_wp Try.func49 rfl trivial ?_ rfl
  simp only [Try.ntmps49, List.size_toArray, List.length_cons, List.length_nil, Nat.reduceAdd, Nat.reduceSub, Array.replicate_succ, Array.replicate_zero, List.push_toArray, List.append_toArray, List.nil_append, List.cons_append]
  have HL := Lib.hid hL
  have hS : ItS q W J h hh 0 W := ⟨h0, rfl, hq⟩
  have HJ : Hid (∀ k W1 W2, ItS q W J h hh k W1 → Below W1.heap.size W1 W2 → ItS q W J h hh k W2) := by
    rintro k W1 W2 ⟨a, b, b'⟩ c
    exact ⟨hJ _ _ _ none a ⟨c.os, c.tape, c.output, c.size, fun i hi _ => c.block i hi⟩ (by simp), b.trans (SameAt.of_below c b'), Nat.lt_of_lt_of_le b' c.size⟩
  have HC : Hid (∀ k W1, ItS q W J h hh k W1 → HeldAt W1 q h) := fun k W1 a => HL.out.same a.2.1
  clear hJ hL h0
  obtain ⟨c0, c1, c2, c3, c4, c5, c6, c7⟩ := HC.out _ _ hS
  have HY := Lib.hid hY
  clear hY
  gi_wp2_with (refine ⟨trivial, fun _ => (by omega), ?_⟩; gi_at_call 50; refine (callsIn_wide.2 (ends_any _ _ _)).mono ?_; rintro e w' ⟨rfl, hb'⟩; replace hS := HJ.out _ _ _ hS hb'; clear hb' c0 c1 c2 c3 c4 c5 c6 c7)
  gi_loopw [14] (fun i wr => ∃ k : Nat, k ≤ 2 ∧ i = .int .i64 k ∧ ItS q W J h hh (8 * k) wr) (fun i _ => 2 - (intOf i).toNat)
  case atStart => exact ⟨0, by omega, rfl, hS⟩
  case round =>
    clear hS
    obtain ⟨k1, hk1, rfl, hS⟩ := hrel
    by_cases hlt : k1 < 2
    · obtain ⟨c0, c1, c2, c3, c4, c5, c6, c7⟩ := HC.out _ _ hS
      have e1 := run_index2 h.weight k1 hlt
      gi_wp2_with (refine ⟨trivial, fun _ => (by omega), ?_⟩; gi_at_call 50; refine (callsIn_wide.2 (ends_any _ _ _)).mono ?_; rintro e w' ⟨rfl, hb'⟩; replace hS := HJ.out _ _ _ hS hb'; clear hb' c0 c1 c2 c3 c4 c5 c6 c7)
      gi_loopw [21] (fun i wr => ∃ k : Nat, k ≤ 2 ∧ i = .int .i64 k ∧ ItS q W J h hh (8 * k1 + 4 * k) wr) (fun i _ => 2 - (intOf i).toNat)
      case atStart => exact ⟨0, by omega, rfl, hS⟩
      case round =>
        clear hS e1
        obtain ⟨k2, hk2, rfl, hS⟩ := hrel
        by_cases hlt2 : k2 < 2
        · obtain ⟨c0, c1, c2, c3, c4, c5, c6, c7⟩ := HC.out _ _ hS
          have e2 := run_index2 h.sack.w k2 hlt2
          gi_wp2_with (refine ⟨trivial, fun _ => (by omega), ?_⟩; gi_at_call 50; refine (callsIn_wide.2 (ends_any _ _ _)).mono ?_; rintro e w' ⟨rfl, hb'⟩; replace hS := HJ.out _ _ _ hS hb'; clear hb' c0 c1 c2 c3 c4 c5 c6 c7)
          gi_loopw [28] (fun i wr => ∃ k : Nat, k ≤ 2 ∧ i = .int .i64 k ∧ ItS q W J h hh (8 * k1 + 4 * k2 + 2 * k) wr) (fun i _ => 2 - (intOf i).toNat)
          case atStart => exact ⟨0, by omega, rfl, hS⟩
          case round =>
            clear hS e2
            obtain ⟨k3, hk3, rfl, hS⟩ := hrel
            by_cases hlt3 : k3 < 2
            · obtain ⟨c0, c1, c2, c3, c4, c5, c6, c7⟩ := HC.out _ _ hS
              have e3 := run_index2 h.sack.c k3 hlt3
              gi_wp2_with (refine ⟨trivial, fun _ => (by omega), ?_⟩; gi_at_call 50; refine (callsIn_wide.2 (ends_any _ _ _)).mono ?_; rintro e w' ⟨rfl, hb'⟩; replace hS := HJ.out _ _ _ hS hb'; clear hb' c0 c1 c2 c3 c4 c5 c6 c7)
              gi_loopw [35] (fun i wr => ∃ k : Nat, k ≤ 2 ∧ i = .int .i64 k ∧ ItS q W J h hh (8 * k1 + 4 * k2 + 2 * k3 + k) wr) (fun i _ => 2 - (intOf i).toNat)
              case atStart => exact ⟨0, by omega, rfl, hS⟩
              case round =>
                clear hS e3
                obtain ⟨k4, hk4, rfl, hS⟩ := hrel
                by_cases hlt4 : k4 < 2
                · have e4 := run_index2 h.sack.l k4 hlt4
                  obtain ⟨fn, tmps, assign, body, hy, hR⟩ := HY.out _ (h.atO hh (8 * k1 + 4 * k2 + 2 * k3 + k4)) wr hS.1 (by simp [Held.upto]; omega)
                  simp only [stV, Held.atO, Held.at_mk h hlt hlt2 hlt3 hlt4] at hy
                  gi_wp2
                  refine ⟨fun _ => (by omega), hR.mono ?_⟩
                  rintro e W3 (⟨rfl, hJ3, hk3'⟩ | ⟨rfl, hJx3⟩)
                  · have hS3 := hS.next hJ3 hk3'
                    gi_wp2
                    go_roundw
                    case rel => exact ⟨k4 + 1, by omega, by go_num, hS3⟩
                    case measure => simp [intOf]; omega
                  · gi_wp2
                    refine bodyPost_ret (results_none rfl _ _ _) rfl ?_
                    exact ⟨⟨_, rfl⟩, .inr ⟨_, trivial, hJx3⟩⟩
                · gi_wp2
                  go_roundw
                  case rel => exact ⟨k3 + 1, by omega, by go_num, hS.to (by omega)⟩
                  case measure => simp [intOf]; omega
            · gi_wp2
              go_roundw
              case rel => exact ⟨k2 + 1, by omega, by go_num, hS.to (by omega)⟩
              case measure => simp [intOf]; omega
        · gi_wp2
          go_roundw
          case rel => exact ⟨k1 + 1, by omega, by go_num, hS.to (by omega)⟩
          case measure => simp [intOf]; omega
    · gi_wp2
      go_end0
      obtain rfl : k1 = 2 := by omega
      exact ⟨⟨_, rfl⟩, .inl ⟨_, rfl, hS.1⟩⟩

/-- A measure: a function value that tells a number of a state. -/
def IsMeas (w : World) (B : Nat) (v : Value) (g : St → Int) : Prop :=
  ∃ (k : Nat) (cap : Array Value), v = .func (.func k) #[] cap ∧ (∀ args W, (callFunc k args).run Try.prog W = .ok (.enter k args) W) ∧
    ∀ (W : World) (t : St), Below B w W → t.ok → Calls Try.prog k (#[.agg #[.int .i64 t.m, .int .i64 t.w, .int .i64 t.c, .int .i64 t.s]] ++ cap) W (Ret (.int .i64 (g t)) W)
theorem IsMeas.below {w w' : World} {B : Nat} {v : Value} {g : St → Int} (h : IsMeas w B v g) (hb : Below B w w') : IsMeas w' B v g := by
  obtain ⟨k, cap, rfl, he, hc⟩ := h
  exact ⟨k, cap, rfl, he, fun W t hW ht => hc W t (hb.trans hW) ht⟩

theorem corners_stops (n : Nat) (hn : 2 ≤ n) (q : Nat) (h : Held) (hh : h.ok) (w : World) (hq : q < w.heap.size) (hL : HeldAt w q h) :
    SeqStopsK Fence.wide n Try.prog 49 #[.pointer (some ⟨q, 0, none⟩)] stV (SameAt q) (fun ys => ys = h.upto hh 16) (fun _ => True) 16 w := fun l J Jx W hW hJ _ hY h0 =>
  corners1_in n hn l q h hh J Jx W hJ hY (by have := hW.size; omega) (hL.below hW hq) h0

end Go.Proofs.Ytffglhnmgapndaa

/- What a sack adds to a measure: the loop over the corners. -/
namespace Go.Proofs.Ytffglhnmgapndaa
open Go.RowKit Go.Shelf
attribute [local go_sem] Oper.semAt_some

/-- Block g is just the cells cs. -/
def Blk (w : World) (g : Nat) (t : TypeId) (cs : Array Value) : Prop := w.heap[g]? = some (.cells cs t (0, 0))
section
variable {w w' : World} {g : Nat} {t : TypeId} {cs : Array Value}
theorem Blk.lt (h : Blk w g t cs) : g < w.heap.size := (Array.getElem?_eq_some_iff.1 h).1
theorem Blk.cell (h : Blk w g t cs) (i : Nat) : w.cell? ⟨g, i, none⟩ = cs[i]? := cell_of_row w g i cs t (0, 0) h
theorem Blk.frozen (h : Blk w g t cs) (i : Nat) : w.frozen? ⟨g, i, none⟩ = false := by
  unfold Blk at h
  simp [World.frozen?, h]
theorem Blk.new (w : World) (t : TypeId) (cs : Array Value) : Blk (w.alloc (.cells cs t)) w.heap.size t cs := World.alloc_heap_new w _
theorem Blk.kept {row : Option Nat} (h : Blk w g t cs) (hb : w.grownBy w' row) (hg : some g ≠ row) : Blk w' g t cs := (hb.block g h.lt hg).trans h
theorem Blk.alloc (h : Blk w g t cs) (o : Obj) : Blk (w.alloc o) g t cs := h.kept (World.grownBy_alloc w o none) (by simp)
theorem Blk.drew (h : Blk w g t cs) : Blk w.drew g t cs := h
theorem Blk.set_ (h : Blk w g t cs) (i : Nat) (u : Value) : Blk (w.setCell ⟨g, i, none⟩ u) g t (cs.setIfInBounds i u) := by
  unfold Blk at h ⊢
  simp [World.setCell, Array.getElem?_modify, h]
theorem Blk.far (h : Blk w g t cs) {p : Addr} (hp : g ≠ p.block) (u : Value) : Blk (w.setCell p u) g t cs := (Below.heap_setCell w p u g hp).trans h
theorem Blk.row (h : Blk w g t cs) (cs' : Array Value) : Blk (w.setRow g cs') g t cs' := setRow_heap w g cs cs' t (0, 0) h
theorem below_setRow {B : Nat} {a w : World} {g : Nat} (h : Below B a w) (hg : B ≤ g) (cs : Array Value) : Below B a (w.setRow g cs) :=
  h.trans ⟨rfl, rfl, rfl, by simp, fun k hk => setRow_other w g k cs (by omega)⟩
theorem Blk.below {B : Nat} (h : Blk w g t cs) (hb : Below B w w') (hg : g < B) : Blk w' g t cs := (hb.block g hg).trans h
end
/-- A type whose values lie in rows of cells. -/
def rowType (P : Program) (ty : TypeId) : Bool := match P.underlying ty with
  | some (.struct _) | some (.array _ _) => true
  | _ => false
theorem run_load_blk {P : Program} {w : World} {g : Nat} {t ty : TypeId} {cs : Array Value} (hg : Blk w g t cs) (hd : rowType P ty = true) (hi : (P.info? ty).map (·.size) = some cs.size) :
    (loadVar ty ⟨g, 0, none⟩).run P w = .ok (.agg cs) w := by
  unfold rowType at hd
  cases hu : P.underlying ty with
  | none => rw [hu] at hd; cases hd
  | some d => exact run_loadVar_row (P := P) w g t ty cs (0, 0) d hg hu (by rw [hu] at hd; cases d <;> simp_all) hi
theorem results_blk {P : Program} {fn : Func} {p : Tmp} {ty : TypeId} (h : fn.results = #[.cell p ty]) (tmps : Array Value) {w : World} {g : Nat} {t : TypeId} {cs : Array Value}
    (hp : tmps.getD p undef = .pointer (some ⟨g, 0, none⟩)) (hg : Blk w g t cs) (hd : rowType P ty = true) (hi : (P.info? ty).map (·.size) = some cs.size) :
    (results fn tmps).run P w = .ok (.agg cs) w := by
  have hp' : tmps[p]?.getD undef = .pointer (some ⟨g, 0, none⟩) := by simpa using hp
  simp [results, h, hp', asAddr, run_load_blk hg hd hi]
theorem results_blk_tmp {P : Program} {fn : Func} {p u : Tmp} {ty : TypeId} (h : fn.results = #[.cell p ty, .tmp u]) (tmps : Array Value) {w : World} {g : Nat} {t : TypeId} {cs : Array Value}
    (hp : tmps.getD p undef = .pointer (some ⟨g, 0, none⟩)) (hg : Blk w g t cs) (hd : rowType P ty = true) (hi : (P.info? ty).map (·.size) = some cs.size) :
    (results fn tmps).run P w = .ok (.tuple #[.agg cs, tmps.getD u undef]) w := by
  rw [results_cell_tmp h, hp]
  simp [asAddr, run_load_blk hg hd hi, Result.andThen]

theorem blk_own {β : Type} (B : Nat) (t : TypeId) (f : β → Array Value) : Own (fun s W => Blk W B t (f s)) := fun s X Y row hs hg hrow =>
  hs.kept hg (fun e' => by
    obtain ⟨o, ho, hc⟩ := hrow B e'.symm
    rw [show X.heap[B]? = _ from hs] at ho; cases ho; cases hc)

theorem keeps_of_below {W W' : World} (h : Below W.heap.size W W') : KeepsOthers W W' :=
  ⟨h.size, fun k _ hk _ => (h.block k (Array.getElem?_eq_some_iff.1 hk).1).trans hk⟩

def Held.vals (h : Held) : Array Value := #[.int .i64 h.sack.w.lo, .int .i64 h.sack.w.hi, .int .i64 h.sack.c.lo, .int .i64 h.sack.c.hi, .int .i64 h.sack.l.lo, .int .i64 h.sack.l.hi, .int .i64 h.weight.lo, .int .i64 h.weight.hi]

def stepAll (g : St → Int) (l : List OkSt) : Reach := (l.map OkSt.t).foldl (Reach.step g) ⟨maxI, minI⟩
theorem stepAll_snoc (g : St → Int) (l : List OkSt) (t : OkSt) : stepAll g (l ++ [t]) = (stepAll g l).step g t.t := by simp [stepAll]


/-- The boxes of the function: what is held, the measure, the result, the reach so far, and what the iterator holds. -/
structure AddsBoxes (S : Nat) (w : World) (h : Held) (mv : Value) (a b : Int) (W : World) : Prop where
  b1 : Blk W (S + 1) 64 #[mv]
  b2 : Blk W (S + 2) 68 #[.int .i64 0, .int .i64 0]
  b3 : Blk W (S + 3) 68 #[.int .i64 a, .int .i64 b]
  below : Below S w W
  sz : S + 5 ≤ W.heap.size

theorem AddsBoxes.own {S B : Nat} {w : World} {h : Held} {mv : Value} {β : Type} (f k : β → Int) (hS : S ≤ w.heap.size) (hB : S ≤ B) : OwnFrom B (fun s W => AddsBoxes S w h mv (f s) (k s) W) := by
  intro s X Y row hs hg hr
  have a1 := (blk_own (S + 1) 64 (fun _ : Unit => #[mv])).from B () X Y row hs.b1 hg hr
  have a2 := (blk_own (S + 2) 68 (fun _ : Unit => #[Value.int .i64 0, .int .i64 0])).from B () X Y row hs.b2 hg hr
  have a3 := (blk_own (S + 3) 68 (fun _ : Unit => #[Value.int .i64 (f s), .int .i64 (k s)])).from B () X Y row hs.b3 hg hr
  exact ⟨a1, a2, a3, ownFrom_below (β := Unit) hS hB () X Y row hs.below hg hr, Nat.le_trans hs.sz hg.size⟩

theorem AddsBoxes.call {S : Nat} {w W W' : World} {h : Held} {mv : Value} {a b : Int} (hs : AddsBoxes S w h mv a b W) (hb : Below W.heap.size W W') : AddsBoxes S w h mv a b W' :=
  ⟨hs.b1.below hb hs.b1.lt, hs.b2.below hb hs.b2.lt, hs.b3.below hb hs.b3.lt, hs.below.trans (hb.mono (by have := hs.b1.lt; omega)), Nat.le_trans hs.sz hb.size⟩

theorem AddsBoxes.round {S : Nat} {w W W1 : World} {h : Held} {mv : Value} {g : St → Int} {pre : List OkSt} {x : OkSt} {a b : Int} (hi : AddsBoxes S w h mv (stepAll g pre).least (stepAll g pre).most W1)
    (hb : Below W.heap.size W W1) (hw : S + 5 ≤ W.heap.size) (B : Nat) (ha : a = min (stepAll g pre).least (g x.t)) (hc : b = max (stepAll g pre).most (g x.t)) :
    KeepsFrom B W ((W1.setCell ⟨S + 3, 0, none⟩ (.int .i64 a)).setCell ⟨S + 3, 1, none⟩ (.int .i64 b)) ∧ SameAt (S + 4) W ((W1.setCell ⟨S + 3, 0, none⟩ (.int .i64 a)).setCell ⟨S + 3, 1, none⟩ (.int .i64 b)) ∧
      AddsBoxes S w h mv (stepAll g (pre ++ [x])).least (stepAll g (pre ++ [x])).most ((W1.setCell ⟨S + 3, 0, none⟩ (.int .i64 a)).setCell ⟨S + 3, 1, none⟩ (.int .i64 b)) := by
  refine ⟨(((keeps_of_below hb).trans (KeepsOthers.setCell _ _ _)).trans (KeepsOthers.setCell _ _ _)).from B, ?_, ?_⟩
  · exact ((SameAt.of_below hb (by omega)).trans (Below.heap_setCell _ _ _ _ (by simp))).trans (Below.heap_setCell _ _ _ _ (by simp))
  · have e3 := (hi.b3.set_ 0 (.int .i64 a)).set_ 1 (.int .i64 b)
    rw [stepAll_snoc]
    refine ⟨(hi.b1.far (p := ⟨S + 3, 0, none⟩) (by simp) _).far (p := ⟨S + 3, 1, none⟩) (by simp) _, (hi.b2.far (p := ⟨S + 3, 0, none⟩) (by simp) _).far (p := ⟨S + 3, 1, none⟩) (by simp) _, ?_,
      (hi.below.setCell (p := ⟨S + 3, 0, none⟩) (by simp) _).setCell (p := ⟨S + 3, 1, none⟩) (by simp) _, by have := hi.sz; simpa [World.setCell] using this⟩
    simp only [Reach.step, ← ha, ← hc]
    exact e3

set_option maxRecDepth 100000 in
set_option maxHeartbeats 4000000 in
theorem adds_any (h : Held) (v : Value) (g : St → Int) (w : World) (hh : h.ok) (hm : IsMeas w w.heap.size v g) :
    Calls Try.prog 32 #[.agg #[.int .i64 h.sack.w.lo, .int .i64 h.sack.w.hi, .int .i64 h.sack.c.lo, .int .i64 h.sack.c.hi, .int .i64 h.sack.l.lo, .int .i64 h.sack.l.hi, .int .i64 h.weight.lo, .int .i64 h.weight.hi], v] w
      (Ret (.agg #[.int .i64 (h.adds g).least, .int .i64 (h.adds g).most]) w) := by
  obtain ⟨mk, cap, rfl, he, HM0⟩ := hm
  have HM := Lib.hid HM0
  have HE := Lib.hid he
  clear HM0 he
  refine (callsIn_wide (n := 10)).1 ?_
  refine callsIn_of_wp_marks Try.func32 rfl trivial ?_ rfl
  simp only [Try.ntmps32, List.size_toArray, List.length_cons, List.length_nil, Nat.reduceAdd, Nat.reduceSub, Array.replicate_succ, Array.replicate_zero, List.push_toArray, List.append_toArray, List.nil_append, List.cons_append]
  gi_wp2_with (refine ⟨trivial, ?_⟩; gi_at_call 44; refine (callsIn_wide.2 (corners_any _ _ _ _ _ _ _ _ _)).mono ?_; rintro e w' ⟨rfl, rfl⟩)
  have c1 := ((((Blk.new (w.alloc (.cells h.vals 80)) 64 #[.func (.func mk) #[] cap]).alloc (.cells #[.int .i64 0, .int .i64 0] 68)).alloc (.cells #[.int .i64 9223372036854775807, .int .i64 (-9223372036854775808)] 68))).alloc (.cells h.vals 80)
  have c2 := ((Blk.new ((w.alloc (.cells h.vals 80)).alloc (.cells #[.func (.func mk) #[] cap] 64)) 68 #[.int .i64 0, .int .i64 0]).alloc (.cells #[.int .i64 9223372036854775807, .int .i64 (-9223372036854775808)] 68)).alloc (.cells h.vals 80)
  have c3 := (Blk.new (((w.alloc (.cells h.vals 80)).alloc (.cells #[.func (.func mk) #[] cap] 64)).alloc (.cells #[.int .i64 0, .int .i64 0] 68)) 68 #[.int .i64 9223372036854775807, .int .i64 (-9223372036854775808)]).alloc (.cells h.vals 80)
  have c4 := Blk.new ((((w.alloc (.cells h.vals 80)).alloc (.cells #[.func (.func mk) #[] cap] 64)).alloc (.cells #[.int .i64 0, .int .i64 0] 68)).alloc (.cells #[.int .i64 9223372036854775807, .int .i64 (-9223372036854775808)] 68)) 80 h.vals
  have c5 : Below w.heap.size w (((((w.alloc (.cells h.vals 80)).alloc (.cells #[.func (.func mk) #[] cap] 64)).alloc (.cells #[.int .i64 0, .int .i64 0] 68)).alloc (.cells #[.int .i64 9223372036854775807, .int .i64 (-9223372036854775808)] 68)).alloc (.cells h.vals 80)) := by
    repeat (first | exact Below.refl _ _ | assumption | refine Below.drew ?_ | refine Below.alloc ?_ (by first | omega | (simp only [World.size_alloc]; omega) | simp) _ | refine Below.setCell ?_ (by first | omega | (simp only [World.size_alloc]; omega) | simp) _)
  simp only [World.size_alloc, Nat.add_assoc, Nat.reduceAdd] at c1 c2 c3 c4
  have c6 : (((((w.alloc (.cells h.vals 80)).alloc (.cells #[.func (.func mk) #[] cap] 64)).alloc (.cells #[.int .i64 0, .int .i64 0] 68)).alloc (.cells #[.int .i64 9223372036854775807, .int .i64 (-9223372036854775808)] 68)).alloc (.cells h.vals 80)).heap.size = w.heap.size + 5 := by simp
  simp only [Nat.add_assoc, Nat.reduceAdd]
  unfold Held.vals at c1 c2 c3 c4 c5 c6
  generalize World.alloc (World.alloc (World.alloc (World.alloc (World.alloc w _) _) _) _) _ = W0 at c1 c2 c3 c4 c5 c6 ⊢
  have hA : AddsBoxes w.heap.size w h (.func (.func mk) #[] cap) maxI minI W0 := ⟨c1, c2, c3, c5, by omega⟩
  have hHeld : HeldAt W0 (w.heap.size + 4) h := ⟨c4.cell 0, c4.cell 1, c4.cell 2, c4.cell 3, c4.cell 4, c4.cell 5, c4.cell 6, c4.cell 7⟩
  clear c1 c2 c3 c4 c5
  refine wpIn_rangeFunc_ownH (hro := rfl) (h1 := by omega) (gf := 49) (lb := #[.pointer (some ⟨w.heap.size + 4, 0, none⟩)]) rfl trivial (enters_of Try.func49 (by kernel_rfl) rfl)
    (corners_stops 9 (by omega) (w.heap.size + 4) h hh W0 (by omega) hHeld) (fun a b => a.trans b) ?hKb (Below.refl _ _) (fun _ => rfl)
    (fun pre W => AddsBoxes w.heap.size w h (.func (.func mk) #[] cap) (stepAll g pre).least (stepAll g pre).most W) (fun _ _ _ => False)
    (AddsBoxes.own _ _ (Nat.le_refl _) (by omega)) (fun _ _ _ _ _ hs _ _ => hs) hA
    (fun x a' W => ∃ Bx, w.heap.size + 4 < Bx ∧ Blk W Bx 84 #[.int .i64 x.t.m, .int .i64 x.t.w, .int .i64 x.t.c, .int .i64 x.t.s] ∧
      a' = { tmps := #[.agg #[.int .i64 h.sack.w.lo, .int .i64 h.sack.w.hi, .int .i64 h.sack.c.lo, .int .i64 h.sack.c.hi, .int .i64 h.sack.l.lo, .int .i64 h.sack.l.hi, .int .i64 h.weight.lo, .int .i64 h.weight.hi], .func (.func mk) #[] cap,
        .pointer (some ⟨w.heap.size, 0, none⟩), .pointer (some ⟨w.heap.size + 1, 0, none⟩), .pointer (some ⟨w.heap.size + 2, 0, none⟩), .pointer (some ⟨w.heap.size + 3, 0, none⟩), .pointer (some ⟨Bx, 0, none⟩), undef,
        .agg #[.int .i64 9223372036854775807, .int .i64 (-9223372036854775808)],
        .agg #[.int .i64 h.sack.w.lo, .int .i64 h.sack.w.hi, .int .i64 h.sack.c.lo, .int .i64 h.sack.c.hi, .int .i64 h.sack.l.lo, .int .i64 h.sack.l.hi, .int .i64 h.weight.lo, .int .i64 h.weight.hi],
        .func (.func 49) #[] #[.pointer (some ⟨w.heap.size + 4, 0, none⟩)], .agg #[.int .i64 x.t.m, .int .i64 x.t.w, .int .i64 x.t.c, .int .i64 x.t.s], undef, undef, undef, undef, undef, undef, undef, undef, undef, undef, undef, undef, undef, undef], defers := [] }) ?hAx ?assign ?body ?done ?stop
  case hKb =>
    intro W l o o' hl ho _ _
    unfold SameAt World.putObj
    exact Array.getElem?_setIfInBounds_ne (by omega)
  case hAx =>
    rintro x a' s X Y row ⟨Bx, h1, h2, h3⟩ hg hr
    exact ⟨Bx, h1, (blk_own Bx 84 (fun _ : Unit => #[.int .i64 x.t.m, .int .i64 x.t.w, .int .i64 x.t.c, .int .i64 x.t.s])).from W0.heap.size () X Y row h2 hg hr, h3⟩
  case assign =>
    rintro l pre x W K hi hK
    unfold stV
    have hlt := hi.sz
    have hX := hi.call ((Below.refl _ W).alloc (Nat.le_refl _) (.cells #[.int .i64 x.t.m, .int .i64 x.t.w, .int .i64 x.t.c, .int .i64 x.t.s] 84))
    have HX := Lib.hid hX
    clear hX hi
    gi_wp2
    exact hK _ _ ((KeepsOthers.alloc _ _).from _) (Below.heap_alloc _ _ _ (by omega)) HX.out ⟨W.heap.size, by omega, Blk.new _ _ _, rfl⟩
  case body =>
    rintro l pre x a' W hl - hi ⟨Bx, hBx, bX, rfl⟩ hlt
    have c1 := hi.b1.cell 0
    have c3 := hi.b3.cell 0
    have c4 := hi.b3.cell 1
    have x0 := bX.cell 0
    have x1 := bX.cell 1
    have x2 := bX.cell 2
    have x3 := bX.cell 3
    have HI := Lib.hid hi
    have hsz := hi.sz
    clear hi
    have hE := HE.out
    gi_wp2_with (refine ⟨trivial, ?_⟩; go_simp; refine (CallsIn.inRound l (callsIn_wide.2 (HM.out _ _ HI.out.below x.ok))).mono ?_; rintro e W1 ⟨rfl, hb'⟩; have HI2 := Lib.hid (HI.out.call hb'); have HS := Lib.hid hb'; have c3 := HI2.out.b3.cell 0; have c4 := HI2.out.b3.cell 1; have f3 := HI2.out.b3.frozen 0; have f4 := HI2.out.b3.frozen 1; clear hb' c1 x0 x1 x2 x3)
    all_goals exact AddsBoxes.round HI2.out HS.out hsz _ (by omega) (by omega)
  case done =>
    rintro D ys W hD rfl hi hK
    have c0 := hi.b2.cell 0
    have c1 := hi.b2.cell 1
    have c3 := hi.b3.cell 0
    have c4 := hi.b3.cell 1
    have f3 := hi.b2.frozen 0
    have f4 := hi.b2.frozen 1
    have HI := Lib.hid hi
    clear hi
    gi_wp2
    have e2 := (HI.out.b2.set_ 0 (.int .i64 (stepAll g (h.upto hh 16)).least)).set_ 1 (.int .i64 (stepAll g (h.upto hh 16)).most)
    have eK := ((KeepsOthers.setCell W ⟨w.heap.size + 2, 0, none⟩ (.int .i64 (stepAll g (h.upto hh 16)).least)).trans (KeepsOthers.setCell _ ⟨w.heap.size + 2, 1, none⟩ (.int .i64 (stepAll g (h.upto hh 16)).most))).same D _ hK rfl
    have eB := (HI.out.below.setCell (p := ⟨w.heap.size + 2, 0, none⟩) (by simp) (.int .i64 (stepAll g (h.upto hh 16)).least)).setCell (p := ⟨w.heap.size + 2, 1, none⟩) (by simp) (.int .i64 (stepAll g (h.upto hh 16)).most)
    generalize World.setCell (World.setCell W _ _) _ _ = W2 at e2 eK eB ⊢
    have e4 := e2.kept (grownBy_putObj' W2 D (.deferred none)) (by simp; omega)
    have eB2 := eB.trans (belowK_b (w := w) (Nat.le_refl _) W2 D _ (.deferred none) (by omega) eK rfl rfl)
    have d0 := e4.cell 0
    have d1 := e4.cell 1
    refine ⟨by simp, .inl ⟨_, _, rfl, run_takeDeferred eK, ?_⟩⟩
    refine ⟨.agg #[.int .i64 (h.adds g).least, .int .i64 (h.adds g).most], ?_, rfl, eB2⟩
    simp only [Array.setIfInBounds] at d0 d1
    simp [results, Try.results32, go_sem, d0, d1]
    exact ⟨rfl, rfl⟩
  case stop =>
    rintro D c pre W - _ h _
    exact h.elim
end Go.Proofs.Ytffglhnmgapndaa

/- Maps with keys of type int, whatever their elements: laws of look-up, store and range, over a list of entries. -/
namespace Go.Proofs.Ytffglhnmgapndaa
open Go.RowKit

section
variable {α : Type} (enc : α → Value)

/-- The entries of a map that was only stored into: they are stamped in their order. -/
def entL : List (Int × α) → Nat → List MapEntry
  | [], _ => []
  | (a, b) :: l, n => { key := .int .i64 a, val := enc b, born := n } :: entL l (n + 1)
def MapI (W : World) (r : Nat) (m : List (Int × α)) : Prop := W.heap[r]? = some (.map (entL enc m 0).toArray m.length)

def upd : List (Int × α) → Int → α → List (Int × α)
  | [], k, v => [(k, v)]
  | (a, b) :: l, k, v => if a = k then (a, v) :: l else (a, b) :: upd l k v
def pos : List (Int × α) → Int → Nat → Option (Nat × α)
  | [], _, _ => none
  | (a, b) :: l, k, i => if a = k then some (i, b) else pos l k (i + 1)

variable {enc}
theorem mem_entL : ∀ (m : List (Int × α)) (n : Nat) (e : MapEntry), e ∈ entL enc m n → n ≤ e.born ∧ e.born < n + m.length ∧ ∃ x : Int × α, m[e.born - n]? = some x ∧ e.key = .int .i64 x.1 ∧ e.val = enc x.2
  | [], _, _, h => by simp [entL] at h
  | (a, b) :: l, n, e, h => by
    simp only [entL, List.mem_cons] at h
    rcases h with rfl | h
    · exact ⟨Nat.le_refl _, by simp, (a, b), by simp, rfl, rfl⟩
    · obtain ⟨h1, h2, x, h3, h4⟩ := mem_entL l (n + 1) e h
      refine ⟨by omega, by simp; omega, x, ?_, h4⟩
      rw [show e.born - n = (e.born - (n + 1)) + 1 by omega]
      simpa using h3
theorem getElem_entL : ∀ (m : List (Int × α)) (n i : Nat) (x : Int × α), m[i]? = some x → (entL enc m n)[i]? = some { key := .int .i64 x.1, val := enc x.2, born := n + i }
  | [], _, _, _, h => by simp at h
  | (a, b) :: l, n, 0, x, h => by
    simp at h
    subst h
    simp [entL]
  | (a, b) :: l, n, i + 1, x, h => by
    simp at h
    have := getElem_entL l (n + 1) i x h
    simp only [entL, List.getElem?_cons_succ, this]
    simp; omega
theorem born_entL : ∀ (m : List (Int × α)) (n : Nat), (entL enc m n).map (·.born) = (List.range' n m.length)
  | [], _ => rfl
  | (_, _) :: l, n => by simp [entL, born_entL l (n + 1), List.range'_succ]

theorem findNow_entL (q : IntKind) (k : Int) : ∀ (m : List (Int × α)) (n i : Nat), Instr.findNow (.int q) (.int .i64 k) (entL enc m n) i = some ((pos m k i).map fun p => (p.1, enc p.2))
  | [], _, _ => rfl
  | (a, b) :: l, n, i => by
    have ih := findNow_entL q k l (n + 1) (i + 1)
    by_cases h : a = k
    · subst h
      simp [entL, Instr.findNow, Instr.sameNow, pos]
    · have h' : (k == a) = false := by simp; exact fun e => h e.symm
      simp [entL, Instr.findNow, Instr.sameNow, pos, h, h', ih]

theorem upd_none : ∀ (m : List (Int × α)) (k : Int) (v : α) (i : Nat), pos m k i = none → upd m k v = m ++ [(k, v)]
  | [], _, _, _, _ => rfl
  | (a, b) :: l, k, v, i, h => by
    by_cases e : a = k
    · simp [pos, e] at h
    · simp [pos, e] at h
      simp [upd, e, upd_none l k v _ h]
theorem pos_some : ∀ (m : List (Int × α)) (k : Int) (v : α) (i j : Nat) (x : α), pos m k i = some (j, x) → i ≤ j ∧ m[j - i]? = some (k, x) ∧ upd m k v = m.modify (j - i) fun p => (p.1, v)
  | [], _, _, _, _, _, h => by simp [pos] at h
  | (a, b) :: l, k, v, i, j, x, h => by
    by_cases e : a = k
    · subst e
      simp [pos] at h
      obtain ⟨rfl, rfl⟩ := h
      simp [upd]
    · simp [pos, e] at h
      obtain ⟨h1, h2, h3⟩ := pos_some l k v (i + 1) j x h
      have e1 : j - i = (j - (i + 1)) + 1 := by omega
      rw [e1]
      refine ⟨by omega, by simpa using h2, ?_⟩
      simp [upd, e, h3]
theorem modify_entL (v : α) : ∀ (m : List (Int × α)) (n j : Nat), (entL enc m n).modify j (fun e => { e with val := enc v }) = entL enc (m.modify j fun p => (p.1, v)) n
  | [], _, j => by simp [entL]
  | (a, b) :: l, n, 0 => by simp [entL]
  | (a, b) :: l, n, j + 1 => by
    have := modify_entL v l (n + 1) j
    simp [entL, this]
theorem entL_append (m : List (Int × α)) (k : Int) (v : α) : ∀ n, entL enc (m ++ [(k, v)]) n = entL enc m n ++ [{ key := .int .i64 k, val := enc v, born := n + m.length }] := by
  induction m with
  | nil => intro n; simp [entL]
  | cons p l ih => intro n; obtain ⟨a, b⟩ := p; simp [entL, ih]; omega

variable {P : Program} {W : World} {r : Nat} {m : List (Int × α)} {T K E : TypeId}

theorem MapI.lt (h : MapI enc W r m) : r < W.heap.size := (Array.getElem?_eq_some_iff.1 h).1
theorem MapI.kept {W' : World} {row : Option Nat} (h : MapI enc W r m) (hb : W.grownBy W' row) (hg : some r ≠ row) : MapI enc W' r m := (hb.block r h.lt hg).trans h
theorem MapI.alloc (h : MapI enc W r m) (o : Obj) : MapI enc (W.alloc o) r m := h.kept (World.grownBy_alloc W o none) (by simp)
theorem MapI.below {B : Nat} {W' : World} (h : MapI enc W r m) (hb : Below B W W') (hg : r < B) : MapI enc W' r m := (hb.block r hg).trans h
theorem MapI.made (W : World) : MapI enc (W.alloc (.map #[] 0)) W.heap.size [] := World.alloc_heap_new W _

/-- 'm[k]'. -/
theorem run_lookupI (h : MapI enc W r m) (hT : P.underlying T = some (.map K E)) (hK : P.underlying K = some (.int .i64)) (z : α) (hz : (zeroValue E).run P W = .ok (enc z) W) (k : Int) :
    (Instr.lookup T (.map (some r)) (.int .i64 k) false).run P W = .ok (enc (((pos m k 0).map (·.2)).getD z)) W := by
  have h1 := MapKept.run_getObj_map (P := P) h
  have h2 : ∀ b, (Instr.checkKey b 10000 K (.int .i64 k)).run P W = .ok () W := fun b => MapKept.run_checkKey (P := P) (w := W) hK (k := .int .i64 k) rfl b 9999
  have h3 := MapKept.run_findKey (P := P) (w := W) (k := .int .i64 k) hK (findNow_entL (enc := enc) .i64 k m 0 0)
  unfold Instr.lookup
  simp only [Sem.run_bind, run_underlying hT, Result.andThen_ok, h1, Sem.run_pure, h2, h3]
  cases hp : pos m k 0 with
  | none => simp [hz]
  | some p => simp

/-- 'm[k] = v'. -/
theorem run_updateI (h : MapI enc W r m) (hT : P.underlying T = some (.map K E)) (hK : P.underlying K = some (.int .i64)) (k : Int) (v : α) :
    ∃ W', (Instr.mapUpdate T (.map (some r)) (.int .i64 k) (enc v)).run P W = .ok () W' ∧ MapI enc W' r (upd m k v) ∧ W.grownBy W' (some r) ∧ W'.heap.size = W.heap.size := by
  have h1 := MapKept.run_getObj_map (P := P) h
  have h2 := MapKept.run_checkKey (P := P) (w := W) hK (k := .int .i64 k) rfl false 9999
  have h3 := MapKept.run_findKey (P := P) (w := W) (k := .int .i64 k) hK (findNow_entL (enc := enc) .i64 k m 0 0)
  have h4 := fun o => MapKept.run_setObj_map (P := P) o h
  have hg : ∀ o, W.grownBy { W with heap := W.heap.setIfInBounds r o } (some r) := fun o => ⟨rfl, rfl, rfl, by simp, fun i _ hne => Array.getElem?_setIfInBounds_ne (fun e => hne (by rw [e]))⟩
  have hs : ∀ o : Obj, (W.heap.setIfInBounds r o)[r]? = some o := fun o => by simp [h.lt]
  unfold Instr.mapUpdate
  simp only [Sem.run_bind, run_underlying hT, Result.andThen_ok, h1, h2, h3]
  cases hp : pos m k 0 with
  | none =>
    have hu := upd_none m k v 0 hp
    simp only [Option.map_none, h4]
    refine ⟨_, rfl, ?_, hg _, by simp⟩
    unfold MapI
    rw [hs, hu, entL_append]
    simp
  | some p =>
    obtain ⟨j, x⟩ := p
    obtain ⟨-, hj, hu⟩ := pos_some m k v 0 j x hp
    simp only [Nat.sub_zero] at hj hu
    have hk := getElem_entL (enc := enc) m 0 j _ hj
    simp only [Option.map_some, List.getElem?_toArray, hk, Option.getD_some]
    have hsame : Instr.keyThatStays (.int .i64 k) (.int .i64 k) = (pure (.int .i64 k) : Sem Value) := by
      simp [Instr.keyThatStays, Instr.sameBits]
    simp only [hsame, Sem.run_bind, Sem.run_pure, Result.andThen_ok, h4]
    refine ⟨_, rfl, ?_, hg _, by simp⟩
    unfold MapI
    rw [hs, hu, ← modify_entL (enc := enc) v m 0 j]
    have he : ∀ (l : List MapEntry) (e : MapEntry), l[j]? = some e → e.key = .int .i64 k → l.modify j (fun e => { key := .int .i64 k, val := enc v, born := e.born }) = l.modify j (fun e => { e with val := enc v }) := by
      intro l e hl hk'
      apply List.ext_getElem?
      intro i
      by_cases hi : j = i
      · subst hi; simp [hl, hk']
      · simp [hi]
    have := he _ _ hk rfl
    simp [this]
end
end Go.Proofs.Ytffglhnmgapndaa

/- A range over a map with keys of type int: the step, whichever entry the tape gives. -/
namespace Go.Proofs.Ytffglhnmgapndaa
open Go.RowKit Go.ChangeMaps

section
variable {α : Type} {enc : α → Value} {P : Program}

theorem nodup_length_le : ∀ (n : Nat) (l : List Nat), l.Nodup → (∀ i ∈ l, i < n) → l.length ≤ n
  | 0, l, _, h => by
    cases l with
    | nil => simp
    | cons a l => have := h a (by simp); omega
  | n + 1, l, hn, h => by
    have h1 := nodup_length_le n (l.erase n) (hn.erase n) (fun i hi => by
      have a := h i (List.mem_of_mem_erase hi)
      have b := (hn.mem_erase_iff.1 hi).1
      omega)
    have h2 := List.length_erase (a := n) (l := l)
    split at h2 <;> omega

/-- What is known when a step of a range has given entry i. -/
structure Stepped_ (enc : α → Value) (w : World) (bm r : Nat) (m : List (Int × α)) (seen : List Nat) (i : Nat) (w' : World) : Prop where
  lt : i < m.length
  fresh : i ∉ seen
  iter : w'.heap[r]? = some (.mapIter (some bm) m.length (seen ++ [i]).toArray m.length)
  map : MapI enc w' bm m
  grown : w.grownBy w' (some r)
  size : w'.heap.size = w.heap.size

theorem wpList_nextI (w : World) {ops : Array Oper} {rest : List Oper} {o : Oper} {a : Act} {Q : Exit → Act → World → Prop} (hg : o.guard = none) (it : Operand) (hop : o.op = Op.next it false) (bm r : Nat) (m : List (Int × α)) (seen : List Nat)
    (hit : a.eval it = .pointer (some ⟨r, 0, none⟩)) (hr : w.heap[r]? = some (.mapIter (some bm) m.length seen.toArray m.length)) (hb : MapI enc w bm m)
    (hDone : Hid (∀ i, i < m.length → i ∈ seen) → wpList P ops Q rest (a.put o.dst (.tuple #[.bool false])) w)
    (hMore : ∀ (i : Nat) (hi : i < m.length) (w' : World), Hid (Stepped_ enc w bm r m seen i w') →
      (Instr.entry (.pointer (some ⟨r, 0, none⟩))).run P w' = .ok (.tuple #[.int .i64 m[i].1, enc m[i].2]) w' → wpList P ops Q rest (a.put o.dst (.tuple #[.bool true, .int .i64 m[i].1, enc m[i].2])) w') :
    wpList P ops Q (o :: rest) a w := by
  refine wpList_plain hg fun K' hK' => ?_
  unfold Oper.wp
  have hne : r ≠ bm := by
    rintro rfl
    have := hr.symm.trans hb
    simp at this
  rcases run_next_at (P := P) w o.type r bm m.length m.length seen.toArray (entL enc m 0).toArray m.length hr hb (fun x hx => by
      have := mem_entL m 0 x (by simpa using hx); omega) (Nat.le_refl _) with ⟨h0, hrun⟩ | ⟨e, he, w1, hw1, hrun⟩
  · simp [execOp, hop, hit, hrun, Result.andThen]
    refine hK' _ _ (hDone fun i hi => ?_)
    have hx := getElem_entL (enc := enc) m 0 i m[i] (List.getElem?_eq_getElem hi)
    have hm : _ ∈ (entL enc m 0) := List.mem_of_getElem? hx
    unfold leftOf at h0
    have h1 := Array.eq_empty_of_size_eq_zero h0
    rw [Array.filter_eq_empty_iff] at h1
    have h2 := h1 _ (by simpa using hm)
    simpa using h2
  · unfold leftOf at he
    simp only [Array.toList_filter, List.mem_filter] at he
    obtain ⟨he1, he2⟩ := he
    obtain ⟨-, hlt, x, hx, hk, hv⟩ := mem_entL (enc := enc) m 0 e he1
    simp only [Nat.sub_zero, Nat.zero_add] at hlt hx
    have hxe : m[e.born] = x := by rw [List.getElem?_eq_getElem hlt] at hx; simpa using hx
    have hn : e.born ∉ seen := by simpa using he2
    have hs1 : w1.heap = w.heap := by rcases hw1 with rfl | rfl <;> rfl
    have hpush : seen.toArray.push e.born = (seen ++ [e.born]).toArray := by simp
    rw [hpush] at hrun
    have hgr : w.grownBy (setBlock w1 r (.mapIter (some bm) m.length (seen ++ [e.born]).toArray m.length)) (some r) := by
      rcases hw1 with rfl | rfl
      · exact ⟨rfl, rfl, rfl, by simp [setBlock], fun i _ hne => Array.getElem?_setIfInBounds_ne (fun e => hne (by rw [e]))⟩
      · exact ⟨rfl, rfl, rfl, by simp [setBlock], fun i _ hne => Array.getElem?_setIfInBounds_ne (fun e => hne (by rw [e]))⟩
    have hr' : (setBlock w1 r (.mapIter (some bm) m.length (seen ++ [e.born]).toArray m.length)).heap[r]? = some (.mapIter (some bm) m.length (seen ++ [e.born]).toArray m.length) := by
      have hrl : r < w.heap.size := (Array.getElem?_eq_some_iff.1 hr).1
      simp [setBlock, hs1, hrl]
    have hb' : MapI enc (setBlock w1 r (.mapIter (some bm) m.length (seen ++ [e.born]).toArray m.length)) bm m := hb.kept hgr (by simp; exact fun e => hne e.symm)
    have hent := run_entry_at (P := P) (setBlock w1 r (.mapIter (some bm) m.length (seen ++ [e.born]).toArray m.length)) r bm m.length seen.toArray (entL enc m 0).toArray m.length e (by rw [hr', hpush]) hb' (by simpa using he1) (by
      show ((entL enc m 0).map _).Nodup
      rw [born_entL]; exact List.nodup_range' ..)
    simp [execOp, hop, hit, hrun, Result.andThen]
    rw [hk, hv, ← hxe] at hent ⊢
    exact hK' _ _ (hMore e.born hlt _ ⟨hlt, hn, hr', hb', hgr, by simp [setBlock, hs1]⟩ hent)

/-- How many entries are still to come. -/
def iterLeft (n r : Nat) (w : World) : Nat := match w.heap[r]? with
  | some (.mapIter _ _ seen _) => n - seen.size
  | _ => 0
theorem iterLeft_eq {n r : Nat} {w : World} {bm : Option Nat} {s c : Nat} {seen : List Nat} (h : w.heap[r]? = some (.mapIter bm s seen.toArray c)) : iterLeft n r w = n - seen.length := by
  simp [iterLeft, h]
end
end Go.Proofs.Ytffglhnmgapndaa

