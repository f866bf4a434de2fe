/- The plain model of shares: where a share begins and ends. -/
import Derived.Test.YtoiggflhfbfiiaaSpec
namespace Go.Proofs.Ytoiggflhfbfiiaa

theorem step_mono {g g' : St → Int} {r r' : Reach} {t : St} (hg : g t ≤ g' t) (h1 : r.least ≤ r'.least) (h2 : r.most ≤ r'.most) : (r.step g t).least ≤ (r'.step g' t).least ∧ (r.step g t).most ≤ (r'.step g' t).most := by
  simp only [Reach.step]; omega
theorem adds_mono {h : Held} {g g' : St → Int} (hh : h.ok) (hg : ∀ t : St, t.ok → g t ≤ g' t) : (h.adds g).least ≤ (h.adds g').least ∧ (h.adds g).most ≤ (h.adds g').most := by
  have hc := Held.corner_ok hh
  unfold Held.adds
  suffices H : ∀ (l : List St) (r r' : Reach), (∀ t ∈ l, t.ok) → r.least ≤ r'.least → r.most ≤ r'.most → (l.foldl (Reach.step g) r).least ≤ (l.foldl (Reach.step g') r').least ∧ (l.foldl (Reach.step g) r).most ≤ (l.foldl (Reach.step g') r').most from
    H _ _ _ hc (Int.le_refl _) (Int.le_refl _)
  intro l
  induction l with
  | nil => intro r r' _ h1 h2; exact ⟨h1, h2⟩
  | cons t l ih =>
    intro r r' ht h1 h2
    have := step_mono (t := t) (hg t (ht t (by simp))) h1 h2
    exact ih _ _ (fun u hu => ht u (by simp [hu])) this.1 this.2
theorem together_mono {l : List Held} {g g' : St → Int} (hl : ∀ h ∈ l, h.ok) (hg : ∀ t : St, t.ok → g t ≤ g' t) : (together l g).least ≤ (together l g').least ∧ (together l g).most ≤ (together l g').most := by
  unfold together
  suffices H : ∀ (l : List Held) (r r' : Reach), (∀ h ∈ l, h.ok) → r.least ≤ r'.least → r.most ≤ r'.most →
      (l.foldl (fun r h => r.plus (h.adds g)) r).least ≤ (l.foldl (fun r h => r.plus (h.adds g')) r').least ∧ (l.foldl (fun r h => r.plus (h.adds g)) r).most ≤ (l.foldl (fun r h => r.plus (h.adds g')) r').most from
    H _ _ _ hl (Int.le_refl _) (Int.le_refl _)
  intro l
  induction l with
  | nil => intro r r' _ h1 h2; exact ⟨h1, h2⟩
  | cons a l ih =>
    intro r r' ha h1 h2
    have := adds_mono (ha a (by simp)) hg
    refine ih _ _ (fun u hu => ha u (by simp [hu])) ?_ ?_ <;> simp only [Reach.plus] <;> omega
theorem over_mono {a b : Int} (h : a ≤ b) : ∀ t : St, t.ok → carbonOver b t ≤ carbonOver a t := by
  intro t ht
  have := (St.lead_bd ht).1
  have := Int.mul_le_mul_of_nonneg_right h this
  unfold carbonOver; omega

/-- The first number from 0 on, below n, that has a property; n if none has. -/
def firstFrom (p : Int → Bool) : Nat → Int → Int
  | 0, i => i
  | f + 1, i => if p i then i else firstFrom p f (i + 1)
def firstOf (n : Nat) (p : Int → Bool) : Int := firstFrom p n 0
theorem firstFrom_is (p : Int → Bool) : ∀ (f : Nat) (i r : Int), i ≤ r → r ≤ i + f → (∀ x, i ≤ x → x < r → p x = false) → (r < i + f → p r = true) → firstFrom p f i = r
  | 0, i, r, h1, h2, _, _ => by simp [firstFrom]; omega
  | f + 1, i, r, h1, h2, h3, h4 => by
    unfold firstFrom
    by_cases e : i = r
    · subst e
      rw [if_pos (h4 (by omega))]
    · rw [h3 i (Int.le_refl _) (by omega)]
      exact firstFrom_is p f (i + 1) r (by omega) (by omega) (fun x hx hr => h3 x (by omega) hr) (fun h => h4 (by omega))
theorem firstOf_is (p : Int → Bool) (n : Nat) (r : Int) (h1 : 0 ≤ r) (h2 : r ≤ n) (h3 : ∀ x, 0 ≤ x → x < r → p x = false) (h4 : r < n → p r = true) : firstOf n p = r :=
  firstFrom_is p n 0 r h1 (by omega) h3 (fun h => h4 (by omega))
theorem firstFrom_spec (p : Int → Bool) : ∀ (f : Nat) (i : Int), i ≤ firstFrom p f i ∧ firstFrom p f i ≤ i + f ∧ (∀ x, i ≤ x → x < firstFrom p f i → p x = false) ∧ (firstFrom p f i < i + f → p (firstFrom p f i) = true)
  | 0, i => by simp [firstFrom]; omega
  | f + 1, i => by
    unfold firstFrom
    split
    · rename_i h
      exact ⟨by omega, by omega, fun x h1 h2 => by omega, fun _ => h⟩
    · rename_i h
      obtain ⟨h1, h2, h3, h4⟩ := firstFrom_spec p f (i + 1)
      refine ⟨by omega, by omega, fun x hx hr => ?_, fun hlt => h4 (by omega)⟩
      by_cases e : x = i
      · subst e; simpa using h
      · exact h3 x (by omega) hr
theorem firstOf_spec (p : Int → Bool) (n : Nat) : 0 ≤ firstOf n p ∧ firstOf n p ≤ n ∧ (∀ x, 0 ≤ x → x < firstOf n p → p x = false) ∧ (firstOf n p < n → p (firstOf n p) = true) := by
  have := firstFrom_spec p n 0
  simpa [firstOf] using this

def loP (hs : List Held) (x : Int) : Bool := decide ((together hs (carbonOver (x + 1))).least < 0)
def hiP (hs : List Held) (x : Int) : Bool := decide ((together hs (carbonOver x)).most ≤ 0)
def shareOf (hs : List Held) : Span := ⟨firstOf 1000 (loP hs), firstOf 1000 (hiP hs)⟩
theorem loP_mono {hs : List Held} (hl : ∀ h ∈ hs, h.ok) {i j : Int} (h : i ≤ j) (hp : loP hs i = true) : loP hs j = true := by
  have := together_mono hl (over_mono (show i + 1 ≤ j + 1 by omega))
  simp only [loP, decide_eq_true_eq] at hp ⊢; omega
theorem hiP_mono {hs : List Held} (hl : ∀ h ∈ hs, h.ok) {i j : Int} (h : i ≤ j) (hp : hiP hs i = true) : hiP hs j = true := by
  have := together_mono hl (over_mono h)
  simp only [hiP, decide_eq_true_eq] at hp ⊢; omega
end Go.Proofs.Ytoiggflhfbfiiaa
