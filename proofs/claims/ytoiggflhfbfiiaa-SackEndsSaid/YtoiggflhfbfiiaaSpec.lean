/- The plain model of layer 1 (sack): numbers and lists only. -/
namespace Go.Proofs.Ytoiggflhfbfiiaa

structure Span where
  lo : Int
  hi : Int
  deriving DecidableEq
structure Sack where
  w : Span
  c : Span
  l : Span
  deriving DecidableEq
structure Take where
  s : Int
  m : Span
  deriving DecidableEq
structure St where
  m : Int
  w : Int
  c : Int
  s : Int
structure Reach where
  least : Int
  most : Int
structure Held where
  sack : Sack
  weight : Span

def St.dry (t : St) : Int := t.m * (1000 - t.w)
def St.water (t : St) : Int := t.m * t.w * 1000000
def St.carbon (t : St) : Int := t.dry * t.c * 1000
def St.smoke (t : St) : Int := t.dry * (1000 - t.c) * t.s
def St.clay (t : St) : Int := t.dry * (1000 - t.c) * (1000 - t.s)
def St.lead (t : St) : Int := t.carbon + t.clay
def carbonOver (thou : Int) (t : St) : Int := 1000 * t.carbon - thou * t.lead
def waterLack (thou : Int) (t : St) : Int := t.m * (thou - t.w)

def St.ok (t : St) : Prop := 0 ≤ t.m ∧ t.m ≤ 800000 ∧ 0 ≤ t.w ∧ t.w ≤ 900 ∧ 0 ≤ t.c ∧ t.c ≤ 1000 ∧ 0 ≤ t.s ∧ t.s ≤ 900

def maxI : Int := 9223372036854775807
def minI : Int := -9223372036854775808

def Span.ends (s : Span) : List Int := [s.lo, s.hi]
def Held.corners (h : Held) : List St :=
  h.weight.ends.flatMap fun m => h.sack.w.ends.flatMap fun w => h.sack.c.ends.flatMap fun c => h.sack.l.ends.map fun s => ⟨m, w, c, s⟩
def Reach.step (g : St → Int) (r : Reach) (t : St) : Reach := ⟨min r.least (g t), max r.most (g t)⟩
def Held.adds (h : Held) (g : St → Int) : Reach := h.corners.foldl (Reach.step g) ⟨maxI, minI⟩
def Reach.plus (a b : Reach) : Reach := ⟨a.least + b.least, a.most + b.most⟩
def together (l : List Held) (g : St → Int) : Reach := l.foldl (fun r h => r.plus (h.adds g)) ⟨0, 0⟩

def withinB (s : Span) (c d : Int) : Bool := decide (c ≤ s.lo ∧ s.lo ≤ s.hi ∧ s.hi ≤ d)
def sackOk (s : Sack) : Bool := withinB s.w 0 900 && withinB s.c 0 1000 && withinB s.l 0 900
def sacksOk (l : List Sack) : Bool := decide (l.length ≤ 8) && l.all sackOk
def idxB (l : List Sack) (i : Int) : Bool := decide (0 ≤ i ∧ i < l.length)
def takeOk (l : List Sack) (t : Take) : Bool := idxB l t.s && withinB t.m 1 100000
def validB (l : List Sack) (b : List Take) : Bool := sacksOk l && decide (1 ≤ b.length ∧ b.length ≤ 8) && b.all (takeOk l)

def Held.ok (h : Held) : Prop := sackOk h.sack = true ∧ 0 ≤ h.weight.lo ∧ h.weight.lo ≤ h.weight.hi ∧ h.weight.hi ≤ 800000

/-- Bounds of a product of two numbers that are not below 0. -/
theorem mul_bd {a b A B : Int} (ha : 0 ≤ a) (hA : a ≤ A) (hb : 0 ≤ b) (hB : b ≤ B) : 0 ≤ a * b ∧ a * b ≤ A * B :=
  ⟨Int.mul_nonneg ha hb, Int.mul_le_mul hA hB hb (by omega)⟩

theorem St.dry_bd {t : St} (h : t.ok) : 0 ≤ t.dry ∧ t.dry ≤ 800000000 := by
  obtain ⟨a, b, c, d, _⟩ := h
  have := mul_bd a b (show 0 ≤ 1000 - t.w by omega) (show 1000 - t.w ≤ 1000 by omega)
  unfold St.dry; omega
theorem St.mw_bd {t : St} (h : t.ok) : 0 ≤ t.m * t.w ∧ t.m * t.w ≤ 720000000 := by
  obtain ⟨a, b, c, d, _⟩ := h
  have := mul_bd a b c d
  omega
theorem St.dryc_bd {t : St} (h : t.ok) : 0 ≤ t.dry * t.c ∧ t.dry * t.c ≤ 800000000000 := by
  have h1 := St.dry_bd h
  obtain ⟨_, _, _, _, a, b, _⟩ := h
  have := mul_bd h1.1 h1.2 a b
  omega
theorem St.dryr_bd {t : St} (h : t.ok) : 0 ≤ t.dry * (1000 - t.c) ∧ t.dry * (1000 - t.c) ≤ 800000000000 := by
  have h1 := St.dry_bd h
  obtain ⟨_, _, _, _, a, b, _⟩ := h
  have := mul_bd h1.1 h1.2 (show 0 ≤ 1000 - t.c by omega) (show 1000 - t.c ≤ 1000 by omega)
  omega
theorem St.water_bd {t : St} (h : t.ok) : 0 ≤ t.water ∧ t.water ≤ 720000000000000 := by
  have := St.mw_bd h
  unfold St.water; omega
theorem St.carbon_bd {t : St} (h : t.ok) : 0 ≤ t.carbon ∧ t.carbon ≤ 800000000000000 := by
  have := St.dryc_bd h
  unfold St.carbon; omega
theorem St.smoke_bd {t : St} (h : t.ok) : 0 ≤ t.smoke ∧ t.smoke ≤ 720000000000000 := by
  have h1 := St.dryr_bd h
  obtain ⟨_, _, _, _, _, _, a, b⟩ := h
  have := mul_bd h1.1 h1.2 a b
  unfold St.smoke; omega
theorem St.clay_bd {t : St} (h : t.ok) : 0 ≤ t.clay ∧ t.clay ≤ 800000000000000 := by
  have h1 := St.dryr_bd h
  obtain ⟨_, _, _, _, _, _, a, b⟩ := h
  have := mul_bd h1.1 h1.2 (show 0 ≤ 1000 - t.s by omega) (show 1000 - t.s ≤ 1000 by omega)
  unfold St.clay; omega
theorem St.part_eq (t : St) : t.carbon + t.smoke + t.clay = t.dry * 1000000 := by
  unfold St.carbon St.smoke St.clay
  generalize t.dry = d
  have e : d * (1000 - t.c) * (1000 - t.s) = d * (1000 - t.c) * 1000 - d * (1000 - t.c) * t.s := Int.mul_sub _ _ _
  have e2 : d * (1000 - t.c) = d * 1000 - d * t.c := Int.mul_sub _ _ _
  omega
theorem St.lead_bd {t : St} (h : t.ok) : 0 ≤ t.lead ∧ t.lead ≤ 800000000000000 := by
  have h1 := St.carbon_bd h
  have h2 := St.clay_bd h
  have h3 := St.smoke_bd h
  have h4 := St.part_eq t
  have h5 := St.dry_bd h
  unfold St.lead; omega
theorem tl_bd {t : St} (h : t.ok) {thou : Int} (h0 : 0 ≤ thou) (h1 : thou ≤ 1000) : 0 ≤ thou * t.lead ∧ thou * t.lead ≤ 800000000000000000 := by
  have h2 := St.lead_bd h
  have := mul_bd h0 h1 h2.1 h2.2
  omega
theorem carbonOver_bd {t : St} (h : t.ok) {thou : Int} (h0 : 0 ≤ thou) (h1 : thou ≤ 1000) : -800000000000000000 ≤ carbonOver thou t ∧ carbonOver thou t ≤ 800000000000000000 := by
  have h2 := tl_bd h h0 h1
  have h3 := St.carbon_bd h
  unfold carbonOver; omega
theorem waterLack_bd {t : St} (h : t.ok) {thou : Int} (h0 : 0 ≤ thou) (h1 : thou ≤ 1000) : -800000000 ≤ waterLack thou t ∧ waterLack thou t ≤ 800000000 := by
  obtain ⟨a, b, c, d, _⟩ := h
  have h2 := mul_bd a b h0 h1
  have h3 := mul_bd a b c (show t.w ≤ 1000 by omega)
  have e : t.m * (thou - t.w) = t.m * thou - t.m * t.w := Int.mul_sub _ _ _
  unfold waterLack; omega

theorem withinB_iff {s : Span} {c d : Int} : withinB s c d = true ↔ c ≤ s.lo ∧ s.lo ≤ s.hi ∧ s.hi ≤ d := by simp [withinB]

theorem Held.corner_ok {h : Held} (hh : h.ok) : ∀ t ∈ h.corners, t.ok := by
  intro t ht
  obtain ⟨hs, h1, h2, h3⟩ := hh
  simp only [sackOk, Bool.and_eq_true, withinB_iff] at hs
  simp only [Held.corners, Span.ends, List.mem_flatMap, List.mem_map, List.mem_cons, List.not_mem_nil, or_false] at ht
  obtain ⟨m, hm, w, hw, c, hc, s, hs', rfl⟩ := ht
  simp only [St.ok]
  omega

/-- A measure that lies within bounds at states: so does what a sack adds. -/
theorem adds_bd {h : Held} {g : St → Int} {B : Int} (hh : h.ok) (hg : ∀ t : St, t.ok → -B ≤ g t ∧ g t ≤ B) (_hB : B ≤ 9000000000000000000) :
    -B ≤ (h.adds g).least ∧ (h.adds g).least ≤ B ∧ -B ≤ (h.adds g).most ∧ (h.adds g).most ≤ B := by
  have hc := Held.corner_ok hh
  have key : ∀ (l : List St) (r : Reach), (∀ t ∈ l, t.ok) → (l ≠ [] ∨ (-B ≤ r.least ∧ r.least ≤ B ∧ -B ≤ r.most ∧ r.most ≤ B)) → -B ≤ r.least → r.most ≤ B →
      -B ≤ (l.foldl (Reach.step g) r).least ∧ (l.foldl (Reach.step g) r).least ≤ B ∧ -B ≤ (l.foldl (Reach.step g) r).most ∧ (l.foldl (Reach.step g) r).most ≤ B := by
    intro l
    induction l with
    | nil => intro r _ h1 _ _; simpa using h1
    | cons t l ih =>
      intro r ht _ h2 h3
      have h4 := hg t (ht t (by simp))
      refine ih _ (fun u hu => ht u (by simp [hu])) (.inr ?_) ?_ ?_ <;> simp only [Reach.step] <;> omega
  refine key h.corners ⟨maxI, minI⟩ hc (.inl ?_) ?_ ?_
  · simp [Held.corners, Span.ends]
  · have := (hg ⟨0, 0, 0, 0⟩ (by simp [St.ok])); simp only [maxI]; omega
  · have := (hg ⟨0, 0, 0, 0⟩ (by simp [St.ok])); simp only [minI]; omega

/-- What is known of the takes out of each sack, by the numbers of sacks in the order in which they come. -/
def updH : List (Int × Held) → Int → Held → List (Int × Held)
  | [], k, v => [(k, v)]
  | (a, b) :: l, k, v => if a = k then (a, v) :: l else (a, b) :: updH l k v
def oldH : List (Int × Held) → Int → Held
  | [], _ => ⟨⟨⟨0, 0⟩, ⟨0, 0⟩, ⟨0, 0⟩⟩, ⟨0, 0⟩⟩
  | (a, b) :: l, k => if a = k then b else oldH l k
def sackAt (l : List Sack) (i : Int) : Sack := l.getD i.toNat ⟨⟨0, 0⟩, ⟨0, 0⟩, ⟨0, 0⟩⟩
def gstep (l : List Sack) (m : List (Int × Held)) (t : Take) : List (Int × Held) :=
  updH m t.s ⟨sackAt l t.s, ⟨(oldH m t.s).weight.lo + t.m.lo, (oldH m t.s).weight.hi + t.m.hi⟩⟩
def gather (l : List Sack) (b : List Take) : List (Int × Held) := b.foldl (gstep l) []

theorem oldH_bd (B : Int) (hB : 0 ≤ B) (k : Int) : ∀ (m : List (Int × Held)), (∀ p ∈ m, 0 ≤ p.2.weight.lo ∧ p.2.weight.lo ≤ p.2.weight.hi ∧ p.2.weight.hi ≤ B) →
    0 ≤ (oldH m k).weight.lo ∧ (oldH m k).weight.lo ≤ (oldH m k).weight.hi ∧ (oldH m k).weight.hi ≤ B
  | [], _ => by simp [oldH, hB]
  | (a, b) :: l, h => by
    unfold oldH
    split
    · exact h (a, b) (by simp)
    · exact oldH_bd B hB k l fun p hp => h p (by simp [hp])
theorem mem_updH (k : Int) (v : Held) : ∀ (m : List (Int × Held)) (p : Int × Held), p ∈ updH m k v → p = (k, v) ∨ p ∈ m
  | [], p, h => by simp [updH] at h; exact .inl h
  | (a, b) :: l, p, h => by
    unfold updH at h
    split at h
    · rename_i e
      subst e
      simp at h
      rcases h with rfl | h
      · exact .inl rfl
      · exact .inr (by simp [h])
    · simp at h
      rcases h with rfl | h
      · exact .inr (by simp)
      · rcases mem_updH k v l p h with h | h
        · exact .inl h
        · exact .inr (by simp [h])
theorem gather_snoc (l : List Sack) (b : List Take) (t : Take) : gather l (b ++ [t]) = gstep l (gather l b) t := by simp [gather]
theorem gather_bd (l : List Sack) : ∀ (b : List Take), (∀ t ∈ b, withinB t.m 1 100000 = true) → ∀ p ∈ gather l b, p.2.sack = sackAt l p.1 ∧ 0 ≤ p.2.weight.lo ∧ p.2.weight.lo ≤ p.2.weight.hi ∧ p.2.weight.hi ≤ 100000 * b.length := by
  intro b hb
  suffices H : ∀ (b : List Take) (m : List (Int × Held)) (n : Nat), (∀ t ∈ b, withinB t.m 1 100000 = true) → (∀ p ∈ m, p.2.sack = sackAt l p.1 ∧ 0 ≤ p.2.weight.lo ∧ p.2.weight.lo ≤ p.2.weight.hi ∧ p.2.weight.hi ≤ 100000 * n) →
      ∀ p ∈ b.foldl (gstep l) m, p.2.sack = sackAt l p.1 ∧ 0 ≤ p.2.weight.lo ∧ p.2.weight.lo ≤ p.2.weight.hi ∧ p.2.weight.hi ≤ 100000 * (n + b.length) by
    have := H b [] 0 hb (by simp)
    simpa [gather] using this
  intro b
  induction b with
  | nil => intro m n _ hm; simpa using hm
  | cons t b ih =>
    intro m n hb hm
    have ht := withinB_iff.1 (hb t (by simp))
    have ho := oldH_bd (100000 * n) (by omega) t.s m fun p hp => (hm p hp).2
    have := ih (gstep l m t) (n + 1) (fun u hu => hb u (by simp [hu])) (by
      intro p hp
      rcases mem_updH _ _ _ _ hp with rfl | hp
      · simp only [true_and]; omega
      · have := hm p hp; exact ⟨this.1, by omega⟩)
    intro p hp
    have := this p hp
    simp only [List.length_cons]
    exact ⟨this.1, by omega⟩
end Go.Proofs.Ytoiggflhfbfiiaa
