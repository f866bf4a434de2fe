/- Plain: what is true of a batch lies between the corners. -/
import Derived.Test.YtoiggflhfbfiiaaPm
namespace Go.Proofs.Ytoiggflhfbfiiaa

structure Cor where
  w : Int
  c : Int
  s : Int

/-- A measure that is straight along each number. -/
structure Aff (g : St → Int) : Prop where
  m : ∀ w c s : Int, ∃ a b : Int, ∀ m, g ⟨m, w, c, s⟩ = a + b * m
  w : ∀ m c s : Int, ∃ a b : Int, ∀ w, g ⟨m, w, c, s⟩ = a + b * w
  c : ∀ m w s : Int, ∃ a b : Int, ∀ c, g ⟨m, w, c, s⟩ = a + b * c
  s : ∀ m w c : Int, ∃ a b : Int, ∀ s, g ⟨m, w, c, s⟩ = a + b * s
theorem aff_ge {f : Int → Int} (h : ∃ a b : Int, ∀ x, f x = a + b * x) {L lo hi x : Int} (h1 : L ≤ f lo) (h2 : L ≤ f hi) (h3 : lo ≤ x) (h4 : x ≤ hi) : L ≤ f x := by
  obtain ⟨a, b, hf⟩ := h
  rw [hf] at h1 h2 ⊢
  rcases Int.le_total 0 b with hb | hb
  · have := Int.mul_le_mul_of_nonneg_left h3 hb; omega
  · have := Int.mul_le_mul_of_nonpos_left hb h4; omega
theorem aff_le {f : Int → Int} (h : ∃ a b : Int, ∀ x, f x = a + b * x) {L lo hi x : Int} (h1 : f lo ≤ L) (h2 : f hi ≤ L) (h3 : lo ≤ x) (h4 : x ≤ hi) : f x ≤ L := by
  obtain ⟨a, b, hf⟩ := h
  rw [hf] at h1 h2 ⊢
  rcases Int.le_total 0 b with hb | hb
  · have := Int.mul_le_mul_of_nonneg_left h4 hb; omega
  · have := Int.mul_le_mul_of_nonpos_left hb h3; omega
def Span.has (s : Span) (x : Int) : Prop := s.lo ≤ x ∧ x ≤ s.hi
theorem corner_mem {h : Held} {m w c s : Int} (hm : m = h.weight.lo ∨ m = h.weight.hi) (hw : w = h.sack.w.lo ∨ w = h.sack.w.hi) (hc : c = h.sack.c.lo ∨ c = h.sack.c.hi) (hs : s = h.sack.l.lo ∨ s = h.sack.l.hi) : (⟨m, w, c, s⟩ : St) ∈ h.corners := by
  simp only [Held.corners, Span.ends, List.mem_flatMap, List.mem_map, List.mem_cons, List.not_mem_nil, or_false]
  exact ⟨m, hm, w, hw, c, hc, s, hs, rfl⟩
theorem box_ge {g : St → Int} (hg : Aff g) {h : Held} {L : Int} (hL : ∀ t ∈ h.corners, L ≤ g t) {m w c s : Int} (hm : h.weight.has m) (hw : h.sack.w.has w) (hc : h.sack.c.has c) (hs : h.sack.l.has s) : L ≤ g ⟨m, w, c, s⟩ := by
  have k1 : ∀ m w c s : Int, (m = h.weight.lo ∨ m = h.weight.hi) → (w = h.sack.w.lo ∨ w = h.sack.w.hi) → (c = h.sack.c.lo ∨ c = h.sack.c.hi) → h.sack.l.has s → L ≤ g ⟨m, w, c, s⟩ := fun m w c s a1 a2 a3 a4 =>
    aff_ge (f := fun s => g ⟨m, w, c, s⟩) (hg.s m w c) (hL _ (corner_mem a1 a2 a3 (.inl rfl))) (hL _ (corner_mem a1 a2 a3 (.inr rfl))) a4.1 a4.2
  have k2 : ∀ m w c s : Int, (m = h.weight.lo ∨ m = h.weight.hi) → (w = h.sack.w.lo ∨ w = h.sack.w.hi) → h.sack.c.has c → h.sack.l.has s → L ≤ g ⟨m, w, c, s⟩ := fun m w c s a1 a2 a3 a4 =>
    aff_ge (f := fun c => g ⟨m, w, c, s⟩) (hg.c m w s) (k1 _ _ _ _ a1 a2 (.inl rfl) a4) (k1 _ _ _ _ a1 a2 (.inr rfl) a4) a3.1 a3.2
  have k3 : ∀ m w c s : Int, (m = h.weight.lo ∨ m = h.weight.hi) → h.sack.w.has w → h.sack.c.has c → h.sack.l.has s → L ≤ g ⟨m, w, c, s⟩ := fun m w c s a1 a2 a3 a4 =>
    aff_ge (f := fun w => g ⟨m, w, c, s⟩) (hg.w m c s) (k2 _ _ _ _ a1 (.inl rfl) a3 a4) (k2 _ _ _ _ a1 (.inr rfl) a3 a4) a2.1 a2.2
  exact aff_ge (f := fun m => g ⟨m, w, c, s⟩) (hg.m w c s) (k3 _ _ _ _ (.inl rfl) hw hc hs) (k3 _ _ _ _ (.inr rfl) hw hc hs) hm.1 hm.2
theorem box_le {g : St → Int} (hg : Aff g) {h : Held} {L : Int} (hL : ∀ t ∈ h.corners, g t ≤ L) {m w c s : Int} (hm : h.weight.has m) (hw : h.sack.w.has w) (hc : h.sack.c.has c) (hs : h.sack.l.has s) : g ⟨m, w, c, s⟩ ≤ L := by
  have k1 : ∀ m w c s : Int, (m = h.weight.lo ∨ m = h.weight.hi) → (w = h.sack.w.lo ∨ w = h.sack.w.hi) → (c = h.sack.c.lo ∨ c = h.sack.c.hi) → h.sack.l.has s → g ⟨m, w, c, s⟩ ≤ L := fun m w c s a1 a2 a3 a4 =>
    aff_le (f := fun s => g ⟨m, w, c, s⟩) (hg.s m w c) (hL _ (corner_mem a1 a2 a3 (.inl rfl))) (hL _ (corner_mem a1 a2 a3 (.inr rfl))) a4.1 a4.2
  have k2 : ∀ m w c s : Int, (m = h.weight.lo ∨ m = h.weight.hi) → (w = h.sack.w.lo ∨ w = h.sack.w.hi) → h.sack.c.has c → h.sack.l.has s → g ⟨m, w, c, s⟩ ≤ L := fun m w c s a1 a2 a3 a4 =>
    aff_le (f := fun c => g ⟨m, w, c, s⟩) (hg.c m w s) (k1 _ _ _ _ a1 a2 (.inl rfl) a4) (k1 _ _ _ _ a1 a2 (.inr rfl) a4) a3.1 a3.2
  have k3 : ∀ m w c s : Int, (m = h.weight.lo ∨ m = h.weight.hi) → h.sack.w.has w → h.sack.c.has c → h.sack.l.has s → g ⟨m, w, c, s⟩ ≤ L := fun m w c s a1 a2 a3 a4 =>
    aff_le (f := fun w => g ⟨m, w, c, s⟩) (hg.w m c s) (k2 _ _ _ _ a1 (.inl rfl) a3 a4) (k2 _ _ _ _ a1 (.inr rfl) a3 a4) a2.1 a2.2
  exact aff_le (f := fun m => g ⟨m, w, c, s⟩) (hg.m w c s) (k3 _ _ _ _ (.inl rfl) hw hc hs) (k3 _ _ _ _ (.inr rfl) hw hc hs) hm.1 hm.2

/-- How much of a kind there is in a part of a gram. -/
def ofN : Nat → Int → Int → Int → Int
  | 0, w, _, _ => w * 1000 * 1000
  | 1, w, c, _ => (1000 - w) * c * 1000
  | 2, w, c, s => (1000 - w) * (1000 - c) * s
  | 3, w, c, s => (1000 - w) * (1000 - c) * (1000 - s)
  | _, w, c, s => (1000 - w) * c * 1000 + (1000 - w) * (1000 - c) * (1000 - s)
theorem partG_of (k : Nat) (m w c s : Int) : partG k ⟨m, w, c, s⟩ = m * ofN k w c s := by
  match k with
  | 0 => simp only [partG, ofN, St.water]; grind
  | 1 => simp only [partG, ofN, St.carbon, St.dry]; grind
  | 2 => simp only [partG, ofN, St.smoke, St.dry]; grind
  | 3 => simp only [partG, ofN, St.clay, St.dry]; grind
  | n + 4 => simp only [partG, ofN, St.lead, St.carbon, St.clay, St.dry]; grind
theorem aff_part (k : Nat) : Aff (partG k) := by
  match k with
  | 0 => exact ⟨fun w c s => ⟨0, w * 1000000, fun m => by simp only [partG, St.water]; grind⟩, fun m c s => ⟨0, m * 1000000, fun w => by simp only [partG, St.water]; grind⟩, fun m w s => ⟨m * w * 1000000, 0, fun c => by simp only [partG, St.water]; grind⟩, fun m w c => ⟨m * w * 1000000, 0, fun s => by simp only [partG, St.water]; grind⟩⟩
  | 1 => exact ⟨fun w c s => ⟨0, (1000 - w) * c * 1000, fun m => by simp only [partG, St.carbon, St.dry]; grind⟩, fun m c s => ⟨m * 1000 * c * 1000, -(m * c * 1000), fun w => by simp only [partG, St.carbon, St.dry]; grind⟩, fun m w s => ⟨0, m * (1000 - w) * 1000, fun c => by simp only [partG, St.carbon, St.dry]; grind⟩, fun m w c => ⟨m * (1000 - w) * c * 1000, 0, fun s => by simp only [partG, St.carbon, St.dry]; grind⟩⟩
  | 2 => exact ⟨fun w c s => ⟨0, (1000 - w) * (1000 - c) * s, fun m => by simp only [partG, St.smoke, St.dry]; grind⟩, fun m c s => ⟨m * 1000 * (1000 - c) * s, -(m * (1000 - c) * s), fun w => by simp only [partG, St.smoke, St.dry]; grind⟩, fun m w s => ⟨m * (1000 - w) * 1000 * s, -(m * (1000 - w) * s), fun c => by simp only [partG, St.smoke, St.dry]; grind⟩, fun m w c => ⟨0, m * (1000 - w) * (1000 - c), fun s => by simp only [partG, St.smoke, St.dry]; grind⟩⟩
  | 3 => exact ⟨fun w c s => ⟨0, (1000 - w) * (1000 - c) * (1000 - s), fun m => by simp only [partG, St.clay, St.dry]; grind⟩, fun m c s => ⟨m * 1000 * (1000 - c) * (1000 - s), -(m * (1000 - c) * (1000 - s)), fun w => by simp only [partG, St.clay, St.dry]; grind⟩, fun m w s => ⟨m * (1000 - w) * 1000 * (1000 - s), -(m * (1000 - w) * (1000 - s)), fun c => by simp only [partG, St.clay, St.dry]; grind⟩, fun m w c => ⟨m * (1000 - w) * (1000 - c) * 1000, -(m * (1000 - w) * (1000 - c)), fun s => by simp only [partG, St.clay, St.dry]; grind⟩⟩
  | n + 4 =>
    refine ⟨fun w c s => ⟨0, (1000 - w) * c * 1000 + (1000 - w) * (1000 - c) * (1000 - s), fun m => ?_⟩, fun m c s => ⟨m * 1000 * c * 1000 + m * 1000 * (1000 - c) * (1000 - s), -(m * c * 1000) - m * (1000 - c) * (1000 - s), fun w => ?_⟩,
      fun m w s => ⟨m * (1000 - w) * 1000 * (1000 - s), m * (1000 - w) * 1000 - m * (1000 - w) * (1000 - s), fun c => ?_⟩, fun m w c => ⟨m * (1000 - w) * c * 1000 + m * (1000 - w) * (1000 - c) * 1000, -(m * (1000 - w) * (1000 - c)), fun s => ?_⟩⟩ <;>
    · simp only [partG, St.lead, St.carbon, St.clay, St.dry]; grind
theorem aff_lin {g g' : St → Int} (h : Aff g) (h' : Aff g') (x y : Int) : Aff fun t => x * g t - y * g' t := by
  refine ⟨fun w c s => ?_, fun m c s => ?_, fun m w s => ?_, fun m w c => ?_⟩
  · obtain ⟨a, b, e⟩ := h.m w c s; obtain ⟨a', b', e'⟩ := h'.m w c s
    exact ⟨x * a - y * a', x * b - y * b', fun m => by rw [e, e']; grind⟩
  · obtain ⟨a, b, e⟩ := h.w m c s; obtain ⟨a', b', e'⟩ := h'.w m c s
    exact ⟨x * a - y * a', x * b - y * b', fun m => by rw [e, e']; grind⟩
  · obtain ⟨a, b, e⟩ := h.c m w s; obtain ⟨a', b', e'⟩ := h'.c m w s
    exact ⟨x * a - y * a', x * b - y * b', fun m => by rw [e, e']; grind⟩
  · obtain ⟨a, b, e⟩ := h.s m w c; obtain ⟨a', b', e'⟩ := h'.s m w c
    exact ⟨x * a - y * a', x * b - y * b', fun m => by rw [e, e']; grind⟩
theorem aff_over (n : Int) : Aff (carbonOver n) := aff_lin (aff_part 1) (aff_part 4) 1000 n
theorem aff_lack (n : Int) : Aff (waterLack n) := by
  refine ⟨fun w c s => ⟨0, n - w, fun m => ?_⟩, fun m c s => ⟨m * n, -m, fun w => ?_⟩, fun m w s => ⟨m * (n - w), 0, fun c => ?_⟩, fun m w c => ⟨m * (n - w), 0, fun s => ?_⟩⟩ <;> simp only [waterLack] <;> grind

/-- What is true of all sacks, by their numbers. -/
def Sack.fits (s : Sack) (x : Cor) : Prop := s.w.has x.w ∧ s.c.has x.c ∧ s.l.has x.s
/-- The weights that are true of takes. -/
def fitsW : List Take → List Int → Prop
  | [], [] => True
  | t :: b, x :: ws => t.m.has x ∧ fitsW b ws
  | _, _ => False
/-- The sum over takes of what a gram of each has. -/
def sumOf (X : Cor → Int) (T : Int → Cor) : List Take → List Int → Int
  | t :: b, x :: ws => x * X (T t.s) + sumOf X T b ws
  | _, _ => 0

def upd3 : List (Int × Held × Int) → Int → Held × Int → List (Int × Held × Int)
  | [], k, v => [(k, v)]
  | (a, b) :: l, k, v => if a = k then (a, v) :: l else (a, b) :: upd3 l k v
def old3 : List (Int × Held × Int) → Int → Int
  | [], _ => 0
  | (a, b) :: l, k => if a = k then b.2 else old3 l k
def p3 (m : List (Int × Held × Int)) : List (Int × Held) := m.map fun p => (p.1, p.2.1)
def sum3 (X : Cor → Int) (T : Int → Cor) : List (Int × Held × Int) → Int
  | [] => 0
  | (a, b) :: l => b.2 * X (T a) + sum3 X T l
theorem p3_upd (k : Int) (v : Held × Int) : ∀ m, p3 (upd3 m k v) = updH (p3 m) k v.1
  | [] => rfl
  | (a, b) :: l => by
    have := p3_upd k v l
    unfold upd3 
    simp only [p3, List.map_cons] at this ⊢
    unfold updH
    by_cases h : a = k
    · simp [h]
    · simp [h, this]
theorem sum3_upd (X : Cor → Int) (T : Int → Cor) (k : Int) (v : Held × Int) : ∀ m, sum3 X T (upd3 m k v) = sum3 X T m + (v.2 - old3 m k) * X (T k)
  | [] => by simp [upd3, sum3, old3]
  | (a, b) :: l => by
    have := sum3_upd X T k v l
    unfold upd3 old3
    by_cases h : a = k
    · subst h
      simp only [if_true, sum3]
      grind
    · simp only [h, if_false, sum3, this]
      omega
theorem mem_upd3 (k : Int) (v : Held × Int) : ∀ (m : List (Int × Held × Int)) (p), p ∈ upd3 m k v → p = (k, v) ∨ p ∈ m
  | [], p, h => by simp [upd3] at h; exact .inl h
  | (a, b) :: l, p, h => by
    unfold upd3 at h
    split at h
    · rename_i e
      subst e
      simp at h
      rcases h with rfl | h
      · exact .inl rfl
      · exact .inr (by simp [h])
    · simp at h
      rcases h with rfl | h
      · exact .inr (by simp)
      · rcases mem_upd3 k v l p h with h | h
        · exact .inl h
        · exact .inr (by simp [h])
theorem old3_in (k : Int) : ∀ m : List (Int × Held × Int), (∀ p ∈ m, p.2.1.weight.has p.2.2) → (oldH (p3 m) k).weight.has (old3 m k)
  | [], _ => by simp [p3, oldH, old3, Span.has]
  | (a, b) :: l, h => by
    have h2 := old3_in k l fun p hp => h p (by simp [hp])
    have h1 := h (a, b) (by simp)
    simp only [p3, List.map_cons] at h2 ⊢
    unfold oldH old3
    by_cases e : a = k
    · simpa [e] using h1
    · simpa [e] using h2
theorem gather3 (l : List Sack) (X : Cor → Int) (T : Int → Cor) : ∀ (b : List Take) (ws : List Int) (m : List (Int × Held × Int)), fitsW b ws → (∀ p ∈ m, p.2.1.weight.has p.2.2) →
    ∃ m', p3 m' = b.foldl (gstep l) (p3 m) ∧ (∀ p ∈ m', p.2.1.weight.has p.2.2) ∧ sum3 X T m' = sum3 X T m + sumOf X T b ws
  | [], [], m, _, hm => ⟨m, rfl, hm, by simp [sumOf]⟩
  | t :: b, x :: ws, m, h, hm => by
    have ho := old3_in t.s m hm
    obtain ⟨m', h1, h2, h3⟩ := gather3 l X T b ws (upd3 m t.s (⟨sackAt l t.s, ⟨(oldH (p3 m) t.s).weight.lo + t.m.lo, (oldH (p3 m) t.s).weight.hi + t.m.hi⟩⟩, old3 m t.s + x)) h.2 (by
      intro p hp
      rcases mem_upd3 _ _ _ _ hp with rfl | hp
      · have := h.1
        simp only [Span.has] at this ho ⊢
        omega
      · exact hm p hp)
    refine ⟨m', ?_, h2, ?_⟩
    · rw [h1, p3_upd]; rfl
    · rw [h3, sum3_upd]
      simp only [sumOf]
      have e : old3 m t.s + x - old3 m t.s = x := by omega
      rw [e]
      omega
  | [], _ :: _, _, h, _ => h.elim
  | _ :: _, [], _, h, _ => h.elim

def tfold (g : St → Int) (l : List Held) (r : Reach) : Reach := l.foldl (fun (r : Reach) (h : Held) => r.plus (h.adds g)) r
theorem plus_fold (g : St → Int) : ∀ (l : List Held) (r : Reach), (tfold g l r).least = r.least + (tfold g l ⟨0, 0⟩).least ∧ (tfold g l r).most = r.most + (tfold g l ⟨0, 0⟩).most
  | [], r => by simp [tfold]
  | h :: l, r => by
    have h1 := plus_fold g l (r.plus (h.adds g))
    have h2 := plus_fold g l (Reach.plus ⟨0, 0⟩ (h.adds g))
    have e : ∀ r, tfold g (h :: l) r = tfold g l (r.plus (h.adds g)) := fun _ => rfl
    rw [e, e, h1.1, h1.2, h2.1, h2.2]
    simp only [Reach.plus]
    omega
theorem together_cons (h : Held) (l : List Held) (g : St → Int) : (together (h :: l) g).least = (h.adds g).least + (together l g).least ∧ (together (h :: l) g).most = (h.adds g).most + (together l g).most := by
  have := plus_fold g l (Reach.plus ⟨0, 0⟩ (h.adds g))
  have e : together (h :: l) g = tfold g l (Reach.plus ⟨0, 0⟩ (h.adds g)) := rfl
  have e2 : together l g = tfold g l ⟨0, 0⟩ := rfl
  rw [e, e2, this.1, this.2]
  simp only [Reach.plus]
  omega
/-- Whatever is true: the sum lies within the reach. -/
theorem true_within {l : List Sack} {b : List Take} {ws : List Int} (hv : validB l b = true) (hW : fitsW b ws) {T : Int → Cor} (hT : ∀ t ∈ b, (sackAt l t.s).fits (T t.s)) {g : St → Int} {X : Cor → Int} (hg : Aff g) (hX : ∀ m w c s, g ⟨m, w, c, s⟩ = m * X ⟨w, c, s⟩)
    (hbd : ∀ t : St, t.ok → -800000000000000000 ≤ g t ∧ g t ≤ 800000000000000000) : (together (heldsOf l b) g).least ≤ sumOf X T b ws ∧ sumOf X T b ws ≤ (together (heldsOf l b) g).most := by
  obtain ⟨m, h1, h2, h3⟩ := gather3 l X T b ws [] hW (by simp)
  have h1' : p3 m = gather l b := h1
  simp only [sum3, Int.zero_add] at h3
  have e : heldsOf l b = m.map fun p => p.2.1 := by
    unfold heldsOf
    rw [← h1']
    simp [p3, Function.comp_def]
  have hok := helds_ok hv
  have hbt : ∀ t ∈ b, withinB t.m 1 100000 = true := fun t ht => by have := validB_take hv t ht; simp only [takeOk, Bool.and_eq_true] at this; exact this.2
  have hk : ∀ p ∈ m, p.2.1.sack.fits (T p.1) := by
    intro p hp
    have hp' : (p.1, p.2.1) ∈ gather l b := by rw [← h1']; exact List.mem_map.2 ⟨p, hp, rfl⟩
    obtain ⟨t, ht, hs⟩ := gather_key l b _ hp'
    have := (gather_bd l b hbt _ hp').1
    simp only at this hs
    rw [this, ← hs]
    exact hT t ht
  rw [e] at hok ⊢
  rw [← h3]
  clear h1 h1' h3 e
  induction m with
  | nil => simp [together, sum3]
  | cons p m ih =>
    have i1 := ih (fun q hq => h2 q (by simp [hq])) (fun q hq => hok q (by simp only [List.map_cons, List.mem_cons]; exact .inr hq)) fun q hq => hk q (by simp [hq])
    have k1 := h2 p (by simp)
    have k2 := hok p.2.1 (by simp)
    obtain ⟨f1, f2, f3⟩ := hk p (by simp)
    obtain ⟨_, c2, _, c4⟩ := adds_char (h := p.2.1) (g := g) (fun t ht => by have := hbd t (Held.corner_ok k2 t ht); omega)
    have x1 := box_ge hg c2 k1 f1 f2 f3
    have x2 := box_le hg c4 k1 f1 f2 f3
    rw [hX] at x1 x2
    have y := together_cons p.2.1 (m.map fun p => p.2.1) g
    simp only [List.map_cons, sum3]
    rw [y.1, y.2]
    have z : X ⟨(T p.1).w, (T p.1).c, (T p.1).s⟩ = X (T p.1) := rfl
    rw [z] at x1 x2
    omega
end Go.Proofs.Ytoiggflhfbfiiaa
