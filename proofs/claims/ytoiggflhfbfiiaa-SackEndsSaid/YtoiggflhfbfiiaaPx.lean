/- Plain: the reference's answers are the program's. -/
import Derived.Test.YtoiggflhfbfiiaaPw
import Derived.Test.YtoiggflhfbfiiaaU8
namespace Go.Proofs.Ytoiggflhfbfiiaa

variable {l : List Sack} {b : List Take}
theorem zero_adds {g : St → Int} {X : Cor → Int} (hX : ∀ m w c t, g ⟨m, w, c, t⟩ = m * X ⟨w, c, t⟩) (s : Sack) : ((Held.mk s ⟨0, 0⟩).adds g).least = 0 ∧ ((Held.mk s ⟨0, 0⟩).adds g).most = 0 := by
  refine adds_eq hX (fun t ht => ?_) ⟨_, List.mem_cons_self, .inl (by simp)⟩ (fun x _ => by simp) ⟨_, List.mem_cons_self, .inl (by simp)⟩ (fun x _ => by simp)
  simp only [Held.corners, Span.ends, List.mem_flatMap, List.mem_map, List.mem_cons, List.not_mem_nil, or_false, or_self] at ht
  obtain ⟨a, rfl, w, hw, c, hc, v, hv, rfl⟩ := ht
  rw [hX]
  simp
/-- Sums over what was gathered, sack by sack. -/
theorem together_is (hv : validB l b = true) {g : St → Int} {X : Cor → Int} (hX : ∀ m w c t, g ⟨m, w, c, t⟩ = m * X ⟨w, c, t⟩) (LO HI : Nat → Int) (h : ∀ i (hi : i < l.length), ((Held.mk l[i] (weightR b i)).adds g).least = LO i ∧ ((Held.mk l[i] (weightR b i)).adds g).most = HI i) :
    (together (heldsOf l b) g).least = sumTo LO l.length ∧ (together (heldsOf l b) g).most = sumTo HI l.length := by
  have hb := validB_take hv
  have t := together_sum g (gather l b)
  have s1 := sum_held (F := fun h => (h.adds g).least) (fun s => (zero_adds hX s).1) b hb
  have s2 := sum_held (F := fun h => (h.adds g).most) (fun s => (zero_adds hX s).2) b hb
  have c1 : sumTo (fun i => ((Held.mk (sackAt l i) (weightR b i)).adds g).least) l.length = sumTo LO l.length := sumTo_congr _ fun i hi => by rw [sackAt_nat hi]; exact (h i hi).1
  have c2 : sumTo (fun i => ((Held.mk (sackAt l i) (weightR b i)).adds g).most) l.length = sumTo HI l.length := sumTo_congr _ fun i hi => by rw [sackAt_nat hi]; exact (h i hi).2
  have e : heldsOf l b = (gather l b).map (·.2) := rfl
  rw [e, t.1, t.2, s1, s2]
  exact ⟨c1, c2⟩
theorem held_ok (hv : validB l b = true) (i : Nat) (hi : i < l.length) : (Held.mk l[i] (weightR b i)).ok := by
  obtain ⟨p1, p2, p3, p4, p5, p6, p7⟩ := valid_parts hv
  have h := weightR_bd i b p4
  exact ⟨p3 _ (List.getElem_mem hi), h.1, h.2.1, by simp only; omega⟩

theorem fold_char (X : Cor → Int) : ∀ (l : List Cor) (a b : Int), ((l.foldl (fun m c => min m (X c)) a = a ∨ ∃ x ∈ l, l.foldl (fun m c => min m (X c)) a = X x) ∧ l.foldl (fun m c => min m (X c)) a ≤ a ∧ ∀ x ∈ l, l.foldl (fun m c => min m (X c)) a ≤ X x) ∧
    ((l.foldl (fun m c => max m (X c)) b = b ∨ ∃ x ∈ l, l.foldl (fun m c => max m (X c)) b = X x) ∧ b ≤ l.foldl (fun m c => max m (X c)) b ∧ ∀ x ∈ l, X x ≤ l.foldl (fun m c => max m (X c)) b)
  | [], a, b => by simp
  | y :: l, a, b => by
    obtain ⟨⟨i1, i2, i3⟩, i4, i5, i6⟩ := fold_char X l (min a (X y)) (max b (X y))
    simp only [List.foldl_cons]
    generalize List.foldl (fun m c => min m (X c)) (min a (X y)) l = u at i1 i2 i3 ⊢
    generalize List.foldl (fun m c => max m (X c)) (max b (X y)) l = v at i4 i5 i6 ⊢
    have b2 : u ≤ a ∧ u ≤ X y := by clear i1 i4 i3 i6; omega
    have b5 : b ≤ v ∧ X y ≤ v := by clear i1 i4 i3 i6; omega
    refine ⟨⟨?_, b2.1, ?_⟩, ?_, b5.1, ?_⟩
    · rcases i1 with i1 | ⟨x, hx, i1⟩
      · by_cases h : a ≤ X y
        · exact .inl (by clear i4 i3 i6; omega)
        · exact .inr ⟨y, by simp, by clear i4 i3 i6; omega⟩
      · exact .inr ⟨x, by simp [hx], i1⟩
    · intro x hx
      rcases List.mem_cons.1 hx with rfl | hx
      · exact b2.2
      · exact i3 x hx
    · rcases i4 with i4 | ⟨x, hx, i4⟩
      · by_cases h : X y ≤ b
        · exact .inl (by clear i1 i3 i6; omega)
        · exact .inr ⟨y, by simp, by clear i1 i3 i6; omega⟩
      · exact .inr ⟨x, by simp [hx], i4⟩
    · intro x hx
      rcases List.mem_cons.1 hx with rfl | hx
      · exact b5.2
      · exact i6 x hx
theorem low_char (X : Cor → Int) (s : Sack) (hX : ∀ x ∈ cornersR s, 0 ≤ X x) : ((∃ x ∈ cornersR s, lowK X s 8 = X x) ∧ ∀ x ∈ cornersR s, lowK X s 8 ≤ X x) ∧ ((∃ x ∈ cornersR s, highK X s 8 = X x) ∧ ∀ x ∈ cornersR s, X x ≤ highK X s 8) := by
  obtain ⟨⟨i1, i2, i3⟩, i4, i5, i6⟩ := fold_char X (cornersR s) (X (corLo s)) 0
  have hc : corLo s ∈ cornersR s := List.mem_cons_self
  have e1 : lowK X s 8 = (cornersR s).foldl (fun m c => min m (X c)) (X (corLo s)) := rfl
  have e2 : highK X s 8 = (cornersR s).foldl (fun m c => max m (X c)) 0 := rfl
  rw [e1, e2]
  refine ⟨⟨?_, i3⟩, ?_, i6⟩
  · rcases i1 with i1 | i1
    · exact ⟨_, hc, i1⟩
    · exact i1
  · rcases i4 with i4 | i4
    · have h1 := i6 _ hc
      have h2 := hX _ hc
      exact ⟨_, hc, by omega⟩
    · exact i4
theorem part_eq (hv : validB l b = true) (k : Nat) : partR l b k = partOf l b k := by
  obtain ⟨p1, p2, p3, p4, p5, p6, p7⟩ := valid_parts hv
  have h := together_is hv (g := partG k) (X := kindX k) (fun m w c t => partG_of k m w c t) (partLo l b k) (partHi l b k) fun i hi => by
    have hok := held_ok hv i hi
    have hs := p3 _ (List.getElem_mem hi)
    have hx : ∀ x ∈ cornersR l[i], 0 ≤ kindX k x := fun x hx => (kindX_bd k (cornersR_ok hs x hx)).1
    obtain ⟨⟨⟨x, hx1, hx2⟩, hx3⟩, ⟨y, hy1, hy2⟩, hy3⟩ := low_char (kindX k) l[i] hx
    have hw := weightR_bd i b p4
    unfold partLo partHi
    rw [sackAt_nat hi]
    generalize weightR b i = m at hok hw
    refine adds_eq (fun m w c t => partG_of k m w c t) (fun t ht => by have := partG_bd k t (Held.corner_ok hok t ht); omega) ⟨x, hx1, .inl (by rw [hx2])⟩ (fun z hz => ?_) ⟨y, hy1, .inr (by rw [hy2])⟩ (fun z hz => ?_)
    · have a := hx3 z hz
      have c0 : 0 ≤ lowK (kindX k) l[i] 8 := by rw [hx2]; exact hx x hx1
      have a1 := Int.mul_le_mul_of_nonneg_left a hw.1
      have a2 := Int.mul_le_mul_of_nonneg_right hw.2.1 (hx z hz)
      omega
    · have a := hy3 z hz
      have a1 := Int.mul_le_mul_of_nonneg_left a (show 0 ≤ m.hi by omega)
      have a2 := Int.mul_le_mul_of_nonneg_right hw.2.1 (hx z hz)
      omega
  simp only [partR, partOf, gramsOf, h.1, h.2]
theorem bLow_fold (m : Span) (n : Int) (s : Sack) : bLowK m n s 8 = (cornersR s).foldl (fun a c => min a (min (m.lo * overX n c) (m.hi * overX n c))) (min (m.lo * overX n (corLo s)) (m.hi * overX n (corLo s))) := by
  simp [bLowK, bLow, cornersR, corLo]
theorem bHigh_fold (m : Span) (n : Int) (s : Sack) : bHighK m n s 8 = (cornersR s).foldl (fun a c => max a (max (m.lo * overX n c) (m.hi * overX n c))) (max (m.lo * overX n (corLo s)) (m.hi * overX n (corLo s))) := by
  simp [bHighK, bHigh, cornersR, corLo]
theorem min_or (a b : Int) : (min a b = a ∨ min a b = b) ∧ min a b ≤ a ∧ min a b ≤ b := by omega
theorem max_or (a b : Int) : (max a b = a ∨ max a b = b) ∧ a ≤ max a b ∧ b ≤ max a b := by omega
theorem over_eq (hv : validB l b = true) {n : Int} (h0 : 0 ≤ n) (h1 : n ≤ 1000) : (together (heldsOf l b) (carbonOver n)).least = sumTo (overLo l b n) l.length ∧ (together (heldsOf l b) (carbonOver n)).most = sumTo (overHi l b n) l.length := by
  obtain ⟨p1, p2, p3, p4, p5, p6, p7⟩ := valid_parts hv
  have hX : ∀ m w c t, carbonOver n ⟨m, w, c, t⟩ = m * overX n ⟨w, c, t⟩ := fun m w c t => by
    have p1 := partG_of 1 m w c t
    have p4 := partG_of 4 m w c t
    simp only [partG] at p1 p4
    simp only [carbonOver, p1, p4, kindX, overX]
    grind
  refine together_is hv hX (overLo l b n) (overHi l b n) fun i hi => ?_
  have hok := held_ok hv i hi
  unfold overLo overHi
  rw [sackAt_nat hi]
  generalize weightR b i = m at hok
  have hc : corLo l[i] ∈ cornersR l[i] := List.mem_cons_self
  obtain ⟨⟨i1, i2, i3⟩, -⟩ := fold_char (fun c => min (m.lo * overX n c) (m.hi * overX n c)) (cornersR l[i]) (min (m.lo * overX n (corLo l[i])) (m.hi * overX n (corLo l[i]))) 0
  obtain ⟨-, i4, i5, i6⟩ := fold_char (fun c => max (m.lo * overX n c) (m.hi * overX n c)) (cornersR l[i]) 0 (max (m.lo * overX n (corLo l[i])) (m.hi * overX n (corLo l[i])))
  rw [← bLow_fold] at i1 i2 i3
  rw [← bHigh_fold] at i4 i5 i6
  refine adds_eq hX (fun t ht => by have := carbonOver_bd (Held.corner_ok hok t ht) h0 h1; omega) ?_ (fun x hx => ?_) ?_ (fun x hx => ?_)
  · have : ∃ x ∈ cornersR l[i], bLowK m n l[i] 8 = min (m.lo * overX n x) (m.hi * overX n x) := by
      rcases i1 with e | e
      · exact ⟨_, hc, e⟩
      · exact e
    obtain ⟨x, hx, e⟩ := this
    rw [e]
    rcases (min_or (m.lo * overX n x) (m.hi * overX n x)).1 with h | h
    · exact ⟨x, hx, .inl h⟩
    · exact ⟨x, hx, .inr h⟩
  · have a := i3 x hx
    have c := (min_or (m.lo * overX n x) (m.hi * overX n x)).2
    exact ⟨Int.le_trans a c.1, Int.le_trans a c.2⟩
  · have : ∃ x ∈ cornersR l[i], bHighK m n l[i] 8 = max (m.lo * overX n x) (m.hi * overX n x) := by
      rcases i4 with e | e
      · exact ⟨_, hc, e⟩
      · exact e
    obtain ⟨x, hx, e⟩ := this
    rw [e]
    rcases (max_or (m.lo * overX n x) (m.hi * overX n x)).1 with h | h
    · exact ⟨x, hx, .inl h⟩
    · exact ⟨x, hx, .inr h⟩
  · have a := i6 x hx
    have c := (max_or (m.lo * overX n x) (m.hi * overX n x)).2
    exact ⟨Int.le_trans c.1 a, Int.le_trans c.2 a⟩
theorem lack_eq (hv : validB l b = true) {n : Int} (h0 : 0 ≤ n) (h1 : n ≤ 1000) : (together (heldsOf l b) (waterLack n)).least = sumTo (lackLo l b n) l.length ∧ (together (heldsOf l b) (waterLack n)).most = sumTo (lackHi l b n) l.length := by
  obtain ⟨p1, p2, p3, p4, p5, p6, p7⟩ := valid_parts hv
  have hX : ∀ m w c t, waterLack n ⟨m, w, c, t⟩ = m * (fun x : Cor => n - x.w) ⟨w, c, t⟩ := fun m w c t => rfl
  refine together_is hv (X := fun x : Cor => n - x.w) hX (lackLo l b n) (lackHi l b n) fun i hi => ?_
  have hok := held_ok hv i hi
  have hs := p3 _ (List.getElem_mem hi)
  simp only [sackOk, Bool.and_eq_true, withinB_iff] at hs
  unfold lackLo lackHi
  rw [sackAt_nat hi]
  have hw := weightR_bd i b p4
  generalize weightR b i = m at hok hw
  generalize l[i] = s at hok hs
  have key : ∀ x ∈ cornersR s, (m.lo * (n - s.w.hi) ≤ m.lo * (n - x.w) ∧ m.hi * (n - s.w.hi) ≤ m.hi * (n - x.w)) ∧ (m.lo * (n - x.w) ≤ m.lo * (n - s.w.lo) ∧ m.hi * (n - x.w) ≤ m.hi * (n - s.w.lo)) := fun x hx => by
    obtain ⟨h1, -, -⟩ := mem_cornersR.1 hx
    have a1 : n - s.w.hi ≤ n - x.w := by omega
    have a2 : n - x.w ≤ n - s.w.lo := by omega
    exact ⟨⟨Int.mul_le_mul_of_nonneg_left a1 hw.1, Int.mul_le_mul_of_nonneg_left a1 (by omega)⟩, Int.mul_le_mul_of_nonneg_left a2 hw.1, Int.mul_le_mul_of_nonneg_left a2 (by omega)⟩
  have c1 : (⟨s.w.hi, s.c.lo, s.l.lo⟩ : Cor) ∈ cornersR s := mem_cornersR.2 ⟨.inr rfl, .inl rfl, .inl rfl⟩
  have c2 : (⟨s.w.lo, s.c.lo, s.l.lo⟩ : Cor) ∈ cornersR s := mem_cornersR.2 ⟨.inl rfl, .inl rfl, .inl rfl⟩
  refine adds_eq (X := fun x : Cor => n - x.w) hX (fun t ht => by have := waterLack_bd (Held.corner_ok hok t ht) h0 h1; omega) ⟨_, c1, (min_or _ _).1⟩ (fun x hx => ?_) ⟨_, c2, (max_or _ _).1⟩ (fun x hx => ?_)
  · have a := (key x hx).1
    have c := (min_or (m.lo * (n - s.w.hi)) (m.hi * (n - s.w.hi))).2
    exact ⟨Int.le_trans c.1 a.1, Int.le_trans c.2 a.2⟩
  · have a := (key x hx).2
    have c := (max_or (m.lo * (n - s.w.lo)) (m.hi * (n - s.w.lo))).2
    exact ⟨Int.le_trans a.1 c.1, Int.le_trans a.2 c.2⟩
theorem water_eq (hv : validB l b = true) {wl wh : Int} (hw : withinB ⟨wl, wh⟩ 0 999 = true) : waterRLo l b wl = max (waterLo (heldsOf l b) wl) 0 ∧ waterRHi l b wh = min (waterHi (heldsOf l b) wh) 1073741824 := by
  obtain ⟨w1, w2, w3⟩ := withinB_iff.1 hw
  simp only at w1 w2 w3
  have a := (lack_eq hv w1 (by omega)).2
  have c := (lack_eq hv (show 0 ≤ wh by omega) (by omega)).1
  simp only [waterRLo, waterRHi, waterLo, waterHi, a, c]
  exact ⟨Int.max_comm _ _, Int.min_comm _ _⟩
theorem shLo_is {r : Nat} : ∀ n : Nat, (∀ i : Nat, i < n → (0 ≤ sumTo (overLo l b i) l.length ↔ i ≤ r)) → shLo l b n = if n ≤ r then ((n - 1 : Nat) : Int) else r
  | 0, _ => by simp [shLo]
  | n + 1, h => by
    have i := shLo_is n fun i hi => h i (by omega)
    have hn := h n (by omega)
    simp only [shLo]
    by_cases e : n ≤ r
    · rw [if_pos (hn.2 e)]
      split <;> omega
    · rw [if_neg (fun hh => e (hn.1 hh)), i]
      split <;> split <;> omega
theorem shHi_is {r : Nat} (hr : r ≤ 1000) : ∀ n : Nat, (∀ i : Nat, i < n → (sumTo (overHi l b i) l.length ≤ 0 ↔ r ≤ i)) → shHi l b n = if n ≤ r then 1000 else r
  | 0, _ => by simp [shHi]
  | n + 1, h => by
    have i := shHi_is hr n fun i hi => h i (by omega)
    have hn := h n (by omega)
    simp only [shHi]
    by_cases e : r ≤ n
    · rw [if_pos (hn.2 e), i]
      split <;> split <;> omega
    · rw [if_neg (fun hh => e (hn.1 hh)), i]
      split <;> split <;> omega
theorem together_ge {hs : List Held} {g : St → Int} (hl : ∀ h ∈ hs, h.ok) (hg : ∀ t : St, t.ok → -9000000000000000000 ≤ g t ∧ g t ≤ 9000000000000000000) (h0 : ∀ t : St, t.ok → 0 ≤ g t) : 0 ≤ (together hs g).least := by
  induction hs with
  | nil => simp [together]
  | cons h hs ih =>
    have i := ih fun x hx => hl x (by simp [hx])
    have := adds_ge (hl h (by simp)) hg h0
    have := together_cons h hs g
    omega
theorem together_le {hs : List Held} {g : St → Int} (hl : ∀ h ∈ hs, h.ok) (hg : ∀ t : St, t.ok → -9000000000000000000 ≤ g t ∧ g t ≤ 9000000000000000000) (h0 : ∀ t : St, t.ok → g t ≤ 0) : (together hs g).most ≤ 0 := by
  induction hs with
  | nil => simp [together]
  | cons h hs ih =>
    have i := ih fun x hx => hl x (by simp [hx])
    have := adds_le (hl h (by simp)) hg h0
    have := together_cons h hs g
    omega
theorem share_eq (hv : validB l b = true) : shareR l b = shareOf (heldsOf l b) := by
  have hok := helds_ok hv
  have hbd : ∀ n : Int, 0 ≤ n → n ≤ 1000 → ∀ t : St, t.ok → -9000000000000000000 ≤ carbonOver n t ∧ carbonOver n t ≤ 9000000000000000000 := fun n h0 h1 t ht => by have := carbonOver_bd ht h0 h1; omega
  obtain ⟨f1, f2, f3, f4⟩ := firstOf_spec (loP (heldsOf l b)) 1000
  obtain ⟨g1, g2, g3, g4⟩ := firstOf_spec (hiP (heldsOf l b)) 1000
  obtain ⟨r, hr⟩ : ∃ r : Nat, firstOf 1000 (loP (heldsOf l b)) = r := ⟨(firstOf 1000 (loP (heldsOf l b))).toNat, by omega⟩
  obtain ⟨q, hq⟩ : ∃ q : Nat, firstOf 1000 (hiP (heldsOf l b)) = q := ⟨(firstOf 1000 (hiP (heldsOf l b))).toNat, by omega⟩
  rw [hr] at f1 f2 f3 f4
  rw [hq] at g1 g2 g3 g4
  have a := shLo_is (l := l) (b := b) (r := r) 1001 fun i hi => by
    rw [← (over_eq hv (show 0 ≤ (i : Int) by omega) (by omega)).1]
    constructor
    · intro h
      refine Decidable.byContradiction fun hn => ?_
      have x := f4 (by omega)
      have y := loP_mono hok (show (r : Int) ≤ (i : Int) - 1 by omega) x
      simp only [loP, decide_eq_true_eq, Int.sub_add_cancel] at y
      omega
    · intro h
      by_cases e : i = 0
      · subst e
        exact together_ge hok (hbd 0 (by omega) (by omega)) fun t ht => over_zero ht
      · have x := f3 ((i : Int) - 1) (by omega) (by omega)
        simp only [loP, decide_eq_false_iff_not, Int.sub_add_cancel] at x
        omega
  have c := shHi_is (l := l) (b := b) (r := q) (by omega) 1001 fun i hi => by
    rw [← (over_eq hv (show 0 ≤ (i : Int) by omega) (by omega)).2]
    constructor
    · intro h
      refine Decidable.byContradiction fun hn => ?_
      have x := g3 i (by omega) (by omega)
      simp only [hiP, decide_eq_false_iff_not] at x
      omega
    · intro h
      by_cases e : q < 1000
      · have x := g4 (by omega)
        have y := hiP_mono hok (show (q : Int) ≤ i by omega) x
        simpa only [hiP, decide_eq_true_eq] using y
      · have : i = 1000 := by omega
        subst this
        exact together_le hok (hbd 1000 (by omega) (by omega)) fun t ht => over_full ht
  rw [if_neg (by omega)] at a c
  show (⟨shLo l b 1001, shHi l b 1001⟩ : Span) = ⟨firstOf 1000 (loP (heldsOf l b)), firstOf 1000 (hiP (heldsOf l b))⟩
  rw [a, c, hr, hq]
end Go.Proofs.Ytoiggflhfbfiiaa
