/- Plain: what SackOrder asks of the numbers. -/
import Derived.Test.YtoiggflhfbfiiaaPx
namespace Go.Proofs.Ytoiggflhfbfiiaa

variable {l : List Sack} {b : List Take}
/-- The sums over what was gathered hang on the sacks and on the weights alone. -/
theorem together_weight (hv : validB l b = true) {g : St → Int} {X : Cor → Int} (hX : ∀ m w c t, g ⟨m, w, c, t⟩ = m * X ⟨w, c, t⟩) :
    (together (heldsOf l b) g).least = sumTo (fun i => ((Held.mk (sackAt l i) (weightR b i)).adds g).least) l.length ∧ (together (heldsOf l b) g).most = sumTo (fun i => ((Held.mk (sackAt l i) (weightR b i)).adds g).most) l.length := by
  have hb := validB_take hv
  have t := together_sum g (gather l b)
  have s1 := sum_held (F := fun h => (h.adds g).least) (fun s => (zero_adds hX s).1) b hb
  have s2 := sum_held (F := fun h => (h.adds g).most) (fun s => (zero_adds hX s).2) b hb
  have e : heldsOf l b = (gather l b).map (·.2) := rfl
  rw [e, t.1, t.2, s1, s2]
  exact ⟨rfl, rfl⟩
theorem over_lin (n : Int) : ∀ m w c t, carbonOver n ⟨m, w, c, t⟩ = m * overX n ⟨w, c, t⟩ := fun m w c t => by
  have p1 := partG_of 1 m w c t
  have p4 := partG_of 4 m w c t
  simp only [partG] at p1 p4
  simp only [carbonOver, p1, p4, kindX, overX]
  grind
theorem lack_lin (n : Int) : ∀ m w c t, waterLack n ⟨m, w, c, t⟩ = m * (fun x : Cor => n - x.w) ⟨w, c, t⟩ := fun _ _ _ _ => rfl
theorem same_weight {x : List Take} (hv : validB l b = true) (hx : validB l x = true) (hw : ∀ i : Nat, i < l.length → weightR x i = weightR b i) {g : St → Int} {X : Cor → Int} (hX : ∀ m w c t, g ⟨m, w, c, t⟩ = m * X ⟨w, c, t⟩) : together (heldsOf l x) g = together (heldsOf l b) g := by
  have a := together_weight hv hX
  have c := together_weight hx hX
  have e1 := sumTo_congr (F := fun i => ((Held.mk (sackAt l i) (weightR x i)).adds g).least) (G := fun i => ((Held.mk (sackAt l i) (weightR b i)).adds g).least) l.length fun i hi => by rw [hw i hi]
  have e2 := sumTo_congr (F := fun i => ((Held.mk (sackAt l i) (weightR x i)).adds g).most) (G := fun i => ((Held.mk (sackAt l i) (weightR b i)).adds g).most) l.length fun i hi => by rw [hw i hi]
  have h1 : (together (heldsOf l x) g).least = (together (heldsOf l b) g).least := by rw [a.1, c.1, e1]
  have h2 : (together (heldsOf l x) g).most = (together (heldsOf l b) g).most := by rw [a.2, c.2, e2]
  cases h3 : together (heldsOf l x) g
  cases h4 : together (heldsOf l b) g
  rw [h3, h4] at h1 h2
  simp only at h1 h2
  rw [h1, h2]
/-- Batches of the same weights have the same parts, the same share, and lack the same water. -/
theorem same_all {x : List Take} (hv : validB l b = true) (hx : validB l x = true) (hw : ∀ i : Nat, i < l.length → weightR x i = weightR b i) :
    partOf l x = partOf l b ∧ shareOf (heldsOf l x) = shareOf (heldsOf l b) ∧ (∀ n, waterLo (heldsOf l x) n = waterLo (heldsOf l b) n) ∧ ∀ n, waterHi (heldsOf l x) n = waterHi (heldsOf l b) n := by
  refine ⟨funext fun k => ?_, ?_, fun n => ?_, fun n => ?_⟩
  · simp only [partOf, same_weight hv hx hw (X := kindX k) fun m w c t => partG_of k m w c t]
  · have e1 : loP (heldsOf l x) = loP (heldsOf l b) := funext fun n => by simp only [loP, same_weight hv hx hw (over_lin (n + 1))]
    have e2 : hiP (heldsOf l x) = hiP (heldsOf l b) := funext fun n => by simp only [hiP, same_weight hv hx hw (over_lin n)]
    simp only [shareOf, e1, e2]
  · simp only [waterLo, same_weight hv hx hw (g := waterLack n) (X := fun x : Cor => n - x.w) (lack_lin n)]
  · simp only [waterHi, same_weight hv hx hw (g := waterLack n) (X := fun x : Cor => n - x.w) (lack_lin n)]

theorem addW_comm (i : Int) (o : Span) (t u : Take) : addW i (addW i o t) u = addW i (addW i o u) t := by
  unfold addW
  by_cases h1 : t.s = i <;> by_cases h2 : u.s = i <;> simp only [h1, h2, if_true, if_false, Span.mk.injEq]
  · omega
theorem weightR_perm {x : List Take} (h : List.Perm x b) (i : Int) : weightR x i = weightR b i := by
  unfold weightR
  exact h.foldl_eq' (fun t _ u _ o => addW_comm i o t u) _
theorem weightR_append (x : List Take) (i : Int) : (weightR (b ++ x) i).lo = (weightR b i).lo + (weightR x i).lo ∧ (weightR (b ++ x) i).hi = (weightR b i).hi + (weightR x i).hi := by
  revert x
  refine snoc_ind ?_ ?_
  · simp [weightR]
  · intro x t ih
    rw [← List.append_assoc, take_last, take_last]
    unfold addW
    by_cases h : t.s = i
    · simp only [h, if_true]; omega
    · simp only [h, if_false]; exact ih
theorem all_perm {p : Take → Bool} {x : List Take} (h : List.Perm x b) : x.all p = b.all p := by
  rw [Bool.eq_iff_iff, List.all_eq_true, List.all_eq_true]
  exact ⟨fun hh t ht => hh t (h.mem_iff.2 ht), fun hh t ht => hh t (h.mem_iff.1 ht)⟩
theorem valid_perm {x : List Take} (h : List.Perm x b) (hv : validB l b = true) : validB l x = true := by
  unfold validB at hv ⊢
  rw [all_perm h, h.length_eq]
  exact hv
/-- The takes from some place on, and then those before it. -/
def turnAt (b : List Take) (r i : Nat) : Take := b.getD ((i + r) % b.length) ⟨0, ⟨0, 0⟩⟩
def turned (b : List Take) (r k : Nat) : List Take := (List.range k).map (turnAt b r)
theorem turned_is (b : List Take) (r : Nat) (hb : 0 < b.length) : turned b r b.length = b.drop (r % b.length) ++ b.take (r % b.length) := by
  have hr := Nat.mod_lt r hb
  apply List.ext_getElem
  · simp [turned]; omega
  · intro i h1 h2
    have hi : i < b.length := by simpa [turned] using h1
    simp only [turned, List.getElem_map, List.getElem_range, turnAt]
    have hm : (i + r) % b.length = (i + r % b.length) % b.length := by simp
    rw [hm]
    by_cases h : i + r % b.length < b.length
    · rw [Nat.mod_eq_of_lt h, List.getElem_append_left (by simp; omega), List.getElem_drop]
      simp only [List.getD_eq_getElem?_getD]
      rw [List.getElem?_eq_getElem h, Option.getD_some]
      congr 1
      omega
    · have e : (i + r % b.length) % b.length = i + r % b.length - b.length := by
        rw [Nat.mod_eq_sub_mod (by omega), Nat.mod_eq_of_lt (by omega)]
      rw [e, List.getElem_append_right (by simp; omega), List.getElem_take]
      simp only [List.getD_eq_getElem?_getD]
      rw [List.getElem?_eq_getElem (by omega), Option.getD_some]
      congr 1
      simp
      omega
theorem turned_perm (b : List Take) (r : Nat) (hb : 0 < b.length) : List.Perm (turned b r b.length) b := by
  rw [turned_is b r hb]
  exact List.perm_append_comm.trans (by rw [List.take_append_drop])

/-- One take for each sack, of all that is taken out of it. -/
def oneAt (b : List Take) (i : Nat) : List Take := if 0 < (weightR b i).lo then [⟨i, weightR b i⟩] else []
def oneUpto (b : List Take) : Nat → List Take
  | 0 => []
  | n + 1 => oneUpto b n ++ oneAt b n
theorem weightR_one (b : List Take) (i : Nat) (hb : ∀ t ∈ b, withinB t.m 1 100000 = true) : ∀ n, weightR (oneUpto b n) i = if i < n then weightR b i else ⟨0, 0⟩
  | 0 => by simp [oneUpto, weightR]
  | n + 1 => by
    have ih := weightR_one b i hb n
    rw [oneUpto, oneAt]
    by_cases hp : 0 < (weightR b n).lo
    · rw [if_pos hp, take_last, ih, addW]
      by_cases h : i = n
      · subst h
        simp
      · have h1 : ¬ ((n : Int) = (i : Int)) := by omega
        simp only [h1, if_false]
        by_cases h2 : i < n
        · rw [if_pos h2, if_pos (by omega)]
        · rw [if_neg h2, if_neg (by omega)]
    · rw [if_neg hp, List.append_nil, ih]
      by_cases h : i = n
      · subst h
        simp only [Nat.lt_irrefl, if_false, Nat.lt_succ_self, if_true]
        exact (weight_zero b i hb (by omega)).symm
      · by_cases h2 : i < n
        · rw [if_pos h2, if_pos (by omega)]
        · rw [if_neg h2, if_neg (by omega)]
where
  weight_zero (b : List Take) (i : Int) (hb : ∀ t ∈ b, withinB t.m 1 100000 = true) : (weightR b i).lo ≤ 0 → weightR b i = ⟨0, 0⟩ := by
    revert hb
    revert b
    refine snoc_ind (fun _ _ => rfl) ?_
    intro b t ih hb
    rw [take_last]
    have h1 := weightR_bd i b fun u hu => hb u (by simp [hu])
    have h2 := withinB_iff.1 (hb t (by simp))
    unfold addW
    by_cases h : t.s = i
    · simp only [h, if_true]
      intro hh
      omega
    · simp only [h, if_false]
      exact ih fun u hu => hb u (by simp [hu])
theorem valid_one (hv : validB l b = true) (hle : ∀ i : Nat, i < l.length → (weightR b i).hi ≤ 100000) (hne : oneUpto b l.length ≠ []) : validB l (oneUpto b l.length) = true := by
  obtain ⟨p1, p2, p3, p4, p5, p6, p7⟩ := valid_parts hv
  have hlen : ∀ n, (oneUpto b n).length ≤ n := by
    intro n
    induction n with
    | zero => simp [oneUpto]
    | succ n ih =>
      simp only [oneUpto, oneAt, List.length_append]
      split <;> simp <;> omega
  have hall : ∀ n, n ≤ l.length → ∀ t ∈ oneUpto b n, takeOk l t = true := by
    intro n
    induction n with
    | zero => intro _ t ht; simp [oneUpto] at ht
    | succ n ih =>
      intro hn t ht
      simp only [oneUpto, List.mem_append] at ht
      rcases ht with ht | ht
      · exact ih (by omega) t ht
      · unfold oneAt at ht
        split at ht
        · rename_i hp
          simp only [List.mem_cons, List.not_mem_nil, or_false] at ht
          subst ht
          have h1 := weightR_bd n b p4
          have h2 := hle n (by omega)
          simp only [takeOk, idxB, withinB, Bool.and_eq_true, decide_eq_true_eq]
          omega
        · simp at ht
  rw [validB_split, p1, Bool.true_and, batchB, Bool.and_eq_true, decide_eq_true_eq, List.all_eq_true]
  have := hlen l.length
  have h0 : 0 < (oneUpto b l.length).length := List.length_pos_iff.2 hne
  exact ⟨by omega, fun t ht => hall l.length (Nat.le_refl _) t ht⟩
theorem one_same (hv : validB l b = true) (i : Nat) (hi : i < l.length) : weightR (oneUpto b l.length) i = weightR b i := by
  obtain ⟨p1, p2, p3, p4, p5, p6, p7⟩ := valid_parts hv
  rw [weightR_one b i p4, if_pos hi]

/-- The parts of two batches, and of both together. -/
theorem ediv_add_bd (x y d : Int) (hd : 0 < d) : x / d + y / d ≤ (x + y) / d ∧ (x + y) / d ≤ x / d + y / d + 1 := by
  have h1 := Int.ediv_mul_le x (show d ≠ 0 by omega)
  have h2 := Int.ediv_mul_le y (show d ≠ 0 by omega)
  have h3 := Int.lt_ediv_add_one_mul_self x hd
  have h4 := Int.lt_ediv_add_one_mul_self y hd
  constructor
  · refine (Int.le_ediv_iff_mul_le hd).2 ?_
    rw [Int.add_mul]; omega
  · have : (x + y) / d < x / d + y / d + 2 := by
      refine (Int.ediv_lt_iff_lt_mul hd).2 ?_
      have e : (x / d + y / d + 2) * d = (x / d + 1) * d + (y / d + 1) * d := by
        rw [← Int.add_mul]; congr 1; omega
      omega
    omega
theorem cdiv_add_bd (x y d : Int) (hd : 0 < d) : cdiv (x + y) d ≤ cdiv x d + cdiv y d ∧ cdiv x d + cdiv y d ≤ cdiv (x + y) d + 1 := by
  have := ediv_add_bd (-x) (-y) d hd
  have e : -x + -y = -(x + y) := by omega
  rw [e] at this
  unfold cdiv
  omega
theorem sumTo_add (F G : Nat → Int) : ∀ n, sumTo (fun i => F i + G i) n = sumTo F n + sumTo G n
  | 0 => rfl
  | n + 1 => by simp only [sumTo, sumTo_add F G n]; omega
theorem split_part {x : List Take} (hb : validB l b = true) (hx : validB l x = true) (hbx : validB l (b ++ x) = true) (k : Nat) :
    ((partOf l b k).lo + (partOf l x k).lo ≤ (partOf l (b ++ x) k).lo ∧ (partOf l (b ++ x) k).lo - 1 ≤ (partOf l b k).lo + (partOf l x k).lo) ∧ ((partOf l (b ++ x) k).hi ≤ (partOf l b k).hi + (partOf l x k).hi ∧ (partOf l b k).hi + (partOf l x k).hi ≤ (partOf l (b ++ x) k).hi + 1) := by
  rw [← part_eq hb, ← part_eq hx, ← part_eq hbx]
  have e1 : sumTo (partLo l (b ++ x) k) l.length = sumTo (partLo l b k) l.length + sumTo (partLo l x k) l.length := by
    rw [← sumTo_add]
    refine sumTo_congr _ fun i _ => ?_
    simp only [partLo, (weightR_append (b := b) x i).1]
    exact Int.add_mul _ _ _
  have e2 : sumTo (partHi l (b ++ x) k) l.length = sumTo (partHi l b k) l.length + sumTo (partHi l x k) l.length := by
    rw [← sumTo_add]
    refine sumTo_congr _ fun i _ => ?_
    simp only [partHi, (weightR_append (b := b) x i).2]
    exact Int.add_mul _ _ _
  have h1 := ediv_add_bd (sumTo (partLo l b k) l.length) (sumTo (partLo l x k) l.length) 1000000000 (by omega)
  have h2 := cdiv_add_bd (sumTo (partHi l b k) l.length) (sumTo (partHi l x k) l.length) 1000000000 (by omega)
  simp only [partR, e1, e2]
  omega
theorem valid_take (hv : validB l b = true) (c : Nat) (h0 : 1 ≤ c) (h1 : c < b.length) : validB l (b.take c) = true ∧ validB l (b.drop c) = true := by
  obtain ⟨p1, p2, p3, p4, p5, p6, p7⟩ := valid_parts hv
  have ht := validB_take hv
  constructor
  · rw [validB_split, p1, Bool.true_and, batchB, Bool.and_eq_true, decide_eq_true_eq, List.all_eq_true]
    exact ⟨by simp; omega, fun t h => ht t (List.mem_of_mem_take h)⟩
  · rw [validB_split, p1, Bool.true_and, batchB, Bool.and_eq_true, decide_eq_true_eq, List.all_eq_true]
    exact ⟨by simp; omega, fun t h => ht t (List.mem_of_mem_drop h)⟩

/-- Sacks of which more is known. -/
def Span.within (s t : Span) : Prop := t.lo ≤ s.lo ∧ s.lo ≤ s.hi ∧ s.hi ≤ t.hi
def Sack.within (s t : Sack) : Prop := s.w.within t.w ∧ s.c.within t.c ∧ s.l.within t.l
theorem within_ok {s t : Sack} (h : s.within t) (ht : sackOk t = true) : sackOk s = true := by
  obtain ⟨⟨a1, a2, a3⟩, ⟨b1, b2, b3⟩, c1, c2, c3⟩ := h
  simp only [sackOk, Bool.and_eq_true, withinB_iff] at ht ⊢
  omega
theorem within_adds {s t : Sack} (h : s.within t) {m : Span} (hm : m.lo ≤ m.hi) {g : St → Int} (hg : Aff g) (hb1 : ∀ u ∈ (Held.mk s m).corners, -9000000000000000000 ≤ g u ∧ g u ≤ 9000000000000000000) (hb2 : ∀ u ∈ (Held.mk t m).corners, -9000000000000000000 ≤ g u ∧ g u ≤ 9000000000000000000) :
    ((Held.mk t m).adds g).least ≤ ((Held.mk s m).adds g).least ∧ ((Held.mk s m).adds g).most ≤ ((Held.mk t m).adds g).most := by
  obtain ⟨⟨u, hu, eu⟩, -, ⟨v, hv, ev⟩, -⟩ := adds_char hb1
  obtain ⟨-, l2, -, l4⟩ := adds_char hb2
  obtain ⟨⟨a1, a2, a3⟩, ⟨b1, b2, b3⟩, c1, c2, c3⟩ := h
  have key : ∀ u ∈ (Held.mk s m).corners, (m.has u.m ∧ t.w.has u.w ∧ t.c.has u.c ∧ t.l.has u.s) := by
    intro u hu
    simp only [Held.corners, Span.ends, List.mem_flatMap, List.mem_map, List.mem_cons, List.not_mem_nil, or_false] at hu
    obtain ⟨a, ha, w, hw, c, hc, x, hx, rfl⟩ := hu
    simp only [Span.has]
    omega
  constructor
  · obtain ⟨k1, k2, k3, k4⟩ := key u hu
    rw [eu]
    exact box_ge hg (h := Held.mk t m) l2 k1 k2 k3 k4
  · obtain ⟨k1, k2, k3, k4⟩ := key v hv
    rw [ev]
    exact box_le hg (h := Held.mk t m) l4 k1 k2 k3 k4
theorem sumTo_le {F G : Nat → Int} : ∀ n, (∀ i, i < n → F i ≤ G i) → sumTo F n ≤ sumTo G n
  | 0, _ => Int.le_refl _
  | n + 1, h => by
    have := sumTo_le n fun i hi => h i (by omega)
    have := h n (by omega)
    simp only [sumTo]; omega
theorem narrow {l' : List Sack} (hv : validB l b = true) (hv' : validB l' b = true) (hl : l'.length = l.length) (hw : ∀ i : Nat, i < l.length → (sackAt l' i).within (sackAt l i)) {g : St → Int} {X : Cor → Int} (hX : ∀ m w c t, g ⟨m, w, c, t⟩ = m * X ⟨w, c, t⟩) (hg : Aff g) (hbd : ∀ t : St, t.ok → -9000000000000000000 ≤ g t ∧ g t ≤ 9000000000000000000) :
    (together (heldsOf l b) g).least ≤ (together (heldsOf l' b) g).least ∧ (together (heldsOf l' b) g).most ≤ (together (heldsOf l b) g).most := by
  have a := together_weight hv hX
  have c := together_weight hv' hX
  rw [a.1, a.2, c.1, c.2, hl]
  have key : ∀ i, i < l.length → ((Held.mk (sackAt l i) (weightR b i)).adds g).least ≤ ((Held.mk (sackAt l' i) (weightR b i)).adds g).least ∧ ((Held.mk (sackAt l' i) (weightR b i)).adds g).most ≤ ((Held.mk (sackAt l i) (weightR b i)).adds g).most := by
    intro i hi
    have o1 := held_ok hv i hi
    have o2 := held_ok hv' i (by omega)
    rw [← sackAt_nat hi] at o1
    rw [← sackAt_nat (show i < l'.length by omega)] at o2
    exact within_adds (hw i hi) o1.2.2.1 hg (fun u hu => hbd u (Held.corner_ok o2 u hu)) (fun u hu => hbd u (Held.corner_ok o1 u hu))
  exact ⟨sumTo_le _ fun i hi => (key i hi).1, sumTo_le _ fun i hi => (key i hi).2⟩
theorem firstOf_le {p q : Int → Bool} {n : Nat} (h : ∀ x : Int, 0 ≤ x → x ≤ n → q x = true → p x = true) : firstOf n p ≤ firstOf n q := by
  obtain ⟨f1, f2, f3, f4⟩ := firstOf_spec p n
  obtain ⟨g1, g2, g3, g4⟩ := firstOf_spec q n
  refine Decidable.byContradiction fun hn => ?_
  have x := g4 (by omega)
  have y := h (firstOf n q) g1 (by omega) x
  rw [f3 (firstOf n q) g1 (by omega)] at y
  cases y
/-- With narrower spans nothing is wider. -/
theorem narrow_all {l' : List Sack} (hv : validB l b = true) (hv' : validB l' b = true) (hl : l'.length = l.length) (hw : ∀ i : Nat, i < l.length → (sackAt l' i).within (sackAt l i)) :
    (∀ k, (partOf l b k).lo ≤ (partOf l' b k).lo ∧ (partOf l' b k).hi ≤ (partOf l b k).hi) ∧ ((shareOf (heldsOf l b)).lo ≤ (shareOf (heldsOf l' b)).lo ∧ (shareOf (heldsOf l' b)).hi ≤ (shareOf (heldsOf l b)).hi) ∧
      (∀ n : Int, 0 ≤ n → n ≤ 999 → waterLo (heldsOf l' b) n ≤ waterLo (heldsOf l b) n ∧ waterHi (heldsOf l b) n ≤ waterHi (heldsOf l' b) n) := by
  have ho : ∀ n : Int, 0 ≤ n → n ≤ 1000 → _ := fun n h0 h1 => narrow hv hv' hl hw (over_lin n) (aff_over n) fun t ht => by have := carbonOver_bd ht h0 h1; omega
  refine ⟨fun k => ?_, ⟨?_, ?_⟩, fun n h0 h1 => ?_⟩
  · have h := narrow hv hv' hl hw (X := kindX k) (fun m w c t => partG_of k m w c t) (aff_part k) fun t ht => by have := partG_bd k t ht; omega
    have a := Int.ediv_le_ediv (show (0 : Int) < 1000000000 by omega) h.1
    have c := Int.ediv_le_ediv (show (0 : Int) < 1000000000 by omega) (show -(together (heldsOf l b) (partG k)).most ≤ -(together (heldsOf l' b) (partG k)).most by omega)
    simp only [partOf, gramsOf, cdiv]
    omega
  · refine firstOf_le (p := loP (heldsOf l b)) (q := loP (heldsOf l' b)) fun x hx0 hx1 hq => ?_
    by_cases e : x < 1000
    · have := (ho (x + 1) (by omega) (by omega)).1
      simp only [loP, decide_eq_true_eq] at hq ⊢
      omega
    · simp only [loP, decide_eq_true_eq] at hq ⊢
      have := (narrow hv hv' hl hw (over_lin (x + 1)) (aff_over (x + 1)) fun t ht => by
        have b1 := St.carbon_bd ht
        have b2 := St.lead_bd ht
        have b3 := mul_bd (a := x + 1) (A := 1001) (by omega) (by omega) b2.1 b2.2
        unfold carbonOver
        omega).1
      omega
  · refine firstOf_le (p := hiP (heldsOf l' b)) (q := hiP (heldsOf l b)) fun x hx0 hx1 hq => ?_
    have := (ho x hx0 hx1).2
    simp only [hiP, decide_eq_true_eq] at hq ⊢
    omega
  · have h := narrow hv hv' hl hw (g := waterLack n) (X := fun x : Cor => n - x.w) (lack_lin n) (aff_lack n) fun t ht => by have := waterLack_bd ht h0 (by omega : n ≤ 1000); omega
    have a := Int.ediv_le_ediv (show 0 < 1000 - n by omega) h.1
    have c := Int.ediv_le_ediv (show 0 < 1000 - n by omega) (show -(together (heldsOf l b) (waterLack n)).most ≤ -(together (heldsOf l' b) (waterLack n)).most by omega)
    simp only [waterLo, waterHi, cdiv]
    omega
end Go.Proofs.Ytoiggflhfbfiiaa
