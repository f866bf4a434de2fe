/- Plain: what SackEnds asks of the numbers. -/
import Derived.Test.YtoiggflhfbfiiaaPo
import Derived.Test.YtoiggflhfbfiiaaE1
namespace Go.Proofs.Ytoiggflhfbfiiaa

variable {l : List Sack} {b : List Take}
def setW (t : Take) (e : Nat) : Int := if e = 1 then t.m.hi else t.m.lo
def setB (b : List Take) (set : Nat) : List Take := b.mapIdx fun i t => ⟨t.s, ⟨setW t (set / 2 ^ i % 2), setW t (set / 2 ^ i % 2)⟩⟩
theorem setB_len (b : List Take) (set : Nat) : (setB b set).length = b.length := by simp [setB]
theorem cornAt_in (s : Sack) {j : Nat} (hj : j < 8) : cornAt s j ∈ cornersR s := by
  have h : j < (cornersR s).length := hj
  unfold cornAt
  rw [List.getD_eq_getElem?_getD, List.getElem?_eq_getElem h]
  exact List.getElem_mem _
theorem cornAt_ex {s : Sack} {x : Cor} (h : x ∈ cornersR s) : ∃ j, j < 8 ∧ cornAt s j = x := by
  obtain ⟨j, hj, e⟩ := List.getElem_of_mem h
  refine ⟨j, hj, ?_⟩
  unfold cornAt
  rw [List.getD_eq_getElem?_getD, List.getElem?_eq_getElem hj]
  exact e
theorem cornAt_has {s : Sack} (hs : sackOk s = true) {j : Nat} (hj : j < 8) : s.fits (cornAt s j) := by
  obtain ⟨h1, h2, h3⟩ := mem_cornersR.1 (cornAt_in s hj)
  simp only [sackOk, Bool.and_eq_true, withinB_iff] at hs
  simp only [Sack.fits, Span.has]
  omega
theorem ptS_ok {s : Sack} (hs : sackOk s = true) {j : Nat} (hj : j < 8) : sackOk (ptS (cornAt s j)) = true := by
  have h := cornAt_has hs hj
  simp only [sackOk, Bool.and_eq_true, withinB_iff] at hs ⊢
  simp only [Sack.fits, Span.has] at h
  simp only [ptS]
  omega
theorem setW_in {t : Take} (ht : t.m.lo ≤ t.m.hi) (e : Nat) : t.m.lo ≤ setW t e ∧ setW t e ≤ t.m.hi := by
  unfold setW
  split <;> omega
theorem sharp_valid (hv : validB l b = true) (bits set : Nat) : validB (sharpL l bits) (setB b set) = true := by
  have hs := (valid_parts hv).2.2.1
  simp only [validB, sacksOk, Bool.and_eq_true, decide_eq_true_eq, List.all_eq_true] at hv ⊢
  obtain ⟨⟨⟨h1, h2⟩, h3⟩, h4⟩ := hv
  refine ⟨⟨⟨by rw [sharpL_len]; exact h1, fun s hs' => ?_⟩, by rw [setB_len]; exact h3⟩, fun t ht => ?_⟩
  · obtain ⟨i, hi, rfl⟩ := List.mem_mapIdx.1 hs'
    exact ptS_ok (hs _ (List.getElem_mem hi)) (Nat.mod_lt _ (by omega))
  · obtain ⟨i, hi, rfl⟩ := List.mem_mapIdx.1 ht
    have := h4 _ (List.getElem_mem hi)
    simp only [takeOk, idxB, sharpL_len, Bool.and_eq_true, decide_eq_true_eq, withinB_iff] at this ⊢
    have := setW_in this.2.2.1 (set / 2 ^ i % 2)
    omega
theorem weight_pt (set : Nat) (i : Int) : (weightR (setB b set) i).lo = (weightR (setB b set) i).hi := by
  have key : ∀ (x : List Take) (o : Span), (∀ t ∈ x, t.m.lo = t.m.hi) → o.lo = o.hi → (x.foldl (addW i) o).lo = (x.foldl (addW i) o).hi := by
    intro x
    induction x with
    | nil => intro o _ h; exact h
    | cons t x ih =>
      intro o ht h
      refine ih _ (fun u hu => ht u (by simp [hu])) ?_
      have := ht t (by simp)
      unfold addW
      split
      · simp only; omega
      · exact h
  refine key _ _ (fun t ht => ?_) rfl
  obtain ⟨j, hj, rfl⟩ := List.mem_mapIdx.1 ht
  rfl
theorem weight_two (hb2 : b.length ≤ 2) (set : Nat) (i : Int) : weightR b i = ⟨(b.map fun t => if t.s = i then t.m.lo else 0).sum, (b.map fun t => if t.s = i then t.m.hi else 0).sum⟩ ∧
    (weightR (setB b set) i).lo = ((b.mapIdx fun j t => if t.s = i then setW t (set / 2 ^ j % 2) else 0)).sum := by
  match b, hb2 with
  | [], _ => exact ⟨rfl, rfl⟩
  | [t], _ =>
    by_cases h : t.s = i <;> simp [weightR, setB, addW, h]
  | [t, u], _ =>
    by_cases h : t.s = i <;> by_cases h' : u.s = i <;> simp [weightR, setB, addW, h, h']
theorem weight_in (hb2 : b.length ≤ 2) (hb : ∀ t ∈ b, t.m.lo ≤ t.m.hi) (set : Nat) (i : Int) : (weightR b i).has (weightR (setB b set) i).lo := by
  obtain ⟨e1, e2⟩ := weight_two hb2 set i
  rw [e1, e2]
  simp only [Span.has]
  match b, hb2, hb with
  | [], _, _ => simp
  | [t], _, hb =>
    have h1 := setW_in (hb t (by simp)) (set % 2)
    by_cases h : t.s = i <;> simp [h] <;> omega
  | [t, u], _, hb =>
    have h1 := setW_in (hb t (by simp)) (set % 2)
    have h2 := setW_in (hb u (by simp)) (set / 2 % 2)
    by_cases h : t.s = i <;> by_cases h' : u.s = i <;> simp [h, h'] <;> omega

/-- The state of a sack at one of the corners. -/
def pickS (l : List Sack) (b : List Take) (bits set i : Nat) : St := ⟨(weightR (setB b set) i).lo, (cornAt (sackAt l i) (bits / 8 ^ i % 8)).w, (cornAt (sackAt l i) (bits / 8 ^ i % 8)).c, (cornAt (sackAt l i) (bits / 8 ^ i % 8)).s⟩
theorem corners_pt {x : Cor} {m : Span} (hm : m.lo = m.hi) {t : St} (h : t ∈ (Held.mk (ptS x) m).corners) : t = ⟨m.lo, x.w, x.c, x.s⟩ := by
  simp only [Held.corners, Span.ends, ptS, ← hm, List.mem_flatMap, List.mem_map, List.mem_cons, List.not_mem_nil, or_false, or_self] at h
  obtain ⟨_, rfl, _, rfl, _, rfl, _, rfl, rfl⟩ := h
  rfl
theorem sharp_sum (hv : validB l b = true) (bits set : Nat) {g : St → Int} {X : Cor → Int} (hX : ∀ m w c t, g ⟨m, w, c, t⟩ = m * X ⟨w, c, t⟩) (hbd : ∀ t : St, t.ok → -9000000000000000000 ≤ g t ∧ g t ≤ 9000000000000000000) :
    (together (heldsOf (sharpL l bits) (setB b set)) g).least = sumTo (fun i => g (pickS l b bits set i)) l.length ∧ (together (heldsOf (sharpL l bits) (setB b set)) g).most = sumTo (fun i => g (pickS l b bits set i)) l.length := by
  have hv' := sharp_valid hv bits set
  have a := together_weight hv' hX
  rw [a.1, a.2, sharpL_len]
  have key : ∀ i, i < l.length → ((Held.mk (sackAt (sharpL l bits) i) (weightR (setB b set) i)).adds g).least = g (pickS l b bits set i) ∧ ((Held.mk (sackAt (sharpL l bits) i) (weightR (setB b set) i)).adds g).most = g (pickS l b bits set i) := by
    intro i hi
    have hi' : i < (sharpL l bits).length := by rw [sharpL_len]; exact hi
    have ho := held_ok hv' i hi'
    have e : (sharpL l bits)[i] = ptS (cornAt (sackAt l i) (bits / 8 ^ i % 8)) := by
      rw [sackAt_nat hi]
      simp [sharpL]
    rw [sackAt_nat hi', e]
    rw [e] at ho
    obtain ⟨⟨t, h1, h2⟩, -, ⟨u, h3, h4⟩, -⟩ := adds_char (h := Held.mk (ptS (cornAt (sackAt l i) (bits / 8 ^ i % 8))) (weightR (setB b set) i)) (g := g) fun t ht => hbd t (Held.corner_ok ho t ht)
    rw [h2, h4, corners_pt (weight_pt set i) h1, corners_pt (weight_pt set i) h3]
    exact ⟨rfl, rfl⟩
  exact ⟨sumTo_congr _ fun i hi => (key i hi).1, sumTo_congr _ fun i hi => (key i hi).2⟩
theorem sharp_within (hv : validB l b = true) (hb2 : b.length ≤ 2) (bits set : Nat) {g : St → Int} {X : Cor → Int} (hX : ∀ m w c t, g ⟨m, w, c, t⟩ = m * X ⟨w, c, t⟩) (hg : Aff g) (hbd : ∀ t : St, t.ok → -9000000000000000000 ≤ g t ∧ g t ≤ 9000000000000000000) :
    (together (heldsOf l b) g).least ≤ (together (heldsOf (sharpL l bits) (setB b set)) g).least ∧ (together (heldsOf (sharpL l bits) (setB b set)) g).most ≤ (together (heldsOf l b) g).most := by
  have a := together_weight hv hX
  have c := sharp_sum hv bits set hX hbd
  rw [a.1, a.2, c.1, c.2]
  have hbt : ∀ t ∈ b, t.m.lo ≤ t.m.hi := fun t ht => (withinB_iff.1 ((valid_parts hv).2.2.2.1 t ht)).2.1
  have key : ∀ i, i < l.length → ((Held.mk (sackAt l i) (weightR b i)).adds g).least ≤ g (pickS l b bits set i) ∧ g (pickS l b bits set i) ≤ ((Held.mk (sackAt l i) (weightR b i)).adds g).most := by
    intro i hi
    have ho := held_ok hv i hi
    rw [← sackAt_nat hi] at ho
    have hf := cornAt_has ho.1 (j := bits / 8 ^ i % 8) (Nat.mod_lt _ (by omega))
    have hw := weight_in hb2 hbt set i
    obtain ⟨-, c2, -, c4⟩ := adds_char (h := Held.mk (sackAt l i) (weightR b i)) (g := g) fun t ht => hbd t (Held.corner_ok ho t ht)
    exact ⟨box_ge hg c2 hw hf.1 hf.2.1 hf.2.2, box_le hg c4 hw hf.1 hf.2.1 hf.2.2⟩
  exact ⟨sumTo_le _ fun i hi => (key i hi).1, sumTo_le _ fun i hi => (key i hi).2⟩
theorem mem_corners {h : Held} {t : St} (ht : t ∈ h.corners) : (t.m = h.weight.lo ∨ t.m = h.weight.hi) ∧ (⟨t.w, t.c, t.s⟩ : Cor) ∈ cornersR h.sack := by
  simp only [Held.corners, Span.ends, List.mem_flatMap, List.mem_map, List.mem_cons, List.not_mem_nil, or_false] at ht
  obtain ⟨m, hm, w, hw, c, hc, s, hs, rfl⟩ := ht
  exact ⟨hm, mem_cornersR.2 ⟨hw, hc, hs⟩⟩
theorem reach_pick (hv : validB l b = true) (hl2 : l.length ≤ 2) (hb2 : b.length ≤ 2) (P : Nat → St) (hP : ∀ i : Nat, i < l.length → P i ∈ (Held.mk (sackAt l i) (weightR b i)).corners) :
    ∃ bits, bits < 64 ∧ ∃ set, set < 4 ∧ ∀ i, i < l.length → pickS l b bits set i = P i := by
  have hJ : ∀ i : Nat, ∃ j e : Nat, j < 8 ∧ e < 2 ∧ (i < l.length → cornAt (sackAt l i) j = ⟨(P i).w, (P i).c, (P i).s⟩ ∧ (P i).m = if e = 1 then (weightR b i).hi else (weightR b i).lo) := by
    intro i
    by_cases hi : i < l.length
    · obtain ⟨h1, h2⟩ := mem_corners (hP i hi)
      obtain ⟨j, hj, e⟩ := cornAt_ex h2
      rcases h1 with h1 | h1
      · exact ⟨j, 0, hj, by omega, fun _ => ⟨e, h1⟩⟩
      · exact ⟨j, 1, hj, by omega, fun _ => ⟨e, h1⟩⟩
    · exact ⟨0, 0, by omega, by omega, fun h => absurd h hi⟩
  obtain ⟨j0, e0, a1, a2, a3⟩ := hJ 0
  obtain ⟨j1, e1, c1, c2, c3⟩ := hJ 1
  clear hJ
  have hidx : ∀ t ∈ b, 0 ≤ t.s ∧ t.s < l.length := fun t ht => by
    have := validB_take hv t ht
    simp only [takeOk, idxB, Bool.and_eq_true, decide_eq_true_eq] at this
    exact this.1
  have hset : ∃ set, set < 4 ∧ ∀ i : Nat, i < l.length → (weightR (setB b set) i).lo = (if (if i = 0 then e0 else e1) = 1 then (weightR b i).hi else (weightR b i).lo) := by
    match b, hb2, hidx with
    | [], _, _ => exact ⟨0, by omega, fun i _ => by simp [setB, weightR]⟩
    | [t], _, hidx =>
      have ht := hidx t (by simp)
      refine ⟨if t.s = 0 then e0 else e1, by split <;> omega, fun i hi => ?_⟩
      have hm : (if t.s = 0 then e0 else e1) % 2 = if t.s = 0 then e0 else e1 := by split <;> omega
      obtain ⟨w1, w2⟩ := weight_two (b := [t]) (by simp) (if t.s = 0 then e0 else e1) i
      rw [w1, w2]
      simp only [List.mapIdx_cons, List.mapIdx_nil, List.map_cons, List.map_nil, List.sum_cons, List.sum_nil, Nat.pow_zero, Nat.div_one, hm]
      have h01 : i = 0 ∨ i = 1 := by omega
      rcases h01 with rfl | rfl
      · by_cases h : t.s = 0 <;> simp [h, setW] <;> split <;> simp_all
      · by_cases h : t.s = 1 <;> simp [h, setW] <;> split <;> simp_all
    | [t, u], _, hidx =>
      have ht := hidx t (by simp)
      have hu := hidx u (by simp)
      have f0 : (if t.s = 0 then e0 else e1) < 2 := by split <;> omega
      have f1 : (if u.s = 0 then e0 else e1) < 2 := by split <;> omega
      refine ⟨(if t.s = 0 then e0 else e1) + 2 * (if u.s = 0 then e0 else e1), by omega, fun i hi => ?_⟩
      have hm : ((if t.s = 0 then e0 else e1) + 2 * (if u.s = 0 then e0 else e1)) % 2 = if t.s = 0 then e0 else e1 := by omega
      have hm' : ((if t.s = 0 then e0 else e1) + 2 * (if u.s = 0 then e0 else e1)) / 2 % 2 = if u.s = 0 then e0 else e1 := by omega
      obtain ⟨w1, w2⟩ := weight_two (b := [t, u]) (by simp) ((if t.s = 0 then e0 else e1) + 2 * (if u.s = 0 then e0 else e1)) i
      rw [w1, w2]
      simp only [List.mapIdx_cons, List.mapIdx_nil, List.map_cons, List.map_nil, List.sum_cons, List.sum_nil, Nat.pow_zero, Nat.div_one, hm, Nat.zero_add, Nat.pow_one, hm']
      clear f0 f1 hm hm' w1 w2
      have h01 : i = 0 ∨ i = 1 := by omega
      rcases h01 with rfl | rfl
      · by_cases h : t.s = 0 <;> by_cases h' : u.s = 0 <;> by_cases he : e0 = 1 <;> simp [h, h', he, setW]
      · have d1 : t.s = 1 → ¬ t.s = 0 := by omega
        have d2 : u.s = 1 → ¬ u.s = 0 := by omega
        by_cases h : t.s = 1 <;> by_cases h' : u.s = 1 <;> by_cases he : e1 = 1 <;> simp [h, h', he, setW]
  obtain ⟨set, hs4, hset⟩ := hset
  refine ⟨j0 + 8 * j1, by omega, set, hs4, fun i hi => ?_⟩
  have hw := hset i hi
  have h01 : i = 0 ∨ i = 1 := by omega
  unfold pickS
  rcases h01 with rfl | rfl
  · have e : (j0 + 8 * j1) / 8 ^ 0 % 8 = j0 := by rw [Nat.pow_zero]; omega
    obtain ⟨k1, k2⟩ := a3 hi
    rw [e, k1, hw, if_pos rfl, ← k2]
  · have e : (j0 + 8 * j1) / 8 ^ 1 % 8 = j1 := by rw [Nat.pow_one]; omega
    obtain ⟨k1, k2⟩ := c3 hi
    rw [show (if (1 : Nat) = 0 then e0 else e1) = e1 from rfl] at hw
    rw [e, k1, hw, ← k2]
theorem ends_sum (hv : validB l b = true) (hl2 : l.length ≤ 2) (hb2 : b.length ≤ 2) {g : St → Int} {X : Cor → Int} (hX : ∀ m w c t, g ⟨m, w, c, t⟩ = m * X ⟨w, c, t⟩) (hbd : ∀ t : St, t.ok → -9000000000000000000 ≤ g t ∧ g t ≤ 9000000000000000000) :
    (∃ bits, bits < 64 ∧ ∃ set, set < 4 ∧ (together (heldsOf (sharpL l bits) (setB b set)) g).least = (together (heldsOf l b) g).least) ∧ (∃ bits, bits < 64 ∧ ∃ set, set < 4 ∧ (together (heldsOf (sharpL l bits) (setB b set)) g).most = (together (heldsOf l b) g).most) := by
  have a := together_weight hv hX
  have hc : ∀ i : Nat, i < l.length → _ := fun i hi => adds_char (h := Held.mk (sackAt l i) (weightR b i)) (g := g) fun t ht => hbd t (Held.corner_ok (by have := held_ok hv i hi; rwa [← sackAt_nat hi] at this) t ht)
  have h1 : ∀ i : Nat, ∃ t : St, i < l.length → t ∈ (Held.mk (sackAt l i) (weightR b i)).corners ∧ ((Held.mk (sackAt l i) (weightR b i)).adds g).least = g t := fun i => by
    by_cases hi : i < l.length
    · obtain ⟨⟨t, k1, k2⟩, -⟩ := hc i hi
      exact ⟨t, fun _ => ⟨k1, k2⟩⟩
    · exact ⟨⟨0, 0, 0, 0⟩, fun h => absurd h hi⟩
  have h2 : ∀ i : Nat, ∃ t : St, i < l.length → t ∈ (Held.mk (sackAt l i) (weightR b i)).corners ∧ ((Held.mk (sackAt l i) (weightR b i)).adds g).most = g t := fun i => by
    by_cases hi : i < l.length
    · obtain ⟨-, -, ⟨t, k1, k2⟩, -⟩ := hc i hi
      exact ⟨t, fun _ => ⟨k1, k2⟩⟩
    · exact ⟨⟨0, 0, 0, 0⟩, fun h => absurd h hi⟩
  constructor
  · obtain ⟨bits, r1, set, r2, r3⟩ := reach_pick hv hl2 hb2 (fun i => Classical.choose (h1 i)) fun i hi => (Classical.choose_spec (h1 i) hi).1
    refine ⟨bits, r1, set, r2, ?_⟩
    rw [(sharp_sum hv bits set hX hbd).1, a.1]
    exact sumTo_congr _ fun i hi => by rw [r3 i hi]; exact (Classical.choose_spec (h1 i) hi).2.symm
  · obtain ⟨bits, r1, set, r2, r3⟩ := reach_pick hv hl2 hb2 (fun i => Classical.choose (h2 i)) fun i hi => (Classical.choose_spec (h2 i) hi).1
    refine ⟨bits, r1, set, r2, ?_⟩
    rw [(sharp_sum hv bits set hX hbd).2, a.2]
    exact sumTo_congr _ fun i hi => by rw [r3 i hi]; exact (Classical.choose_spec (h2 i) hi).2.symm
theorem over_bd9 {n : Int} (h0 : 0 ≤ n) (h1 : n ≤ 1001) : ∀ t : St, t.ok → -9000000000000000000 ≤ carbonOver n t ∧ carbonOver n t ≤ 9000000000000000000 := fun t ht => by
  have b1 := St.carbon_bd ht
  have b2 := St.lead_bd ht
  have b3 := mul_bd h0 h1 b2.1 b2.2
  unfold carbonOver
  omega
theorem part_bd9 (k : Nat) : ∀ t : St, t.ok → -9000000000000000000 ≤ partG k t ∧ partG k t ≤ 9000000000000000000 := fun t ht => by have := partG_bd k t ht; omega

/-- What is answered at corner n, and of all of it. -/
def ownS (l : List Sack) (b : List Take) (n k : Nat) : Span := if k < 5 then partOf (sharpL l (n / 4)) (setB b (n % 4)) k else shareOf (heldsOf (sharpL l (n / 4)) (setB b (n % 4)))
def wholeS (l : List Sack) (b : List Take) (k : Nat) : Span := if k < 5 then partOf l b k else shareOf (heldsOf l b)
theorem own_flat (hv : validB l b = true) (n k : Nat) : (ownS l b n k).hi ≤ (ownS l b n k).lo + 1 := by
  unfold ownS
  split
  · have c := sharp_sum hv (n / 4) (n % 4) (X := kindX k) (g := partG k) (fun m w c s => partG_of k m w c s) (part_bd9 k)
    simp only [partOf, gramsOf, cdiv, c.1, c.2]
    omega
  · have c : ∀ x : Int, 0 ≤ x → x ≤ 1001 → _ := fun x h0 h1 => sharp_sum hv (n / 4) (n % 4) (over_lin x) (over_bd9 h0 h1)
    simp only [shareOf]
    obtain ⟨f1, f2, f3, f4⟩ := firstOf_spec (loP (heldsOf (sharpL l (n / 4)) (setB b (n % 4)))) 1000
    obtain ⟨g1, g2, g3, g4⟩ := firstOf_spec (hiP (heldsOf (sharpL l (n / 4)) (setB b (n % 4)))) 1000
    generalize firstOf 1000 (loP (heldsOf (sharpL l (n / 4)) (setB b (n % 4)))) = r at *
    generalize firstOf 1000 (hiP (heldsOf (sharpL l (n / 4)) (setB b (n % 4)))) = q at *
    refine Decidable.byContradiction fun hn => ?_
    have x := g3 (r + 1) (by omega) (by omega)
    have y := f4 (by omega)
    have z := c (r + 1) (by omega) (by omega)
    simp only [loP, hiP, decide_eq_true_eq, decide_eq_false_iff_not, z.1, z.2] at x y
    omega
theorem own_in (hv : validB l b = true) (hb2 : b.length ≤ 2) (n k : Nat) : (wholeS l b k).lo ≤ (ownS l b n k).lo ∧ (ownS l b n k).hi ≤ (wholeS l b k).hi := by
  unfold ownS wholeS
  split
  · have h := sharp_within hv hb2 (n / 4) (n % 4) (X := kindX k) (g := partG k) (fun m w c s => partG_of k m w c s) (aff_part k) (part_bd9 k)
    have a := Int.ediv_le_ediv (show (0 : Int) < 1000000000 by omega) h.1
    have c := Int.ediv_le_ediv (show (0 : Int) < 1000000000 by omega) (show -(together (heldsOf l b) (partG k)).most ≤ -(together (heldsOf (sharpL l (n / 4)) (setB b (n % 4))) (partG k)).most by omega)
    simp only [partOf, gramsOf, cdiv]
    omega
  · have c : ∀ x : Int, 0 ≤ x → x ≤ 1001 → _ := fun x h0 h1 => sharp_within hv hb2 (n / 4) (n % 4) (over_lin x) (aff_over x) (over_bd9 h0 h1)
    simp only [shareOf]
    constructor
    · refine firstOf_le fun x hx0 hx1 hq => ?_
      have := (c (x + 1) (by omega) (by omega)).1
      simp only [loP, decide_eq_true_eq] at hq ⊢
      omega
    · refine firstOf_le fun x hx0 hx1 hq => ?_
      have := (c x (by omega) (by omega)).2
      simp only [hiP, decide_eq_true_eq] at hq ⊢
      omega
theorem nth_of {bits set : Nat} (hb : bits < 64) (hs : set < 4) : 4 * bits + set < 256 ∧ (4 * bits + set) / 4 = bits ∧ (4 * bits + set) % 4 = set := by omega
theorem own_lo (hv : validB l b = true) (hl2 : l.length ≤ 2) (hb2 : b.length ≤ 2) (k : Nat) : ∃ n, n < 256 ∧ (ownS l b n k).lo = (wholeS l b k).lo := by
  by_cases hk : k < 5
  · obtain ⟨bits, h1, set, h2, h3⟩ := (ends_sum hv hl2 hb2 (X := kindX k) (g := partG k) (fun m w c s => partG_of k m w c s) (part_bd9 k)).1
    obtain ⟨n1, n2, n3⟩ := nth_of h1 h2
    refine ⟨_, n1, ?_⟩
    simp only [ownS, wholeS, if_pos hk, n2, n3, partOf, gramsOf, h3]
  · obtain ⟨f1, f2, f3, f4⟩ := firstOf_spec (loP (heldsOf l b)) 1000
    by_cases hr : firstOf 1000 (loP (heldsOf l b)) < 1000
    · obtain ⟨bits, h1, set, h2, h3⟩ := (ends_sum hv hl2 hb2 (over_lin (firstOf 1000 (loP (heldsOf l b)) + 1)) (over_bd9 (by omega) (by omega))).1
      obtain ⟨n1, n2, n3⟩ := nth_of h1 h2
      refine ⟨_, n1, ?_⟩
      have i1 := (own_in hv hb2 (4 * bits + set) k).1
      simp only [ownS, wholeS, if_neg hk, n2, n3, shareOf] at i1 ⊢
      have x := f4 (by omega)
      obtain ⟨g1, g2, g3, g4⟩ := firstOf_spec (loP (heldsOf (sharpL l bits) (setB b set))) 1000
      refine Decidable.byContradiction fun hn => ?_
      have y := g3 (firstOf 1000 (loP (heldsOf l b))) f1 (by omega)
      simp only [loP, decide_eq_true_eq, decide_eq_false_iff_not] at x y
      rw [h3] at y
      exact y x
    · refine ⟨0, by omega, ?_⟩
      have i1 := (own_in hv hb2 0 k).1
      simp only [ownS, wholeS, if_neg hk, shareOf] at i1 ⊢
      obtain ⟨g1, g2, g3, g4⟩ := firstOf_spec (loP (heldsOf (sharpL l (0 / 4)) (setB b (0 % 4)))) 1000
      omega
theorem own_hi (hv : validB l b = true) (hl2 : l.length ≤ 2) (hb2 : b.length ≤ 2) (k : Nat) : ∃ n, n < 256 ∧ (ownS l b n k).hi = (wholeS l b k).hi := by
  by_cases hk : k < 5
  · obtain ⟨bits, h1, set, h2, h3⟩ := (ends_sum hv hl2 hb2 (X := kindX k) (g := partG k) (fun m w c s => partG_of k m w c s) (part_bd9 k)).2
    obtain ⟨n1, n2, n3⟩ := nth_of h1 h2
    refine ⟨_, n1, ?_⟩
    simp only [ownS, wholeS, if_pos hk, n2, n3, partOf, gramsOf, h3]
  · obtain ⟨f1, f2, f3, f4⟩ := firstOf_spec (hiP (heldsOf l b)) 1000
    by_cases hr : 0 < firstOf 1000 (hiP (heldsOf l b))
    · obtain ⟨bits, h1, set, h2, h3⟩ := (ends_sum hv hl2 hb2 (over_lin (firstOf 1000 (hiP (heldsOf l b)) - 1)) (over_bd9 (by omega) (by omega))).2
      obtain ⟨n1, n2, n3⟩ := nth_of h1 h2
      refine ⟨_, n1, ?_⟩
      have i1 := (own_in hv hb2 (4 * bits + set) k).2
      simp only [ownS, wholeS, if_neg hk, n2, n3, shareOf] at i1 ⊢
      have x := f3 (firstOf 1000 (hiP (heldsOf l b)) - 1) (by omega) (by omega)
      obtain ⟨g1, g2, g3, g4⟩ := firstOf_spec (hiP (heldsOf (sharpL l bits) (setB b set))) 1000
      refine Decidable.byContradiction fun hn => ?_
      have y := hiP_mono (helds_ok (sharp_valid hv bits set)) (show firstOf 1000 (hiP (heldsOf (sharpL l bits) (setB b set))) ≤ firstOf 1000 (hiP (heldsOf l b)) - 1 by omega) (g4 (by omega))
      simp only [hiP, decide_eq_true_eq, decide_eq_false_iff_not] at x y
      rw [h3] at y
      exact x y
    · refine ⟨0, by omega, ?_⟩
      have i1 := (own_in hv hb2 0 k).2
      simp only [ownS, wholeS, if_neg hk, shareOf] at i1 ⊢
      obtain ⟨g1, g2, g3, g4⟩ := firstOf_spec (hiP (heldsOf (sharpL l (0 / 4)) (setB b (0 % 4)))) 1000
      omega

/-- The widest of what is answered at the first n corners. -/
def bestS (l : List Sack) (b : List Take) : Nat → Nat → Span
  | 0, _ => ⟨0, 0⟩
  | n + 1, k => if n = 0 then ownS l b 0 k else ⟨min (bestS l b n k).lo (ownS l b n k).lo, max (bestS l b n k).hi (ownS l b n k).hi⟩
theorem best_char (l : List Sack) (b : List Take) (k : Nat) : ∀ n, 0 < n → (∀ j, j < n → (bestS l b n k).lo ≤ (ownS l b j k).lo ∧ (ownS l b j k).hi ≤ (bestS l b n k).hi) ∧ (∃ j, j < n ∧ (bestS l b n k).lo = (ownS l b j k).lo) ∧ ∃ j, j < n ∧ (bestS l b n k).hi = (ownS l b j k).hi
  | 0, h => by omega
  | n + 1, _ => by
    by_cases h0 : n = 0
    · subst h0
      refine ⟨fun j hj => ?_, ⟨0, by omega, rfl⟩, 0, by omega, rfl⟩
      obtain rfl : j = 0 := by omega
      exact ⟨Int.le_refl _, Int.le_refl _⟩
    · obtain ⟨h1, ⟨j2, h2, h3⟩, j4, h4, h5⟩ := best_char l b k n (by omega)
      have e : bestS l b (n + 1) k = ⟨min (bestS l b n k).lo (ownS l b n k).lo, max (bestS l b n k).hi (ownS l b n k).hi⟩ := by
        simp only [bestS, if_neg h0]
      rw [e]
      refine ⟨fun j hj => ?_, ?_, ?_⟩
      · by_cases e : j = n
        · subst e; simp only; omega
        · have := h1 j (by omega); simp only; omega
      · by_cases c : (bestS l b n k).lo ≤ (ownS l b n k).lo
        · exact ⟨j2, by omega, by simp only; omega⟩
        · exact ⟨n, by omega, by simp only; omega⟩
      · by_cases c : (ownS l b n k).hi ≤ (bestS l b n k).hi
        · exact ⟨j4, by omega, by simp only; omega⟩
        · exact ⟨n, by omega, by simp only; omega⟩
theorem best_all (hv : validB l b = true) (hl2 : l.length ≤ 2) (hb2 : b.length ≤ 2) (k : Nat) : bestS l b 256 k = wholeS l b k := by
  obtain ⟨h1, ⟨j2, h2, h3⟩, j4, h4, h5⟩ := best_char l b k 256 (by omega)
  obtain ⟨n, n1, n2⟩ := own_lo hv hl2 hb2 k
  obtain ⟨m, m1, m2⟩ := own_hi hv hl2 hb2 k
  have a := h1 n n1
  have c := h1 m m1
  have d := own_in hv hb2 j2 k
  have e := own_in hv hb2 j4 k
  have e1 : (bestS l b 256 k).lo = (wholeS l b k).lo := by omega
  have e2 : (bestS l b 256 k).hi = (wholeS l b k).hi := by omega
  cases hx : bestS l b 256 k
  cases hy : wholeS l b k
  rw [hx, hy] at e1 e2
  simp only at e1 e2
  rw [e1, e2]
end Go.Proofs.Ytoiggflhfbfiiaa
