/- Plain: the reference's answers are the program's. -/
import Derived.Test.YtoiggflhfbfiiaaU7
namespace Go.Proofs.Ytoiggflhfbfiiaa

theorem snoc_ind {α : Type} {P : List α → Prop} (h0 : P []) (h1 : ∀ l a, P l → P (l ++ [a])) : ∀ l, P l := fun l => by
  rw [← List.reverse_reverse l]
  induction l.reverse with
  | nil => exact h0
  | cons a l ih => rw [List.reverse_cons]; exact h1 _ _ ih
def zHeld : Held := ⟨⟨⟨0, 0⟩, ⟨0, 0⟩, ⟨0, 0⟩⟩, ⟨0, 0⟩⟩
def sumF (F : Held → Int) : List (Int × Held) → Int
  | [] => 0
  | p :: m => F p.2 + sumF F m
theorem sumF_upd {F : Held → Int} (hz : F zHeld = 0) (k : Int) (v : Held) : ∀ m, sumF F (updH m k v) = sumF F m + (F v - F (oldH m k))
  | [] => by
    have h : F (oldH [] k) = 0 := hz
    simp only [updH, sumF, h]
    omega
  | (a, b) :: l => by
    have := sumF_upd hz k v l
    unfold updH oldH
    by_cases h : a = k
    · simp only [h, if_true, sumF]; omega
    · simp only [h, if_false, sumF, this]; omega
theorem oldH_or (k : Int) : ∀ m : List (Int × Held), oldH m k = zHeld ∨ (k, oldH m k) ∈ m
  | [] => .inl rfl
  | (a, b) :: l => by
    unfold oldH
    by_cases h : a = k
    · subst h; simp
    · rcases oldH_or k l with e | e
      · simp only [h, if_false]; exact .inl e
      · simp only [h, if_false]; exact .inr (by simp [e])
theorem oldH_upd (k k' : Int) (v : Held) : ∀ m, oldH (updH m k v) k' = if k' = k then v else oldH m k'
  | [] => by
    unfold updH oldH oldH
    by_cases h : k = k'
    · simp [h]
    · have : ¬ k' = k := fun e => h e.symm
      simp [h, this]
  | (a, b) :: l => by
    have := oldH_upd k k' v l
    unfold updH
    by_cases h : a = k
    · subst h
      simp only [if_true]
      unfold oldH
      by_cases h' : a = k'
      · simp [h']
      · have : ¬ k' = a := fun e => h' e.symm
        simp [h', this]
    · simp only [h, if_false]
      unfold oldH
      by_cases h' : a = k'
      · subst h'
        simp [h]
      · simp only [h', if_false, this]
theorem take_last (b : List Take) (t : Take) (i : Int) : weightR (b ++ [t]) i = addW i (weightR b i) t := by
  simp [weightR]
theorem old_weight (l : List Sack) (i : Int) : ∀ (b : List Take), (oldH (gather l b) i).weight = weightR b i := by
  refine snoc_ind ?_ ?_
  · rfl
  · intro b t ih
    rw [gather_snoc, take_last, gstep, oldH_upd, addW]
    by_cases h : i = t.s
    · subst h
      simp only [if_true, ih]
    · have : ¬ t.s = i := fun e => h e.symm
      simp only [h, this, if_false, ih]
theorem sumTo_congr {F G : Nat → Int} : ∀ n, (∀ i, i < n → F i = G i) → sumTo F n = sumTo G n
  | 0, _ => rfl
  | n + 1, h => by
    simp only [sumTo]
    rw [sumTo_congr n fun i hi => h i (by omega), h n (by omega)]
theorem sumTo_one {F G : Nat → Int} {k : Nat} : ∀ n, k < n → (∀ i, i < n → i ≠ k → F i = G i) → sumTo F n = sumTo G n + (F k - G k)
  | 0, h, _ => by omega
  | n + 1, h, hf => by
    simp only [sumTo]
    by_cases e : k = n
    · subst e
      rw [sumTo_congr k fun i hi => hf i (by omega) (by omega)]
      omega
    · rw [sumTo_one n (by omega) fun i hi hne => hf i (by omega) hne, hf n (by omega) (fun h => e h.symm)]
      omega
theorem sumTo_zero {F : Nat → Int} : ∀ n, (∀ i, i < n → F i = 0) → sumTo F n = 0
  | 0, _ => rfl
  | n + 1, h => by
    simp only [sumTo]
    rw [sumTo_zero n fun i hi => h i (by omega), h n (by omega)]
    rfl
/-- What is summed over what was gathered is summed over all sacks. -/
theorem sum_held {l : List Sack} {F : Held → Int} (hF : ∀ s, F ⟨s, ⟨0, 0⟩⟩ = 0) : ∀ (b : List Take), (∀ t ∈ b, takeOk l t = true) → sumF F (gather l b) = sumTo (fun i => F ⟨sackAt l i, weightR b i⟩) l.length := by
  refine snoc_ind ?_ ?_
  · intro _
    have h : sumTo (fun i => F ⟨sackAt l i, weightR [] i⟩) l.length = 0 := sumTo_zero _ fun i _ => hF (sackAt l i)
    rw [h]
    rfl
  · intro b t ih hb
    have hbb : ∀ t ∈ b, takeOk l t = true := fun u hu => hb u (by simp [hu])
    have i := ih hbb
    have ht := hb t (by simp)
    simp only [takeOk, idxB, Bool.and_eq_true, decide_eq_true_eq] at ht
    obtain ⟨n, hn⟩ : ∃ n : Nat, t.s = n := ⟨t.s.toNat, by omega⟩
    have hbt : ∀ t ∈ b, withinB t.m 1 100000 = true := fun u hu => by have := hbb u hu; simp only [takeOk, Bool.and_eq_true] at this; exact this.2
    have hold : F (oldH (gather l b) n) = F ⟨sackAt l n, weightR b n⟩ := by
      have hw := old_weight l n b
      rcases oldH_or n (gather l b) with e | e
      · rw [e] at hw ⊢
        rw [← hw]
        exact (hF _ : F zHeld = 0).trans (hF (sackAt l n)).symm
      · have hs := (gather_bd l b hbt _ e).1
        simp only at hs
        have : oldH (gather l b) n = ⟨sackAt l n, weightR b n⟩ := by
          rw [← hs, ← hw]
        rw [this]
    rw [gather_snoc, gstep, hn, sumF_upd (hF _), i, hold, old_weight]
    have hlt : n < l.length := by omega
    rw [sumTo_one (F := fun i => F ⟨sackAt l i, weightR (b ++ [t]) i⟩) (G := fun i => F ⟨sackAt l i, weightR b i⟩) l.length hlt fun j _ hj => by
      show F _ = F _
      rw [take_last, addW, if_neg (by omega)]]
    show _ + (F _ - _) = _ + (F _ - _)
    rw [take_last, addW, if_pos hn]
theorem together_sum (g : St → Int) : ∀ m : List (Int × Held), (together (m.map (·.2)) g).least = sumF (fun h => (h.adds g).least) m ∧ (together (m.map (·.2)) g).most = sumF (fun h => (h.adds g).most) m
  | [] => ⟨rfl, rfl⟩
  | p :: m => by
    have i := together_sum g m
    have c := together_cons p.2 (m.map (·.2)) g
    simp only [List.map_cons, sumF]
    omega

/-- The members of the reference's corners. -/
theorem mem_cornersR {s : Sack} {x : Cor} : x ∈ cornersR s ↔ (x.w = s.w.lo ∨ x.w = s.w.hi) ∧ (x.c = s.c.lo ∨ x.c = s.c.hi) ∧ (x.s = s.l.lo ∨ x.s = s.l.hi) := by
  constructor
  · intro h
    simp only [cornersR, List.mem_cons, List.not_mem_nil, or_false] at h
    rcases h with rfl | rfl | rfl | rfl | rfl | rfl | rfl | rfl <;> simp
  · obtain ⟨w, c, t⟩ := x
    rintro ⟨rfl | rfl, rfl | rfl, rfl | rfl⟩ <;> simp [cornersR]
/-- What a sack adds, by what is reached and what bounds it. -/
theorem adds_eq {s : Sack} {m : Span} {g : St → Int} {X : Cor → Int} (hX : ∀ m w c t, g ⟨m, w, c, t⟩ = m * X ⟨w, c, t⟩) (hbd : ∀ t ∈ (Held.mk s m).corners, -9000000000000000000 ≤ g t ∧ g t ≤ 9000000000000000000) {lo hi : Int}
    (h1 : ∃ x ∈ cornersR s, lo = m.lo * X x ∨ lo = m.hi * X x) (h2 : ∀ x ∈ cornersR s, lo ≤ m.lo * X x ∧ lo ≤ m.hi * X x) (h3 : ∃ x ∈ cornersR s, hi = m.lo * X x ∨ hi = m.hi * X x) (h4 : ∀ x ∈ cornersR s, m.lo * X x ≤ hi ∧ m.hi * X x ≤ hi) :
    ((Held.mk s m).adds g).least = lo ∧ ((Held.mk s m).adds g).most = hi := by
  obtain ⟨⟨t, ht, e1⟩, l1, ⟨u, hu, e2⟩, l2⟩ := adds_char hbd
  have key : ∀ t ∈ (Held.mk s m).corners, ∃ x ∈ cornersR s, g t = m.lo * X x ∨ g t = m.hi * X x := by
    intro t ht
    simp only [Held.corners, Span.ends, List.mem_flatMap, List.mem_map, List.mem_cons, List.not_mem_nil, or_false] at ht
    obtain ⟨a, ha, w, hw, c, hc, v, hv, rfl⟩ := ht
    refine ⟨⟨w, c, v⟩, mem_cornersR.2 ⟨hw, hc, hv⟩, ?_⟩
    rw [hX]
    rcases ha with rfl | rfl
    · exact .inl rfl
    · exact .inr rfl
  have back : ∀ x ∈ cornersR s, ∀ a, (a = m.lo ∨ a = m.hi) → (⟨a, x.w, x.c, x.s⟩ : St) ∈ (Held.mk s m).corners ∧ g ⟨a, x.w, x.c, x.s⟩ = a * X x := by
    intro x hx a ha
    obtain ⟨hw, hc, hs⟩ := mem_cornersR.1 hx
    exact ⟨corner_mem ha hw hc hs, hX a x.w x.c x.s⟩
  constructor
  · obtain ⟨x, hx, hlo⟩ := h1
    obtain ⟨y, hy, hgt⟩ := key t ht
    have b2 := h2 y hy
    have : ((Held.mk s m).adds g).least ≤ lo := by
      rcases hlo with hlo | hlo
      · have := back x hx m.lo (.inl rfl); have h := l1 _ this.1; omega
      · have := back x hx m.hi (.inr rfl); have h := l1 _ this.1; omega
    omega
  · obtain ⟨x, hx, hlo⟩ := h3
    obtain ⟨y, hy, hgt⟩ := key u hu
    have b2 := h4 y hy
    have : hi ≤ ((Held.mk s m).adds g).most := by
      rcases hlo with hlo | hlo
      · have := back x hx m.lo (.inl rfl); have h := l2 _ this.1; omega
      · have := back x hx m.hi (.inr rfl); have h := l2 _ this.1; omega
    omega
end Go.Proofs.Ytoiggflhfbfiiaa
