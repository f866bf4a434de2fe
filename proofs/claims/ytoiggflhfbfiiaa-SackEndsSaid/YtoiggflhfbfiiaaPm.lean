/- Plain: which numbers of grams a mixture may have. -/
import Derived.Test.YtoiggflhfbfiiaaMx
namespace Go.Proofs.Ytoiggflhfbfiiaa

/-- What a run of steps ends with: the least is reached and lies below all. -/
theorem step_char (g : St → Int) : ∀ (l : List St) (r : Reach), (∀ t ∈ l, g t ≤ r.least ∧ r.most ≤ g t) → l ≠ [] →
    (∃ t ∈ l, (l.foldl (Reach.step g) r).least = g t) ∧ (∀ t ∈ l, (l.foldl (Reach.step g) r).least ≤ g t) ∧ (∃ t ∈ l, (l.foldl (Reach.step g) r).most = g t) ∧ (∀ t ∈ l, g t ≤ (l.foldl (Reach.step g) r).most) := by
  have key : ∀ (l : List St) (r : Reach), ((l.foldl (Reach.step g) r).least = r.least ∨ ∃ t ∈ l, (l.foldl (Reach.step g) r).least = g t) ∧ (l.foldl (Reach.step g) r).least ≤ r.least ∧ (∀ t ∈ l, (l.foldl (Reach.step g) r).least ≤ g t) ∧
      ((l.foldl (Reach.step g) r).most = r.most ∨ ∃ t ∈ l, (l.foldl (Reach.step g) r).most = g t) ∧ r.most ≤ (l.foldl (Reach.step g) r).most ∧ (∀ t ∈ l, g t ≤ (l.foldl (Reach.step g) r).most) := by
    intro l
    induction l with
    | nil => intro r; simp
    | cons u l ih =>
      intro r
      obtain ⟨h1, h2, h3, h4, h5, h6⟩ := ih (r.step g u)
      simp only [List.foldl_cons]
      generalize List.foldl (Reach.step g) (r.step g u) l = z at h1 h2 h3 h4 h5 h6 ⊢
      simp only [Reach.step] at h1 h2 h4 h5
      have b2 : z.least ≤ r.least ∧ z.least ≤ g u := by clear h1 h4 h3 h6; omega
      have b5 : r.most ≤ z.most ∧ g u ≤ z.most := by clear h1 h4 h3 h6; omega
      refine ⟨?_, b2.1, ?_, ?_, b5.1, ?_⟩
      · rcases h1 with h1 | ⟨t, ht, h1⟩
        · by_cases e : r.least ≤ g u
          · exact .inl (by clear h4 h3 h6; omega)
          · exact .inr ⟨u, by simp, by clear h4 h3 h6; omega⟩
        · exact .inr ⟨t, by simp [ht], h1⟩
      · intro t ht
        rcases List.mem_cons.1 ht with rfl | ht
        · exact b2.2
        · exact h3 t ht
      · rcases h4 with h4 | ⟨t, ht, h4⟩
        · by_cases e : g u ≤ r.most
          · exact .inl (by clear h1 h3 h6; omega)
          · exact .inr ⟨u, by simp, by clear h1 h3 h6; omega⟩
        · exact .inr ⟨t, by simp [ht], h4⟩
      · intro t ht
        rcases List.mem_cons.1 ht with rfl | ht
        · exact b5.2
        · exact h6 t ht
  intro l r hl hne
  obtain ⟨h1, h2, h3, h4, h5, h6⟩ := key l r
  obtain ⟨u, hu⟩ := List.exists_mem_of_ne_nil l hne
  have hu1 := hl u hu
  refine ⟨?_, h3, ?_, h6⟩
  · rcases h1 with h1 | h1
    · exact ⟨u, hu, by have := h3 u hu; omega⟩
    · exact h1
  · rcases h4 with h4 | h4
    · exact ⟨u, hu, by have := h6 u hu; omega⟩
    · exact h4
theorem adds_char {h : Held} {g : St → Int} (hg : ∀ t ∈ h.corners, -9000000000000000000 ≤ g t ∧ g t ≤ 9000000000000000000) :
    (∃ t ∈ h.corners, (h.adds g).least = g t) ∧ (∀ t ∈ h.corners, (h.adds g).least ≤ g t) ∧ (∃ t ∈ h.corners, (h.adds g).most = g t) ∧ (∀ t ∈ h.corners, g t ≤ (h.adds g).most) :=
  step_char g h.corners _ (fun t ht => by have := hg t ht; simp only [maxI, minI]; omega) (by simp [Held.corners, Span.ends])

def St.gram (t : St) : St := { t with m := 1 }
theorem over_scale (thou : Int) (t : St) : carbonOver thou t = t.m * carbonOver thou t.gram := by
  simp only [carbonOver, St.lead, St.carbon, St.clay, St.dry, St.gram, Int.one_mul]
  generalize t.m = m
  generalize 1000 - t.w = w
  generalize t.c = c
  generalize 1000 - t.s = s
  grind
theorem weigh_corner {s : Sack} {n : Int} : ∀ t, t ∈ (Held.mk s ⟨n, n⟩).corners → t.m = n ∧ t.gram ∈ (gram s).corners := by
  intro t ht
  simp only [Held.corners, Span.ends, List.mem_flatMap, List.mem_map, List.mem_cons, List.not_mem_nil, or_false, or_self, gram] at ht ⊢
  obtain ⟨m, hm, w, hw, c, hc, s, hs', rfl⟩ := ht
  exact ⟨hm, 1, rfl, w, hw, c, hc, s, hs', rfl⟩
theorem corner_weigh {s : Sack} {n : Int} : ∀ t, t ∈ (gram s).corners → { t with m := n } ∈ (Held.mk s ⟨n, n⟩).corners ∧ (t.gram = t) := by
  intro t ht
  simp only [Held.corners, Span.ends, List.mem_flatMap, List.mem_map, List.mem_cons, List.not_mem_nil, or_false, or_self, gram] at ht ⊢
  obtain ⟨m, hm, w, hw, c, hc, s, hs', rfl⟩ := ht
  exact ⟨⟨n, rfl, w, hw, c, hc, s, hs', rfl⟩, by simp [St.gram, hm]⟩
theorem adds_scale {s : Sack} (hs : sackOk s = true) {n : Int} (h0 : 0 ≤ n) (h1 : n ≤ 100000) {thou : Int} (ht0 : 0 ≤ thou) (ht1 : thou ≤ 1000) :
    ((Held.mk s ⟨n, n⟩).adds (carbonOver thou)).least = n * ((gram s).adds (carbonOver thou)).least ∧ ((Held.mk s ⟨n, n⟩).adds (carbonOver thou)).most = n * ((gram s).adds (carbonOver thou)).most := by
  have hg1 : ∀ t ∈ (gram s).corners, -9000000000000000000 ≤ carbonOver thou t ∧ carbonOver thou t ≤ 9000000000000000000 := fun t ht => by
    have := carbonOver_bd (Held.corner_ok (gram_ok hs) t ht) ht0 ht1; omega
  have hgn : ∀ t ∈ (Held.mk s ⟨n, n⟩).corners, -9000000000000000000 ≤ carbonOver thou t ∧ carbonOver thou t ≤ 9000000000000000000 := fun t ht => by
    have := carbonOver_bd (Held.corner_ok (h := ⟨s, ⟨n, n⟩⟩) ⟨hs, h0, Int.le_refl _, by simp only; omega⟩ t ht) ht0 ht1; omega
  obtain ⟨⟨a, ha, ea⟩, la, ⟨b, hb, eb⟩, lb⟩ := adds_char hg1
  obtain ⟨⟨c, hc, ec⟩, lc, ⟨d, hd, ed⟩, ld⟩ := adds_char hgn
  have e1 : ∀ t ∈ (gram s).corners, carbonOver thou { t with m := n } = n * carbonOver thou t := fun t ht => by
    have := over_scale thou { t with m := n }
    rw [this]
    show n * carbonOver thou t.gram = _
    rw [(corner_weigh (n := n) t ht).2]
  have e2 : ∀ t ∈ (Held.mk s ⟨n, n⟩).corners, carbonOver thou t = n * carbonOver thou t.gram := fun t ht => by
    rw [over_scale thou t, (weigh_corner t ht).1]
  constructor
  · have x1 := lc _ (corner_weigh (n := n) a ha).1
    rw [e1 a ha, ← ea] at x1
    have x2 := Int.mul_le_mul_of_nonneg_left (la _ (weigh_corner c hc).2) h0
    rw [← e2 c hc, ← ec] at x2
    omega
  · have x1 := ld _ (corner_weigh (n := n) b hb).1
    rw [e1 b hb, ← eb] at x1
    have x2 := Int.mul_le_mul_of_nonneg_left (lb _ (weigh_corner d hd).2) h0
    rw [← e2 d hd, ← ed] at x2
    omega

theorem mix_held (l : List Sack) {n1 n2 : Nat} (hne : n1 ≠ n2) (total n : Int) : heldsOf l (mixB n1 n2 total n) = [⟨sackAt l n1, ⟨n, n⟩⟩, ⟨sackAt l n2, ⟨total - n, total - n⟩⟩] := by
  have h : (n1 : Int) ≠ n2 := by omega
  simp [heldsOf, gather, mixB, gstep, updH, oldH, h]
theorem sackAt_nat {l : List Sack} {n : Nat} (h : n < l.length) : sackAt l n = l[n] := by simp [sackAt, h]
theorem together_two (a b : Held) (g : St → Int) : (together [a, b] g).least = (a.adds g).least + (b.adds g).least ∧ (together [a, b] g).most = (a.adds g).most + (b.adds g).most := by
  simp [together, Reach.plus]
theorem over_zero {t : St} (h : t.ok) : 0 ≤ carbonOver 0 t := by
  have := St.carbon_bd h
  unfold carbonOver; omega
theorem over_full {t : St} (h : t.ok) : carbonOver 1000 t ≤ 0 := by
  have := St.clay_bd h
  unfold carbonOver St.lead; omega
theorem adds_ge {h : Held} {g : St → Int} (hh : h.ok) (hg : ∀ t : St, t.ok → -9000000000000000000 ≤ g t ∧ g t ≤ 9000000000000000000) (h0 : ∀ t : St, t.ok → 0 ≤ g t) : 0 ≤ (h.adds g).least := by
  obtain ⟨⟨t, ht, e⟩, _⟩ := adds_char (fun t ht => hg t (Held.corner_ok hh t ht))
  rw [e]; exact h0 t (Held.corner_ok hh t ht)
theorem adds_le {h : Held} {g : St → Int} (hh : h.ok) (hg : ∀ t : St, t.ok → -9000000000000000000 ≤ g t ∧ g t ≤ 9000000000000000000) (h0 : ∀ t : St, t.ok → g t ≤ 0) : (h.adds g).most ≤ 0 := by
  obtain ⟨_, _, ⟨t, ht, e⟩, _⟩ := adds_char (fun t ht => hg t (Held.corner_ok hh t ht))
  rw [e]; exact h0 t (Held.corner_ok hh t ht)
theorem lo_iff {a b : Held} (ha : a.ok) (hb : b.ok) {wl : Int} (h0 : 0 ≤ wl) (h1 : wl ≤ 1000) : wl ≤ (shareOf [a, b]).lo ↔ 0 ≤ (together [a, b] (carbonOver wl)).least := by
  have hok : ∀ h ∈ [a, b], h.ok := by simp [ha, hb]
  obtain ⟨f1, f2, f3, f4⟩ := firstOf_spec (loP [a, b]) 1000
  show wl ≤ firstOf 1000 (loP [a, b]) ↔ _
  constructor
  · intro h
    by_cases e : wl = 0
    · subst e
      have hg : ∀ t : St, t.ok → -9000000000000000000 ≤ carbonOver 0 t ∧ carbonOver 0 t ≤ 9000000000000000000 := fun t ht => by have := carbonOver_bd ht (thou := 0) (by omega) (by omega); omega
      have x1 := adds_ge ha hg fun t ht => over_zero ht
      have x2 := adds_ge hb hg fun t ht => over_zero ht
      have x3 := (together_two a b (carbonOver 0)).1
      omega
    · have := f3 (wl - 1) (by omega) (by omega)
      simp only [loP, decide_eq_false_iff_not, Int.sub_add_cancel] at this
      omega
  · intro h
    refine Decidable.byContradiction fun hn => ?_
    have x1 := f4 (by omega)
    have x2 := loP_mono hok (show firstOf 1000 (loP [a, b]) ≤ wl - 1 by omega) x1
    simp only [loP, decide_eq_true_eq, Int.sub_add_cancel] at x2
    omega
theorem hi_iff {a b : Held} (ha : a.ok) (hb : b.ok) {wh : Int} (h0 : 0 ≤ wh) (h1 : wh ≤ 1000) : (shareOf [a, b]).hi ≤ wh ↔ (together [a, b] (carbonOver wh)).most ≤ 0 := by
  have hok : ∀ h ∈ [a, b], h.ok := by simp [ha, hb]
  obtain ⟨f1, f2, f3, f4⟩ := firstOf_spec (hiP [a, b]) 1000
  show firstOf 1000 (hiP [a, b]) ≤ wh ↔ _
  constructor
  · intro h
    by_cases e : wh = 1000
    · subst e
      have hg : ∀ t : St, t.ok → -9000000000000000000 ≤ carbonOver 1000 t ∧ carbonOver 1000 t ≤ 9000000000000000000 := fun t ht => by have := carbonOver_bd ht (thou := 1000) (by omega) (by omega); omega
      have x1 := adds_le ha hg fun t ht => over_full ht
      have x2 := adds_le hb hg fun t ht => over_full ht
      have x3 := (together_two a b (carbonOver 1000)).2
      omega
    · have x2 := hiP_mono hok h (f4 (by omega))
      simpa only [hiP, decide_eq_true_eq] using x2
  · intro h
    refine Decidable.byContradiction fun hn => ?_
    have := f3 wh h0 (by omega)
    simp only [hiP, decide_eq_false_iff_not] at this
    omega
theorem notBelow_iff {total one other n : Int} (h2 : 2 ≤ total) (h0 : 0 ≤ n) (h1 : n ≤ total) : (notBelow total one other).least ≤ n ∧ n ≤ (notBelow total one other).most ↔ 0 ≤ n * one + (total - n) * other := by
  have e : n * one + (total - n) * other = n * (one - other) - -total * other := by grind
  rw [e]
  unfold notBelow
  generalize -total * other = k
  generalize one - other = d
  split
  · rename_i hd
    have := Int.le_ediv_iff_mul_le (a := -k) (b := n) hd
    simp only [cdiv]
    have x1 := Int.le_ediv_iff_mul_le (a := -n) (b := -k) hd
    have x2 : -n * d = -(n * d) := Int.neg_mul _ _
    omega
  · split
    · rename_i hd hd2
      have x1 := Int.le_ediv_iff_mul_le (c := -d) (a := n) (b := -k) (by omega)
      have x2 : n * -d = -(n * d) := Int.mul_neg _ _
      simp only
      omega
    · rename_i hd hd2
      have : d = 0 := by omega
      subst this
      split <;> simp only [Int.mul_zero] <;> omega

def mixA (s1 s2 : Sack) (total wl wh : Int) : Int := max (max (mixReach s1 s2 total wl wh).1.least (mixReach s1 s2 total wl wh).2.least) 1
def mixZ (s1 s2 : Sack) (total wl wh : Int) : Int := min (min (mixReach s1 s2 total wl wh).1.most (mixReach s1 s2 total wl wh).2.most) (total - 1)
theorem sacksOk_at {l : List Sack} (hv : sacksOk l = true) {n : Nat} (h : n < l.length) : sackOk l[n] = true := by
  simp only [sacksOk, Bool.and_eq_true, List.all_eq_true] at hv
  exact hv.2 _ (List.getElem_mem h)
theorem mix_spec {l : List Sack} {n1 n2 : Nat} {total wl wh : Int} (hv : sacksOk l = true) (h1 : n1 < l.length) (h2 : n2 < l.length) (hne : n1 ≠ n2) (ht : 2 ≤ total) (ht' : total ≤ 100000) (hw : withinB ⟨wl, wh⟩ 0 1000 = true) (n : Int) (hn : 1 ≤ n) (hn' : n < total) :
    mixW l n1 n2 total wl wh n = decide (mixA l[n1] l[n2] total wl wh ≤ n ∧ n ≤ mixZ l[n1] l[n2] total wl wh) := by
  obtain ⟨w0, w1, w2⟩ := withinB_iff.1 hw
  simp only at w0 w1 w2
  have ok1 := sacksOk_at hv h1
  have ok2 := sacksOk_at hv h2
  have a1 := adds_scale ok1 (n := n) (by omega) (by omega) (thou := wl) (by omega) (by omega)
  have a2 := adds_scale ok2 (n := total - n) (by omega) (by omega) (thou := wl) (by omega) (by omega)
  have b1 := adds_scale ok1 (n := n) (by omega) (by omega) (thou := wh) (by omega) (by omega)
  have b2 := adds_scale ok2 (n := total - n) (by omega) (by omega) (thou := wh) (by omega) (by omega)
  have k1 : (Held.mk l[n1] ⟨n, n⟩).ok := ⟨ok1, by simp only; omega, Int.le_refl _, by simp only; omega⟩
  have k2 : (Held.mk l[n2] ⟨total - n, total - n⟩).ok := ⟨ok2, by simp only; omega, Int.le_refl _, by simp only; omega⟩
  have lo := lo_iff k1 k2 w0 (by omega : wl ≤ 1000)
  have hi := hi_iff k1 k2 (by omega : 0 ≤ wh) w2
  rw [(together_two _ _ _).1, a1.1, a2.1] at lo
  rw [(together_two _ _ _).2, b1.2, b2.2] at hi
  have x1 := notBelow_iff (one := ((gram l[n1]).adds (carbonOver wl)).least) (other := ((gram l[n2]).adds (carbonOver wl)).least) ht (by omega : 0 ≤ n) (by omega)
  have x2 := notBelow_iff (one := -((gram l[n1]).adds (carbonOver wh)).most) (other := -((gram l[n2]).adds (carbonOver wh)).most) ht (by omega : 0 ≤ n) (by omega)
  rw [Int.mul_neg, Int.mul_neg] at x2
  unfold mixW
  rw [mix_held l hne, sackAt_nat h1, sackAt_nat h2, decide_eq_decide, lo, hi]
  unfold mixA mixZ mixReach
  simp only
  rw [Int.max_le, Int.max_le, Int.le_min, Int.le_min]
  clear a1 a2 b1 b2 k1 k2 lo hi ok1 ok2
  generalize notBelow total ((gram l[n1]).adds (carbonOver wl)).least ((gram l[n2]).adds (carbonOver wl)).least = r1 at x1 ⊢
  generalize notBelow total (-((gram l[n1]).adds (carbonOver wh)).most) (-((gram l[n2]).adds (carbonOver wh)).most) = r2 at x2 ⊢
  generalize n * ((gram l[n1]).adds (carbonOver wl)).least + (total - n) * ((gram l[n2]).adds (carbonOver wl)).least = y1 at x1 ⊢
  generalize n * ((gram l[n1]).adds (carbonOver wh)).most = y2 at x2 ⊢
  generalize (total - n) * ((gram l[n2]).adds (carbonOver wh)).most = y3 at x2 ⊢
  constructor
  · rintro ⟨c1, c2⟩
    have d1 := x1.2 c1
    have d2 := x2.2 (by omega)
    omega
  · rintro ⟨⟨⟨c1, c2⟩, c3⟩, ⟨c4, c5⟩, c6⟩
    have d1 := x1.1 ⟨c1, c4⟩
    have d2 := x2.1 ⟨c2, c5⟩
    omega
end Go.Proofs.Ytoiggflhfbfiiaa
