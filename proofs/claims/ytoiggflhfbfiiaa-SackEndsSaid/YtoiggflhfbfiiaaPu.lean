/- Plain: what SackTrue asks of the numbers. -/
import Derived.Test.YtoiggflhfbfiiaaT4
namespace Go.Proofs.Ytoiggflhfbfiiaa

theorem sumOf_lin (X Y : Cor → Int) (a c : Int) (T : Int → Cor) : ∀ (b : List Take) (ws : List Int), sumOf (fun x => a * X x + c * Y x) T b ws = a * sumOf X T b ws + c * sumOf Y T b ws
  | [], _ => by simp [sumOf]
  | _ :: _, [] => by simp [sumOf]
  | t :: b, x :: ws => by
    have := sumOf_lin X Y a c T b ws
    simp only [sumOf, this]
    grind
theorem sumOf_congr {X Y : Cor → Int} (h : ∀ x, X x = Y x) (T : Int → Cor) (b : List Take) (ws : List Int) : sumOf X T b ws = sumOf Y T b ws := by
  have : X = Y := funext h
  rw [this]
theorem sumOf_one (T : Int → Cor) : ∀ (b : List Take) (ws : List Int), fitsW b ws → sumOf (fun _ => 1) T b ws = ws.sum
  | [], [], _ => rfl
  | t :: b, x :: ws, h => by
    have := sumOf_one T b ws h.2
    simp [sumOf, this]
  | [], _ :: _, h => h.elim
  | _ :: _, [], h => h.elim
theorem sumOf_pos {X : Cor → Int} {T : Int → Cor} (hX : ∀ i, 0 < X (T i)) : ∀ (b : List Take) (ws : List Int), (∀ x ∈ ws, 1 ≤ x) → b ≠ [] → ws ≠ [] → 0 < sumOf X T b ws
  | [], _, _, h, _ => absurd rfl h
  | _ :: _, [], _, _, h => absurd rfl h
  | [t], x :: ws, h, _, _ => by
    have := h x (by simp)
    have := Int.mul_pos (show 0 < x by omega) (hX t.s)
    simp [sumOf, this]
  | t :: u :: b, [x], h, _, _ => by
    have := h x (by simp)
    have := Int.mul_pos (show 0 < x by omega) (hX t.s)
    simp [sumOf, this]
  | t :: u :: b, x :: y :: ws, h, _, _ => by
    have i := sumOf_pos hX (u :: b) (y :: ws) (fun z hz => h z (by simp only [List.mem_cons] at hz ⊢; exact .inr hz)) (by simp) (by simp)
    have := h x (by simp)
    have := Int.mul_pos (show 0 < x by omega) (hX t.s)
    rw [sumOf]
    omega

theorem fits_true : ∀ (b : List Take) (ys : List Int) (k : Nat), k ≤ b.length → (∀ t ∈ b, withinB t.m 1 100000 = true) → fitsW (b.drop (b.length - k)) ((List.range k).map fun i => tookAt b ys (b.length - k + i)) := by
  intro b ys k
  induction k with
  | zero => intro _ _; simp [fitsW]
  | succ k ih =>
    intro hk hb
    have hlt : b.length - (k + 1) < b.length := by omega
    rw [List.drop_eq_getElem_cons hlt, List.range_succ_eq_map]
    simp only [List.map_cons, List.map_map, Nat.add_zero]
    refine ⟨?_, ?_⟩
    · have h := withinB_iff.1 (hb _ (List.getElem_mem hlt))
      have := pickV_bd (lo := b[b.length - (k + 1)].m.lo) (hi := b[b.length - (k + 1)].m.hi) (y := ysAt ys (5 * (b.length - (k + 1)) + 2)) h.2.1
      simp only [tookAt, List.getD_eq_getElem?_getD, List.getElem?_eq_getElem hlt, Option.getD_some]
      exact this
    · have := ih (by omega) hb
      have e : b.length - (k + 1) + 1 = b.length - k := by omega
      rw [e]
      have e2 : ((List.range k).map ((fun i => tookAt b ys (b.length - (k + 1) + i)) ∘ Nat.succ)) = (List.range k).map fun i => tookAt b ys (b.length - k + i) := by
        apply List.map_congr_left
        intro i hi
        simp only [Function.comp]
        congr 1
        omega
      rw [e2]
      exact this
theorem fits_trueW {b : List Take} (ys : List Int) (hb : ∀ t ∈ b, withinB t.m 1 100000 = true) : fitsW b (trueW b ys b.length) := by
  have := fits_true b ys b.length (Nat.le_refl _) hb
  simpa [trueW] using this
theorem fitsW_bd : ∀ (b : List Take) (ws : List Int), fitsW b ws → (∀ t ∈ b, withinB t.m 1 100000 = true) → ∀ x ∈ ws, 1 ≤ x ∧ x ≤ 100000
  | [], [], _, _, x, hx => by simp at hx
  | t :: b, y :: ws, h, hb, x, hx => by
    rcases List.mem_cons.1 hx with rfl | hx
    · have h1 := withinB_iff.1 (hb t (by simp))
      have h2 := h.1
      simp only [Span.has] at h2
      omega
    · exact fitsW_bd b ws h.2 (fun u hu => hb u (by simp [hu])) x hx
  | [], _ :: _, h, _, _, _ => h.elim
  | _ :: _, [], h, _, _, _ => h.elim
theorem trueAt_fits {l : List Sack} {ys : List Int} {i : Nat} (hi : i < l.length) (hl : ∀ s ∈ l, sackOk s = true) : (sackAt l i).fits (trueAt l ys i) := by
  have h := hl _ (List.getElem_mem hi)
  rw [sackAt_nat hi]
  simp only [sackOk, Bool.and_eq_true, withinB_iff] at h
  simp only [Sack.fits, trueAt, sackAt_nat hi, Span.has]
  exact ⟨pickV_bd (by omega), pickV_bd (by omega), pickV_bd (by omega)⟩
theorem corAt_true {l : List Sack} {ys : List Int} {i : Nat} (hi : i < l.length) : corAt (trueS l ys l.length) i = trueAt l ys i := by
  simp [corAt, trueS, hi]
theorem trueS_ok {l : List Sack} {ys : List Int} (hl : ∀ s ∈ l, sackOk s = true) : ∀ x ∈ trueS l ys l.length, corOk x := by
  intro x hx
  simp only [trueS, List.mem_map, List.mem_range] at hx
  obtain ⟨i, hi, rfl⟩ := hx
  have hf := trueAt_fits (ys := ys) hi hl
  have h := hl _ (List.getElem_mem hi)
  rw [sackAt_nat hi] at hf
  simp only [sackOk, Bool.and_eq_true, withinB_iff] at h
  simp only [Sack.fits, Span.has] at hf
  simp only [corOk]
  omega
theorem sacksOk_all {l : List Sack} (h : sacksOk l = true) : ∀ s ∈ l, sackOk s = true := by
  simp only [sacksOk, Bool.and_eq_true, List.all_eq_true] at h
  exact h.2

/-- The truth of a batch: its kinds, and its weight. -/
structure Truth (l : List Sack) (b : List Take) (T : Int → Cor) (ws : List Int) : Prop where
  valid : validB l b = true
  fits : ∀ t ∈ b, (sackAt l t.s).fits (T t.s)
  took : fitsW b ws
  ok : ∀ i, corOk (T i)
theorem truth_is {l : List Sack} {b : List Take} (ys : List Int) (hv : validB l b = true) : Truth l b (corAt (trueS l ys l.length)) (trueW b ys b.length) := by
  have hs : sacksOk l = true := by rw [validB_split, Bool.and_eq_true] at hv; exact hv.1
  refine ⟨hv, fun t ht => ?_, fits_trueW ys fun t ht => ?_, fun i => corAt_ok (trueS_ok (sacksOk_all hs)) i⟩
  · have h := validB_take hv t ht
    simp only [takeOk, idxB, Bool.and_eq_true, decide_eq_true_eq] at h
    obtain ⟨n, hn⟩ : ∃ n : Nat, t.s = n := ⟨t.s.toNat, by omega⟩
    rw [hn] at h ⊢
    rw [corAt_true (by omega)]
    exact trueAt_fits (by omega) (sacksOk_all hs)
  · have h := validB_take hv t ht
    simp only [takeOk, Bool.and_eq_true] at h
    exact h.2

variable {l : List Sack} {b : List Take} {T : Int → Cor} {ws : List Int}
theorem Truth.part (h : Truth l b T ws) (k : Nat) : (together (heldsOf l b) (partG k)).least ≤ sumOf (kindX k) T b ws ∧ sumOf (kindX k) T b ws ≤ (together (heldsOf l b) (partG k)).most :=
  true_within h.valid h.took h.fits (aff_part k) (fun m w c s => partG_of k m w c s) (partG_bd k)
theorem cdiv_ge {a b : Int} (hb : 0 < b) : a ≤ cdiv a b * b := by
  have := Int.ediv_mul_le (-a) (show b ≠ 0 by omega)
  have e : cdiv a b * b = -(-a / b * b) := Int.neg_mul _ _
  omega
theorem Truth.inside (h : Truth l b T ws) (k : Nat) : (partOf l b k).lo * 1000000000 ≤ sumOf (kindX k) T b ws ∧ sumOf (kindX k) T b ws ≤ (partOf l b k).hi * 1000000000 := by
  have h1 := h.part k
  have h2 := cdiv_ge (a := (together (heldsOf l b) (partG k)).most) (b := 1000000000) (by omega)
  simp only [partOf, gramsOf]
  omega
theorem Truth.ws_bd (h : Truth l b T ws) : ∀ x ∈ ws, 1 ≤ x ∧ x ≤ 100000 := fitsW_bd b ws h.took fun t ht => by
  have := validB_take h.valid t ht
  simp only [takeOk, Bool.and_eq_true] at this
  exact this.2
theorem fitsW_len : ∀ (b : List Take) (ws : List Int), fitsW b ws → ws.length = b.length
  | [], [], _ => rfl
  | _ :: b, _ :: ws, h => by simp [fitsW_len b ws h.2]
  | [], _ :: _, h => h.elim
  | _ :: _, [], h => h.elim
theorem Truth.bd (h : Truth l b T ws) (k : Nat) : 0 ≤ sumOf (kindX k) T b ws ∧ sumOf (kindX k) T b ws ≤ 800000000000000 := by
  have h1 := sumOf_bd (M := 1000000000) (by omega) (fun i => kindX_bd k (h.ok i)) b ws fun x hx => by have := h.ws_bd x hx; omega
  have h2 := (validB_len h.valid).2
  omega
theorem Truth.all (h : Truth l b T ws) : sumOf (kindX 0) T b ws + sumOf (kindX 1) T b ws + sumOf (kindX 2) T b ws + sumOf (kindX 3) T b ws = ws.sum * 1000000000 := by
  rw [← sumOf_one T b ws h.took]
  have e1 := sumOf_lin (kindX 0) (kindX 1) 1 1 T b ws
  have e2 := sumOf_lin (kindX 2) (kindX 3) 1 1 T b ws
  have e3 := sumOf_lin (fun x => 1 * kindX 0 x + 1 * kindX 1 x) (fun x => 1 * kindX 2 x + 1 * kindX 3 x) 1 1 T b ws
  have e4 := sumOf_lin (fun _ => 1) (fun _ => 1) 1000000000 0 T b ws
  have e5 : sumOf (fun x => 1 * (1 * kindX 0 x + 1 * kindX 1 x) + 1 * (1 * kindX 2 x + 1 * kindX 3 x)) T b ws = sumOf (fun _ => 1000000000 * 1 + 0 * 1) T b ws := by
    refine sumOf_congr (fun x => ?_) T b ws
    simp only [kindX, ofN]
    grind
  omega
theorem Truth.lead (_h : Truth l b T ws) : sumOf (kindX 4) T b ws = sumOf (kindX 1) T b ws + sumOf (kindX 3) T b ws := by
  have e1 := sumOf_lin (kindX 1) (kindX 3) 1 1 T b ws
  have e5 : sumOf (kindX 4) T b ws = sumOf (fun x => 1 * kindX 1 x + 1 * kindX 3 x) T b ws := by
    refine sumOf_congr (fun x => ?_) T b ws
    simp only [kindX, ofN]
    omega
  omega
theorem Truth.lead_pos (h : Truth l b T ws) : 0 < sumOf (kindX 4) T b ws := by
  have hl := validB_len h.valid
  have hwl := fitsW_len b ws h.took
  refine sumOf_pos (fun i => ?_) b ws (fun x hx => (h.ws_bd x hx).1) (by intro e; subst e; simp at hl) (by intro e; subst e; simp at hwl; omega)
  obtain ⟨h1, h2, h3, h4, h5, h6⟩ := h.ok i
  simp only [kindX, ofN]
  generalize (T i).w = w at h1 h2 ⊢
  generalize (T i).c = c at h3 h4 ⊢
  generalize (T i).s = s at h5 h6 ⊢
  have e : (1000 - w) * c * 1000 + (1000 - w) * (1000 - c) * (1000 - s) = (1000 - w) * (c * 1000 + (1000 - c) * (1000 - s)) := by grind
  rw [e]
  refine Int.mul_pos (by omega) ?_
  have := Int.mul_le_mul_of_nonneg_left (show 100 ≤ 1000 - s by omega) (show 0 ≤ 1000 - c by omega)
  omega
theorem Truth.over (h : Truth l b T ws) {n : Int} (h0 : 0 ≤ n) (h1 : n ≤ 1000) : (together (heldsOf l b) (carbonOver n)).least ≤ 1000 * sumOf (kindX 1) T b ws - n * sumOf (kindX 4) T b ws ∧ 1000 * sumOf (kindX 1) T b ws - n * sumOf (kindX 4) T b ws ≤ (together (heldsOf l b) (carbonOver n)).most := by
  have e := sumOf_lin (kindX 1) (kindX 4) 1000 (-n) T b ws
  have e2 : 1000 * sumOf (kindX 1) T b ws - n * sumOf (kindX 4) T b ws = sumOf (fun x => 1000 * kindX 1 x + -n * kindX 4 x) T b ws := by
    rw [e, Int.neg_mul]; omega
  rw [e2]
  refine true_within h.valid h.took h.fits (aff_over n) (fun m w c s => ?_) (fun t ht => carbonOver_bd ht h0 h1)
  have p1 := partG_of 1 m w c s
  have p4 := partG_of 4 m w c s
  simp only [partG] at p1 p4
  simp only [carbonOver, p1, p4, kindX]
  grind
theorem Truth.share (h : Truth l b T ws) : (shareOf (heldsOf l b)).lo * sumOf (kindX 4) T b ws ≤ 1000 * sumOf (kindX 1) T b ws ∧ 1000 * sumOf (kindX 1) T b ws ≤ (shareOf (heldsOf l b)).hi * sumOf (kindX 4) T b ws := by
  have hn1 := h.bd 1
  have hn3 := h.bd 3
  have hl := h.lead
  constructor
  · obtain ⟨f1, f2, f3, f4⟩ := firstOf_spec (loP (heldsOf l b)) 1000
    show firstOf 1000 (loP (heldsOf l b)) * _ ≤ _
    by_cases e : firstOf 1000 (loP (heldsOf l b)) = 0
    · rw [e]; omega
    · have h3 := f3 (firstOf 1000 (loP (heldsOf l b)) - 1) (by omega) (by omega)
      simp only [loP, decide_eq_false_iff_not, Int.sub_add_cancel] at h3
      have := (h.over f1 f2).1
      omega
  · obtain ⟨f1, f2, f3, f4⟩ := firstOf_spec (hiP (heldsOf l b)) 1000
    show _ ≤ firstOf 1000 (hiP (heldsOf l b)) * _
    by_cases e : firstOf 1000 (hiP (heldsOf l b)) = 1000
    · rw [e]; omega
    · have h3 := f4 (by omega)
      simp only [hiP, decide_eq_true_eq] at h3
      have := (h.over f1 f2).2
      omega
theorem share_bd (hs : List Held) : 0 ≤ (shareOf hs).lo ∧ (shareOf hs).lo ≤ 1000 ∧ 0 ≤ (shareOf hs).hi ∧ (shareOf hs).hi ≤ 1000 := by
  obtain ⟨f1, f2, _⟩ := firstOf_spec (loP hs) 1000
  obtain ⟨g1, g2, _⟩ := firstOf_spec (hiP hs) 1000
  exact ⟨f1, f2, g1, g2⟩
theorem Truth.sum_bd (h : Truth l b T ws) : 0 ≤ ws.sum ∧ ws.sum ≤ 800000 := by
  have := h.all
  have h0 := h.bd 0
  have h1 := sumOf_bd (X := fun _ => 1) (T := T) (M := 1) (by omega) (fun i => by omega) b ws fun x hx => by have := h.ws_bd x hx; omega
  rw [sumOf_one T b ws h.took] at h1
  have h2 := (validB_len h.valid).2
  omega
theorem Truth.water (_h : Truth l b T ws) : sumOf (kindX 0) T b ws = 1000000 * sumOf (fun x => x.w) T b ws := by
  have e1 := sumOf_lin (fun x => x.w) (fun _ => 0) 1000000 0 T b ws
  have e2 : sumOf (kindX 0) T b ws = sumOf (fun x => 1000000 * x.w + 0 * 0) T b ws := by
    refine sumOf_congr (fun x => ?_) T b ws
    simp only [kindX, ofN]
    omega
  omega
theorem Truth.lack (h : Truth l b T ws) {n : Int} (h0 : 0 ≤ n) (h1 : n ≤ 1000) : (together (heldsOf l b) (waterLack n)).least ≤ n * ws.sum - sumOf (fun x => x.w) T b ws ∧ n * ws.sum - sumOf (fun x => x.w) T b ws ≤ (together (heldsOf l b) (waterLack n)).most := by
  have e := sumOf_lin (fun _ => 1) (fun x => x.w) n (-1) T b ws
  have e2 : n * ws.sum - sumOf (fun x => x.w) T b ws = sumOf (fun x => n * 1 + -1 * x.w) T b ws := by
    rw [e, sumOf_one T b ws h.took]; omega
  rw [e2]
  refine true_within h.valid h.took h.fits (aff_lack n) (fun m w c s => ?_) (waterLack_bd' n h0 h1)
  simp only [waterLack]
  have : n - w = n * 1 + -1 * w := by omega
  rw [this]
/-- With as much water as is told the water is as it was wanted. -/
theorem Truth.wet (h : Truth l b T ws) {wl wh : Int} (hw : withinB ⟨wl, wh⟩ 0 999 = true) {x : Int} (h1 : max (waterLo (heldsOf l b) wl) 0 ≤ x) (h2 : x ≤ min (waterHi (heldsOf l b) wh) 1073741824) :
    wl * (ws.sum + x) * 1000 ≤ 1000 * (sumOf (kindX 0) T b ws / 1000000 + 1000 * x) ∧ 1000 * (sumOf (kindX 0) T b ws / 1000000 + 1000 * x) ≤ wh * (ws.sum + x) * 1000 := by
  obtain ⟨w1, w2, w3⟩ := withinB_iff.1 hw
  simp only at w1 w2 w3
  have e0 := h.water
  have a1 := (h.lack w1 (by omega)).2
  have a2 := (h.lack (by omega : 0 ≤ wh) (by omega)).1
  have d1 := cdiv_ge (a := (together (heldsOf l b) (waterLack wl)).most) (b := 1000 - wl) (by omega)
  have d2 := Int.ediv_mul_le (together (heldsOf l b) (waterLack wh)).least (show 1000 - wh ≠ 0 by omega)
  simp only [waterLo] at h1
  simp only [waterHi] at h2
  have m1 := Int.mul_le_mul_of_nonneg_right (show cdiv (together (heldsOf l b) (waterLack wl)).most (1000 - wl) ≤ x by omega) (show 0 ≤ 1000 - wl by omega)
  have m2 := Int.mul_le_mul_of_nonneg_right (show x ≤ (together (heldsOf l b) (waterLack wh)).least / (1000 - wh) by omega) (show 0 ≤ 1000 - wh by omega)
  generalize sumOf (kindX 0) T b ws = n0 at e0 ⊢
  generalize sumOf (fun x => x.w) T b ws = v at e0 a1 a2
  have e1 : n0 / 1000000 = v := by omega
  rw [e1]
  have x1 : x * (1000 - wl) = x * 1000 - x * wl := Int.mul_sub _ _ _
  have x2 : x * (1000 - wh) = x * 1000 - x * wh := Int.mul_sub _ _ _
  have y1 : wl * (ws.sum + x) = wl * ws.sum + wl * x := Int.mul_add _ _ _
  have y2 : wh * (ws.sum + x) = wh * ws.sum + wh * x := Int.mul_add _ _ _
  have z1 : x * wl = wl * x := Int.mul_comm _ _
  have z2 : x * wh = wh * x := Int.mul_comm _ _
  constructor <;> omega
end Go.Proofs.Ytoiggflhfbfiiaa
