/- The law TopBlack: its plain part, and what is held in it. -/
import Derived.Test.YtffglhnmgapndaaTp2
namespace Go.Proofs.Ytffglhnmgapndaa
open Go.RowKit Go.Shelf

def hiSum (b : List Take) : Int := (b.map fun t => t.m.hi).sum
theorem hiSum_snoc (b : List Take) (k : Nat) (h : k < b.length) : hiSum (b.take (k + 1)) = hiSum (b.take k) + b[k].m.hi := by
  unfold hiSum
  rw [List.take_succ_eq_append_getElem h, List.map_append, List.sum_append]
  simp
theorem hiSum_bd : ∀ (b : List Take), (∀ t ∈ b, withinB t.m 1 100000 = true) → 0 ≤ hiSum b ∧ hiSum b ≤ 100000 * b.length
  | [], _ => by simp [hiSum]
  | t :: b, h => by
    have h1 := withinB_iff.1 (h t (List.mem_cons_self ..))
    have h2 := hiSum_bd b fun x hx => h x (List.mem_cons_of_mem _ hx)
    have e : hiSum (t :: b) = t.m.hi + hiSum b := by simp [hiSum]
    rw [e]
    simp only [List.length_cons]
    omega
theorem sumOf_hi {X : Cor → Int} {T : Int → Cor} (hX : ∀ i, 0 ≤ X (T i) ∧ X (T i) ≤ 1000000000) : ∀ (b : List Take) (ws : List Int), fitsW b ws → (∀ t ∈ b, withinB t.m 1 100000 = true) → 0 ≤ sumOf X T b ws ∧ sumOf X T b ws ≤ hiSum b * 1000000000
  | [], [], _, _ => by simp [sumOf, hiSum]
  | [], _ :: _, h, _ => h.elim
  | _ :: _, [], h, _ => h.elim
  | t :: b, x :: ws, h, hb => by
    obtain ⟨⟨h1, h2⟩, h3⟩ := h
    have w1 := withinB_iff.1 (hb t (List.mem_cons_self ..))
    have ih := sumOf_hi hX b ws h3 fun y hy => hb y (List.mem_cons_of_mem _ hy)
    have hx := hX t.s
    have e : hiSum (t :: b) = t.m.hi + hiSum b := by simp [hiSum]
    have m1 := Int.mul_nonneg (show 0 ≤ x by omega) hx.1
    have m2 : x * X (T t.s) ≤ t.m.hi * 1000000000 := Int.mul_le_mul h2 hx.2 hx.1 (by omega)
    rw [e, Int.add_mul]
    simp only [sumOf]
    omega

/-- What is known of the true carbon (C) and clay (D). -/
structure TopF (l : List Sack) (b : List Take) (C D : Int) : Prop where
  c0 : 0 ≤ C
  d0 : 0 ≤ D
  pos : 0 < C + D
  c1 : C ≤ hiSum b * 1000000000
  d1 : D ≤ hiSum b * 1000000000
  cin : (partOf l b 1).lo * 1000000000 ≤ C ∧ C ≤ (partOf l b 1).hi * 1000000000
  din : (partOf l b 3).lo * 1000000000 ≤ D ∧ D ≤ (partOf l b 3).hi * 1000000000
  share : (shareOf (heldsOf l b)).lo * (C + D) ≤ 1000 * C ∧ 1000 * C ≤ (shareOf (heldsOf l b)).hi * (C + D)
def trueC (l : List Sack) (b : List Take) (ys : List Int) (k : Nat) (n : Nat) : Int := sumOf (kindX k) (corAt (trueS l ys l.length)) (b.take n) ((trueW b ys b.length).take n)
theorem topF {l : List Sack} {b : List Take} (ys : List Int) (hv : validB l b = true) : TopF l b (trueC l b ys 1 b.length) (trueC l b ys 3 b.length) := by
  have t := truth_is ys hv
  have hb : ∀ x ∈ b, withinB x.m 1 100000 = true := fun x hx => by
    have h := validB_take hv x hx
    simp only [takeOk, Bool.and_eq_true] at h
    exact h.2
  have hl : (trueW b ys b.length).length = b.length := by simp [trueW]
  have e : ∀ k, trueC l b ys k b.length = sumOf (kindX k) (corAt (trueS l ys l.length)) b (trueW b ys b.length) := fun k => by
    have h2 : (trueW b ys b.length).take b.length = trueW b ys b.length := List.take_of_length_le (by omega)
    unfold trueC
    rw [h2, List.take_length]
  have h1 := sumOf_hi (X := kindX 1) (T := corAt (trueS l ys l.length)) (fun i => kindX_bd 1 (t.ok i)) b _ t.took hb
  have h3 := sumOf_hi (X := kindX 3) (T := corAt (trueS l ys l.length)) (fun i => kindX_bd 3 (t.ok i)) b _ t.took hb
  have hp := t.lead_pos
  have hs := t.share
  rw [t.lead] at hp hs
  rw [e, e]
  exact ⟨h1.1, h3.1, hp, h1.2, h3.2, t.inside 1, t.inside 3, hs⟩
theorem trueC_next {l : List Sack} {b : List Take} (ys : List Int) (k : Nat) {n : Nat} (h : n < b.length) {i : Nat} (hi : b[n].s = (i : Int)) (hil : i < l.length) :
    trueC l b ys k (n + 1) = trueC l b ys k n + tookAt b ys n * kindX k (trueAt l ys i) := by
  have hl : (trueW b ys b.length).length = b.length := by simp [trueW]
  unfold trueC
  rw [sumOf_snoc _ _ b _ n h (by omega), hi, corAt_true hil]
  congr 1
  simp [trueW]
theorem trueC_bd {l : List Sack} {b : List Take} (ys : List Int) (hv : validB l b = true) (k n : Nat) : 0 ≤ trueC l b ys k n ∧ trueC l b ys k n ≤ 800000000000000 := by
  have t := truth_is ys hv
  have h8 := (validB_len hv).2
  have hw : ∀ x ∈ (trueW b ys b.length).take n, 0 ≤ x ∧ x ≤ 100000 := fun x hx => by
    have := t.ws_bd x (List.mem_of_mem_take hx)
    omega
  have h := sumOf_bd (M := 1000000000) (by omega) (fun i => kindX_bd k (t.ok i)) (b.take n) _ hw
  have hn : (b.take n).length ≤ 8 := by simp; omega
  unfold trueC
  omega

theorem top_low {l : List Sack} {b : List Take} {c : List Tint} {C D tl : Int} (h : Curve c) (F : TopF l b C D) (hv : validB l b = true) (hg : 1 ≤ (partOf l b 1).lo) {n : Int} (n0 : 0 ≤ n) (n1 : n ≤ 200)
    (hlo : (fracAt c C D).up - tl ≤ n) (hhi : n ≤ (fracAt c C D).down + tl) (hch : 0 ≤ (partOf l b 3).hi) (hgh : 1 ≤ (partOf l b 1).hi) :
    palest c (partOf l b 1).lo (partOf l b 3).hi tl ≤ n ∧ n ≤ darkest c (partOf l b 1).hi (partOf l b 3).lo tl := by
  have hcl := clay_lo hv
  have B := fracAt_bd h F.c0 F.d0 F.pos
  have B1 := fracAt_bd h (g := (partOf l b 1).lo) (y := (partOf l b 3).hi) (by omega) hch (by omega)
  have B2 := fracAt_bd h (g := (partOf l b 1).hi) (y := (partOf l b 3).lo) (by omega) hcl (by omega)
  obtain ⟨c1, c2⟩ := F.cin
  obtain ⟨d1, d2⟩ := F.din
  have m1 : (fracAt c (partOf l b 1).lo (partOf l b 3).hi).le (fracAt c C D) := frac_mono h (by omega) hch (by omega) F.c0 F.d0 F.pos (by
    rw [Int.mul_add, Int.mul_add, Int.mul_comm C]
    have p1 := mul_le_r c1 F.d0
    have p2 := mul_le_l d2 F.c0
    rw [Int.mul_assoc, Int.mul_comm 1000000000 D, ← Int.mul_assoc] at p1
    rw [← Int.mul_assoc] at p2
    omega)
  have m2 : (fracAt c C D).le (fracAt c (partOf l b 1).hi (partOf l b 3).lo) := frac_mono h F.c0 F.d0 F.pos (by omega) hcl (by omega) (by
    rw [Int.mul_add, Int.mul_add, Int.mul_comm C (partOf l b 1).hi]
    have p1 := mul_le_r c2 F.d0
    have p2 := mul_le_l d1 F.c0
    rw [Int.mul_assoc, Int.mul_comm 1000000000 D, ← Int.mul_assoc] at p1
    rw [← Int.mul_assoc] at p2
    omega)
  have u1 := Frac.up_mono B1.1 B.1 m1
  have u2 := Frac.down_mono B.1 B2.1 m2
  have e1 : (fracAt c (partOf l b 1).lo (partOf l b 3).hi).up = cdiv (fracAt c (partOf l b 1).lo (partOf l b 3).hi).top (fracAt c (partOf l b 1).lo (partOf l b 3).hi).under := up_cdiv B1.1
  unfold palest darkest
  rw [← e1]
  have e2 : (fracAt c (partOf l b 1).hi (partOf l b 3).lo).down = (fracAt c (partOf l b 1).hi (partOf l b 3).lo).top / (fracAt c (partOf l b 1).hi (partOf l b 3).lo).under := rfl
  rw [← e2]
  omega
theorem top_share {l : List Sack} {b : List Take} {c : List Tint} {C D : Int} (h : Curve c) (F : TopF l b C D) :
    (fracAt c (shareOf (heldsOf l b)).lo (1000 - (shareOf (heldsOf l b)).lo)).down ≤ (fracAt c C D).up ∧ (fracAt c C D).down ≤ (fracAt c (shareOf (heldsOf l b)).hi (1000 - (shareOf (heldsOf l b)).hi)).up := by
  obtain ⟨s1, s2, s3, s4⟩ := share_bd (heldsOf l b)
  obtain ⟨h1, h2⟩ := F.share
  generalize (shareOf (heldsOf l b)).lo = x at *
  generalize (shareOf (heldsOf l b)).hi = z at *
  have B := fracAt_bd h F.c0 F.d0 F.pos
  have B1 := fracAt_bd h (g := x) (y := 1000 - x) (by omega) (by omega) (by omega)
  have B2 := fracAt_bd h (g := z) (y := 1000 - z) (by omega) (by omega) (by omega)
  have m1 : (fracAt c x (1000 - x)).le (fracAt c C D) := frac_mono h (by omega) (by omega) (by omega) F.c0 F.d0 F.pos (by
    rw [show x + (1000 - x) = 1000 by omega]
    omega)
  have m2 : (fracAt c C D).le (fracAt c z (1000 - z)) := frac_mono h F.c0 F.d0 F.pos (by omega) (by omega) (by omega) (by
    rw [show z + (1000 - z) = 1000 by omega]
    omega)
  have u1 := Frac.down_mono B1.1 B.1 m1
  have u2 := Frac.down_mono B.1 B2.1 m2
  have u3 := Frac.down_up B.1
  have u4 := Frac.down_up B2.1
  omega
end Go.Proofs.Ytffglhnmgapndaa
