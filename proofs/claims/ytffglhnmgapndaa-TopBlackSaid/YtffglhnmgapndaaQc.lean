/- Made by program out of parts: Nb,W,X,Y,Z,Rf,Pm,Pt,Mx,T1. -/
import Derived.Test.YtffglhnmgapndaaRows
import Derived.Test.YtffglhnmgapndaaQb
import Derived.Deep.DeepCutAuto
import Derived.Deep.QuietTactic
import Derived.BigQuiet
/- Water: the walk. -/
namespace Go.Proofs.Ytffglhnmgapndaa
open Go.RowKit Go.Shelf
structure WatS (w : World) (wl wh : Int) (A : Option Addr) (hs : List Held) (W : World) : Prop where
  b0 : Blk W w.heap.size 31 #[.int .i64 wl, .int .i64 wh]
  b1 : Blk W (w.heap.size + 1) 31 #[.int .i64 0, .int .i64 0]
  ad : AdSl W W.heap.size A hs
  below : Below w.heap.size w W
theorem WatS.call {w : World} {wl wh : Int} {A : Option Addr} {hs : List Held} {W W' : World} (h : WatS w wl wh A hs W) (hb : Below W.heap.size W W') : WatS w wl wh A hs W' :=
  ⟨h.b0.below hb h.b0.lt, h.b1.below hb h.b1.lt, (h.ad.below hb).more hb.size, h.below.trans (hb.mono h.below.size)⟩

end Go.Proofs.Ytffglhnmgapndaa

/- Mix: the walk where the arguments are good. -/
namespace Go.Proofs.Ytffglhnmgapndaa
open Go.RowKit Go.Shelf

def gram (s : Sack) : Held := ⟨s, ⟨1, 1⟩⟩
structure MixS (w : World) (wl wh : Int) (W : World) : Prop where
  b0 : Blk W w.heap.size 31 #[.int .i64 wl, .int .i64 wh]
  b1 : Blk W (w.heap.size + 1) 31 #[.int .i64 0, .int .i64 0]
  below : Below w.heap.size w W
theorem MixS.call {w : World} {wl wh : Int} {W W' : World} (h : MixS w wl wh W) (hb : Below W.heap.size W W') : MixS w wl wh W' :=
  ⟨h.b0.below hb h.b0.lt, h.b1.below hb h.b1.lt, h.below.trans (hb.mono h.below.size)⟩

def MixC (w : World) (wl wh : Int) (sb so n1 n2 : Nat) (s1 s2 : Sack) (W : World) : Prop := MixS w wl wh W ∧ W.cell? ⟨sb, so + n1 * 6, none⟩ = some (.int .i64 s1.w.lo) ∧ W.cell? ⟨sb, so + n1 * 6 + 1, none⟩ = some (.int .i64 s1.w.hi) ∧ W.cell? ⟨sb, so + n1 * 6 + 2, none⟩ = some (.int .i64 s1.c.lo) ∧ W.cell? ⟨sb, so + n1 * 6 + 3, none⟩ = some (.int .i64 s1.c.hi) ∧ W.cell? ⟨sb, so + n1 * 6 + 4, none⟩ = some (.int .i64 s1.l.lo) ∧ W.cell? ⟨sb, so + n1 * 6 + 5, none⟩ = some (.int .i64 s1.l.hi) ∧ W.cell? ⟨sb, so + n2 * 6, none⟩ = some (.int .i64 s2.w.lo) ∧ W.cell? ⟨sb, so + n2 * 6 + 1, none⟩ = some (.int .i64 s2.w.hi) ∧ W.cell? ⟨sb, so + n2 * 6 + 2, none⟩ = some (.int .i64 s2.c.lo) ∧ W.cell? ⟨sb, so + n2 * 6 + 3, none⟩ = some (.int .i64 s2.c.hi) ∧ W.cell? ⟨sb, so + n2 * 6 + 4, none⟩ = some (.int .i64 s2.l.lo) ∧ W.cell? ⟨sb, so + n2 * 6 + 5, none⟩ = some (.int .i64 s2.l.hi)
theorem MixC.drew {w : World} {wl wh : Int} {sb so n1 n2 : Nat} {s1 s2 : Sack} {W : World} (h : MixC w wl wh sb so n1 n2 s1 s2 W) : MixC w wl wh sb so n1 n2 s1 s2 W.drew := ⟨⟨h.1.b0, h.1.b1, h.1.below.drew⟩, h.2⟩
theorem MixC.call {w : World} {wl wh : Int} {sb so n1 n2 : Nat} {s1 s2 : Sack} {W W' : World} (hsb : sb < w.heap.size) (hb : Below W.heap.size W W') (h : MixC w wl wh sb so n1 n2 s1 s2 W) : MixC w wl wh sb so n1 n2 s1 s2 W' := by
  obtain ⟨h0, h1, h2, h3, h4, h5, h6, h7, h8, h9, h10, h11, h12⟩ := h
  have hl : sb < W.heap.size := Nat.lt_of_lt_of_le hsb h0.below.size
  exact ⟨h0.call hb, (hb.cell (p := ⟨sb, _, none⟩) hl).trans h1, (hb.cell (p := ⟨sb, _, none⟩) hl).trans h2, (hb.cell (p := ⟨sb, _, none⟩) hl).trans h3, (hb.cell (p := ⟨sb, _, none⟩) hl).trans h4, (hb.cell (p := ⟨sb, _, none⟩) hl).trans h5, (hb.cell (p := ⟨sb, _, none⟩) hl).trans h6,
    (hb.cell (p := ⟨sb, _, none⟩) hl).trans h7, (hb.cell (p := ⟨sb, _, none⟩) hl).trans h8, (hb.cell (p := ⟨sb, _, none⟩) hl).trans h9, (hb.cell (p := ⟨sb, _, none⟩) hl).trans h10, (hb.cell (p := ⟨sb, _, none⟩) hl).trans h11, (hb.cell (p := ⟨sb, _, none⟩) hl).trans h12⟩

/-- Two function values are there, with the numbers that they hold. -/
structure MixF (w : World) (wl wh : Int) (q1 q2 : Nat) (W : World) : Prop where
  m : MixS w wl wh W
  l1 : q1 < W.heap.size
  l2 : q2 < W.heap.size
  c1 : W.cell? ⟨q1, 0, none⟩ = some (.int .i64 wl)
  c2 : W.cell? ⟨q2, 0, none⟩ = some (.int .i64 wh)
theorem MixF.call {w : World} {wl wh : Int} {q1 q2 : Nat} {W W' : World} (h : MixF w wl wh q1 q2 W) (hb : Below W.heap.size W W') : MixF w wl wh q1 q2 W' :=
  ⟨h.m.call hb, Nat.lt_of_lt_of_le h.l1 hb.size, Nat.lt_of_lt_of_le h.l2 hb.size, (hb.cell (p := ⟨q1, 0, none⟩) h.l1).trans h.c1, (hb.cell (p := ⟨q2, 0, none⟩) h.l2).trans h.c2⟩
end Go.Proofs.Ytffglhnmgapndaa

/- The results that the document fixes: sample and awake. -/
namespace Go.Proofs.Ytffglhnmgapndaa
open Go.RowKit Go.Shelf

def sampleL : List Sack := [⟨⟨10, 20⟩, ⟨900, 950⟩, ⟨0, 0⟩⟩, ⟨⟨100, 150⟩, ⟨0, 0⟩, ⟨100, 120⟩⟩]
def sampleB : List Take := [⟨0, ⟨600, 600⟩⟩, ⟨1, ⟨500, 510⟩⟩]
def AwC (w : World) (p3 p5 p7 p9 : Nat) (W : World) : Prop := Below w.heap.size w W ∧ (p3 < W.heap.size ∧ p5 < W.heap.size ∧ p7 < W.heap.size ∧ p9 < W.heap.size) ∧ W.cell? ⟨p3, 0, none⟩ = some (.int .i64 56) ∧ W.cell? ⟨p3, 1, none⟩ = some (.int .i64 89) ∧ W.cell? ⟨p3, 2, none⟩ = some (.int .i64 529) ∧ W.cell? ⟨p3, 3, none⟩ = some (.int .i64 565) ∧ W.cell? ⟨p3, 4, none⟩ = some (.int .i64 42) ∧ W.cell? ⟨p3, 5, none⟩ = some (.int .i64 56) ∧ W.cell? ⟨p3, 6, none⟩ = some (.int .i64 403) ∧ W.cell? ⟨p3, 7, none⟩ = some (.int .i64 473) ∧ W.cell? ⟨p3, 8, none⟩ = some (.int .i64 962) ∧ W.cell? ⟨p3, 9, none⟩ = some (.int .i64 1008) ∧ W.cell? ⟨p5, 0, none⟩ = some (.int .i64 528) ∧ W.cell? ⟨p5, 1, none⟩ = some (.int .i64 583) ∧ W.cell? ⟨p7, 0, none⟩ = some (.int .i64 395) ∧ W.cell? ⟨p7, 1, none⟩ = some (.int .i64 588) ∧ W.cell? ⟨p9, 0, none⟩ = some (.int .i64 509) ∧ W.cell? ⟨p9, 1, none⟩ = some (.int .i64 564)
theorem AwC.drew {w : World} {p3 p5 p7 p9 : Nat} {W : World} (h : AwC w p3 p5 p7 p9 W) : AwC w p3 p5 p7 p9 W.drew := ⟨h.1.drew, h.2⟩
theorem AwC.call {w : World} {p3 p5 p7 p9 : Nat} {W W' : World} (hb : Below W.heap.size W W') (h : AwC w p3 p5 p7 p9 W) : AwC w p3 p5 p7 p9 W' := by
  obtain ⟨h0, ⟨l3, l5, l7, l9⟩, h1, h2, h3, h4, h5, h6, h7, h8, h9, h10, h11, h12, h13, h14, h15, h16⟩ := h
  have hs := hb.size
  exact ⟨h0.trans (hb.mono h0.size), ⟨by omega, by omega, by omega, by omega⟩, (hb.cell (p := ⟨p3, 0, none⟩) l3).trans h1, (hb.cell (p := ⟨p3, 1, none⟩) l3).trans h2, (hb.cell (p := ⟨p3, 2, none⟩) l3).trans h3, (hb.cell (p := ⟨p3, 3, none⟩) l3).trans h4, (hb.cell (p := ⟨p3, 4, none⟩) l3).trans h5, (hb.cell (p := ⟨p3, 5, none⟩) l3).trans h6, (hb.cell (p := ⟨p3, 6, none⟩) l3).trans h7, (hb.cell (p := ⟨p3, 7, none⟩) l3).trans h8, (hb.cell (p := ⟨p3, 8, none⟩) l3).trans h9, (hb.cell (p := ⟨p3, 9, none⟩) l3).trans h10, (hb.cell (p := ⟨p5, 0, none⟩) l5).trans h11, (hb.cell (p := ⟨p5, 1, none⟩) l5).trans h12, (hb.cell (p := ⟨p7, 0, none⟩) l7).trans h13, (hb.cell (p := ⟨p7, 1, none⟩) l7).trans h14, (hb.cell (p := ⟨p9, 0, none⟩) l9).trans h15, (hb.cell (p := ⟨p9, 1, none⟩) l9).trans h16⟩

theorem sampleValid : validB sampleL sampleB = true := by decide +kernel
theorem sampleShare : shareOf (heldsOf sampleL sampleB) = ⟨528, 583⟩ := by
  have hok := helds_ok sampleValid
  have l0 : loP (heldsOf sampleL sampleB) 527 = false := by decide +kernel
  have l1 : loP (heldsOf sampleL sampleB) 528 = true := by decide +kernel
  have h0 : hiP (heldsOf sampleL sampleB) 582 = false := by decide +kernel
  have h1 : hiP (heldsOf sampleL sampleB) 583 = true := by decide +kernel
  unfold shareOf
  rw [firstOf_is (loP (heldsOf sampleL sampleB)) 1000 528 (by omega) (by omega) (fun x _ hx => by
      cases h : loP (heldsOf sampleL sampleB) x with
      | false => rfl
      | true => have := loP_mono hok (show x ≤ 527 by omega) h; rw [l0] at this; cases this) (fun _ => l1),
    firstOf_is (hiP (heldsOf sampleL sampleB)) 1000 583 (by omega) (by omega) (fun x _ hx => by
      cases h : hiP (heldsOf sampleL sampleB) x with
      | false => rfl
      | true => have := hiP_mono hok (show x ≤ 582 by omega) h; rw [h0] at this; cases this) (fun _ => h1)]

end Go.Proofs.Ytffglhnmgapndaa

/- Walks of the document's own definitions (reference): validity. -/
namespace Go.Proofs.Ytffglhnmgapndaa
open Go.RowKit

set_option maxHeartbeats 400000 in
theorem rspan_any (a b c d : Int) (w : World) : Calls Try.prog 15 #[.agg #[.int .i64 a, .int .i64 b], .int .i64 c, .int .i64 d] w (Ret (.bool (withinB ⟨a, b⟩ c d)) w) := by
  go_enter Try.func15, Try.ntmps15
  go_wp2
  all_goals go_ret
  all_goals exact ⟨ret_bool (by simp only [withinB]; rw [Bool.eq_iff_iff]; simp only [decide_eq_true_eq, Bool.false_eq_true, false_iff]; omega), (Below.refl _ _).alloc (Nat.le_refl _) _⟩

set_option maxHeartbeats 400000 in
theorem rin_any (n a b : Int) (w : World) : Calls Try.prog 16 #[.int .i64 n, .int .i64 a, .int .i64 b] w fun e w' => e = .returned (.bool (decide (a ≤ n ∧ n ≤ b))) ∧ w = w' := by
  go_enter Try.func16, Try.ntmps16
  go_wp2
  all_goals go_ret
  all_goals exact ⟨ret_bool (by rw [Bool.eq_iff_iff]; first | (simp only [decide_eq_true_eq, Bool.false_eq_true, false_iff]; omega) | (simp; omega)), rfl⟩

set_option maxHeartbeats 1000000 in
theorem rsacks_any (w : World) (A : Option Addr) (c : Nat) (l : List Sack) (hl : l.length ≤ 100) (hA : SackSl w w.heap.size A l) :
    Calls Try.prog 4 #[.slice A l.length c] w (Ret (.bool (sacksOk l)) w) := by
  have HS := Lib.hid hA
  clear hA
  go_enter Try.func4, Try.ntmps4
  go_wp2
  go_loopw [3] (fun i wr => ∃ k : Nat, k ≤ l.length ∧ i = .int .i64 k ∧ (l.take k).all sackOk = true ∧ Below w.heap.size w wr) (fun i _ => l.length - (intOf i).toNat)
  case atStart => exact ⟨0, by omega, rfl, by simp, Below.refl _ _⟩
  case round =>
    obtain ⟨k, hk, rfl, hall, hB⟩ := hrel
    have HA := Lib.hid hall
    clear hall
    by_cases hlt : k < l.length
    · obtain ⟨b, off, rfl, hb, hs⟩ := HS.out (by intro e; subst e; simp at hlt)
      obtain ⟨c0, c1, c2, c3, c4, c5⟩ := hs k hlt
      clear hs
      rw [← hB.cell (p := ⟨b, _, none⟩) hb] at c0 c1 c2 c3 c4 c5
      have hok : Hid (sackOk l[k] = (withinB ⟨l[k].w.lo, l[k].w.hi⟩ 0 900 && withinB ⟨l[k].c.lo, l[k].c.hi⟩ 0 1000 && withinB ⟨l[k].l.lo, l[k].l.hi⟩ 0 900)) := rfl
      have hsz := hB.size
      have hz : b < wr.heap.size := by omega
      have H8 : Hid (sackOk l[k] = false → Ending.returned (.bool false) = Ending.returned (.bool (sacksOk l))) := fun h => by rw [sacksOk_no hlt h]
      cases hx0 : withinB ⟨l[k].w.lo, l[k].w.hi⟩ 0 900 with
      | false =>
        go_wp2_with (go_at_call 15; refine (rspan_any _ _ _ _ _).mono ?_; rintro e w' ⟨rfl, hb'⟩; obtain ⟨hc', hf'⟩ := bcell hb'; have hz' : b < w'.heap.size := (by have h0 := hb'.size; omega); replace hB := hB.trans (hb'.mono hB.size); have hsz := hB.size; clear hb')
        go_ret
        exact ⟨H8.out (by rw [hok.out, hx0]; rfl), hB⟩
      | true =>
        cases hx1 : withinB ⟨l[k].c.lo, l[k].c.hi⟩ 0 1000 with
        | false =>
          go_wp2_with (go_at_call 15; refine (rspan_any _ _ _ _ _).mono ?_; rintro e w' ⟨rfl, hb'⟩; obtain ⟨hc', hf'⟩ := bcell hb'; have hz' : b < w'.heap.size := (by have h0 := hb'.size; omega); replace hB := hB.trans (hb'.mono hB.size); have hsz := hB.size; clear hb')
          go_ret
          exact ⟨H8.out (by rw [hok.out, hx0, hx1]; rfl), hB⟩
        | true =>
          cases hx2 : withinB ⟨l[k].l.lo, l[k].l.hi⟩ 0 900 with
          | false =>
            go_wp2_with (go_at_call 15; refine (rspan_any _ _ _ _ _).mono ?_; rintro e w' ⟨rfl, hb'⟩; obtain ⟨hc', hf'⟩ := bcell hb'; have hz' : b < w'.heap.size := (by have h0 := hb'.size; omega); replace hB := hB.trans (hb'.mono hB.size); have hsz := hB.size; clear hb')
            go_ret
            exact ⟨H8.out (by rw [hok.out, hx0, hx1, hx2]; rfl), hB⟩
          | true =>
            have HN : Hid ((l.take (k + 1)).all sackOk = true) := by
              show _ = _
              rw [List.take_succ_eq_append_getElem hlt, List.all_append, HA.out, List.all_cons, hok.out, hx0, hx1, hx2]; rfl
            go_wp2_with (go_at_call 15; refine (rspan_any _ _ _ _ _).mono ?_; rintro e w' ⟨rfl, hb'⟩; obtain ⟨hc', hf'⟩ := bcell hb'; have hz' : b < w'.heap.size := (by have h0 := hb'.size; omega); replace hB := hB.trans (hb'.mono hB.size); have hsz := hB.size; clear hb')
            go_roundw
            case rel => exact ⟨k + 1, by omega, by go_num, HN.out, hB⟩
            case measure => simp [intOf]; omega
    · go_wp2
      go_ret
      obtain rfl : k = l.length := by omega
      have h1 := HA.out
      rw [List.take_length] at h1
      exact ⟨ret_bool (by simp [sacksOk, h1]; omega), hB⟩
end Go.Proofs.Ytffglhnmgapndaa

/- Plain: which numbers of grams a mixture may have. -/
namespace Go.Proofs.Ytffglhnmgapndaa

/-- What a run of steps ends with: the least is reached and lies below all. -/
theorem step_char (g : St → Int) : ∀ (l : List St) (r : Reach), (∀ t ∈ l, g t ≤ r.least ∧ r.most ≤ g t) → l ≠ [] →
    (∃ t ∈ l, (l.foldl (Reach.step g) r).least = g t) ∧ (∀ t ∈ l, (l.foldl (Reach.step g) r).least ≤ g t) ∧ (∃ t ∈ l, (l.foldl (Reach.step g) r).most = g t) ∧ (∀ t ∈ l, g t ≤ (l.foldl (Reach.step g) r).most) := by
  have key : ∀ (l : List St) (r : Reach), ((l.foldl (Reach.step g) r).least = r.least ∨ ∃ t ∈ l, (l.foldl (Reach.step g) r).least = g t) ∧ (l.foldl (Reach.step g) r).least ≤ r.least ∧ (∀ t ∈ l, (l.foldl (Reach.step g) r).least ≤ g t) ∧
      ((l.foldl (Reach.step g) r).most = r.most ∨ ∃ t ∈ l, (l.foldl (Reach.step g) r).most = g t) ∧ r.most ≤ (l.foldl (Reach.step g) r).most ∧ (∀ t ∈ l, g t ≤ (l.foldl (Reach.step g) r).most) := by
    intro l
    induction l with
    | nil => intro r; simp
    | cons u l ih =>
      intro r
      obtain ⟨h1, h2, h3, h4, h5, h6⟩ := ih (r.step g u)
      simp only [List.foldl_cons]
      generalize List.foldl (Reach.step g) (r.step g u) l = z at h1 h2 h3 h4 h5 h6 ⊢
      simp only [Reach.step] at h1 h2 h4 h5
      have b2 : z.least ≤ r.least ∧ z.least ≤ g u := by clear h1 h4 h3 h6; omega
      have b5 : r.most ≤ z.most ∧ g u ≤ z.most := by clear h1 h4 h3 h6; omega
      refine ⟨?_, b2.1, ?_, ?_, b5.1, ?_⟩
      · rcases h1 with h1 | ⟨t, ht, h1⟩
        · by_cases e : r.least ≤ g u
          · exact .inl (by clear h4 h3 h6; omega)
          · exact .inr ⟨u, by simp, by clear h4 h3 h6; omega⟩
        · exact .inr ⟨t, by simp [ht], h1⟩
      · intro t ht
        rcases List.mem_cons.1 ht with rfl | ht
        · exact b2.2
        · exact h3 t ht
      · rcases h4 with h4 | ⟨t, ht, h4⟩
        · by_cases e : g u ≤ r.most
          · exact .inl (by clear h1 h3 h6; omega)
          · exact .inr ⟨u, by simp, by clear h1 h3 h6; omega⟩
        · exact .inr ⟨t, by simp [ht], h4⟩
      · intro t ht
        rcases List.mem_cons.1 ht with rfl | ht
        · exact b5.2
        · exact h6 t ht
  intro l r hl hne
  obtain ⟨h1, h2, h3, h4, h5, h6⟩ := key l r
  obtain ⟨u, hu⟩ := List.exists_mem_of_ne_nil l hne
  have hu1 := hl u hu
  refine ⟨?_, h3, ?_, h6⟩
  · rcases h1 with h1 | h1
    · exact ⟨u, hu, by have := h3 u hu; omega⟩
    · exact h1
  · rcases h4 with h4 | h4
    · exact ⟨u, hu, by have := h6 u hu; omega⟩
    · exact h4
theorem adds_char {h : Held} {g : St → Int} (hg : ∀ t ∈ h.corners, -9000000000000000000 ≤ g t ∧ g t ≤ 9000000000000000000) :
    (∃ t ∈ h.corners, (h.adds g).least = g t) ∧ (∀ t ∈ h.corners, (h.adds g).least ≤ g t) ∧ (∃ t ∈ h.corners, (h.adds g).most = g t) ∧ (∀ t ∈ h.corners, g t ≤ (h.adds g).most) :=
  step_char g h.corners _ (fun t ht => by have := hg t ht; simp only [maxI, minI]; omega) (by simp [Held.corners, Span.ends])

def St.gram (t : St) : St := { t with m := 1 }
theorem sackAt_nat {l : List Sack} {n : Nat} (h : n < l.length) : sackAt l n = l[n] := by simp [sackAt, h]
end Go.Proofs.Ytffglhnmgapndaa

/- Plain: what is true of a batch lies between the corners. -/
namespace Go.Proofs.Ytffglhnmgapndaa

structure Cor where
  w : Int
  c : Int
  s : Int

/-- A measure that is straight along each number. -/
structure Aff (g : St → Int) : Prop where
  m : ∀ w c s : Int, ∃ a b : Int, ∀ m, g ⟨m, w, c, s⟩ = a + b * m
  w : ∀ m c s : Int, ∃ a b : Int, ∀ w, g ⟨m, w, c, s⟩ = a + b * w
  c : ∀ m w s : Int, ∃ a b : Int, ∀ c, g ⟨m, w, c, s⟩ = a + b * c
  s : ∀ m w c : Int, ∃ a b : Int, ∀ s, g ⟨m, w, c, s⟩ = a + b * s
theorem aff_ge {f : Int → Int} (h : ∃ a b : Int, ∀ x, f x = a + b * x) {L lo hi x : Int} (h1 : L ≤ f lo) (h2 : L ≤ f hi) (h3 : lo ≤ x) (h4 : x ≤ hi) : L ≤ f x := by
  obtain ⟨a, b, hf⟩ := h
  rw [hf] at h1 h2 ⊢
  rcases Int.le_total 0 b with hb | hb
  · have := Int.mul_le_mul_of_nonneg_left h3 hb; omega
  · have := Int.mul_le_mul_of_nonpos_left hb h4; omega
theorem aff_le {f : Int → Int} (h : ∃ a b : Int, ∀ x, f x = a + b * x) {L lo hi x : Int} (h1 : f lo ≤ L) (h2 : f hi ≤ L) (h3 : lo ≤ x) (h4 : x ≤ hi) : f x ≤ L := by
  obtain ⟨a, b, hf⟩ := h
  rw [hf] at h1 h2 ⊢
  rcases Int.le_total 0 b with hb | hb
  · have := Int.mul_le_mul_of_nonneg_left h4 hb; omega
  · have := Int.mul_le_mul_of_nonpos_left hb h3; omega
def Span.has (s : Span) (x : Int) : Prop := s.lo ≤ x ∧ x ≤ s.hi
theorem corner_mem {h : Held} {m w c s : Int} (hm : m = h.weight.lo ∨ m = h.weight.hi) (hw : w = h.sack.w.lo ∨ w = h.sack.w.hi) (hc : c = h.sack.c.lo ∨ c = h.sack.c.hi) (hs : s = h.sack.l.lo ∨ s = h.sack.l.hi) : (⟨m, w, c, s⟩ : St) ∈ h.corners := by
  simp only [Held.corners, Span.ends, List.mem_flatMap, List.mem_map, List.mem_cons, List.not_mem_nil, or_false]
  exact ⟨m, hm, w, hw, c, hc, s, hs, rfl⟩
theorem box_ge {g : St → Int} (hg : Aff g) {h : Held} {L : Int} (hL : ∀ t ∈ h.corners, L ≤ g t) {m w c s : Int} (hm : h.weight.has m) (hw : h.sack.w.has w) (hc : h.sack.c.has c) (hs : h.sack.l.has s) : L ≤ g ⟨m, w, c, s⟩ := by
  have k1 : ∀ m w c s : Int, (m = h.weight.lo ∨ m = h.weight.hi) → (w = h.sack.w.lo ∨ w = h.sack.w.hi) → (c = h.sack.c.lo ∨ c = h.sack.c.hi) → h.sack.l.has s → L ≤ g ⟨m, w, c, s⟩ := fun m w c s a1 a2 a3 a4 =>
    aff_ge (f := fun s => g ⟨m, w, c, s⟩) (hg.s m w c) (hL _ (corner_mem a1 a2 a3 (.inl rfl))) (hL _ (corner_mem a1 a2 a3 (.inr rfl))) a4.1 a4.2
  have k2 : ∀ m w c s : Int, (m = h.weight.lo ∨ m = h.weight.hi) → (w = h.sack.w.lo ∨ w = h.sack.w.hi) → h.sack.c.has c → h.sack.l.has s → L ≤ g ⟨m, w, c, s⟩ := fun m w c s a1 a2 a3 a4 =>
    aff_ge (f := fun c => g ⟨m, w, c, s⟩) (hg.c m w s) (k1 _ _ _ _ a1 a2 (.inl rfl) a4) (k1 _ _ _ _ a1 a2 (.inr rfl) a4) a3.1 a3.2
  have k3 : ∀ m w c s : Int, (m = h.weight.lo ∨ m = h.weight.hi) → h.sack.w.has w → h.sack.c.has c → h.sack.l.has s → L ≤ g ⟨m, w, c, s⟩ := fun m w c s a1 a2 a3 a4 =>
    aff_ge (f := fun w => g ⟨m, w, c, s⟩) (hg.w m c s) (k2 _ _ _ _ a1 (.inl rfl) a3 a4) (k2 _ _ _ _ a1 (.inr rfl) a3 a4) a2.1 a2.2
  exact aff_ge (f := fun m => g ⟨m, w, c, s⟩) (hg.m w c s) (k3 _ _ _ _ (.inl rfl) hw hc hs) (k3 _ _ _ _ (.inr rfl) hw hc hs) hm.1 hm.2
theorem box_le {g : St → Int} (hg : Aff g) {h : Held} {L : Int} (hL : ∀ t ∈ h.corners, g t ≤ L) {m w c s : Int} (hm : h.weight.has m) (hw : h.sack.w.has w) (hc : h.sack.c.has c) (hs : h.sack.l.has s) : g ⟨m, w, c, s⟩ ≤ L := by
  have k1 : ∀ m w c s : Int, (m = h.weight.lo ∨ m = h.weight.hi) → (w = h.sack.w.lo ∨ w = h.sack.w.hi) → (c = h.sack.c.lo ∨ c = h.sack.c.hi) → h.sack.l.has s → g ⟨m, w, c, s⟩ ≤ L := fun m w c s a1 a2 a3 a4 =>
    aff_le (f := fun s => g ⟨m, w, c, s⟩) (hg.s m w c) (hL _ (corner_mem a1 a2 a3 (.inl rfl))) (hL _ (corner_mem a1 a2 a3 (.inr rfl))) a4.1 a4.2
  have k2 : ∀ m w c s : Int, (m = h.weight.lo ∨ m = h.weight.hi) → (w = h.sack.w.lo ∨ w = h.sack.w.hi) → h.sack.c.has c → h.sack.l.has s → g ⟨m, w, c, s⟩ ≤ L := fun m w c s a1 a2 a3 a4 =>
    aff_le (f := fun c => g ⟨m, w, c, s⟩) (hg.c m w s) (k1 _ _ _ _ a1 a2 (.inl rfl) a4) (k1 _ _ _ _ a1 a2 (.inr rfl) a4) a3.1 a3.2
  have k3 : ∀ m w c s : Int, (m = h.weight.lo ∨ m = h.weight.hi) → h.sack.w.has w → h.sack.c.has c → h.sack.l.has s → g ⟨m, w, c, s⟩ ≤ L := fun m w c s a1 a2 a3 a4 =>
    aff_le (f := fun w => g ⟨m, w, c, s⟩) (hg.w m c s) (k2 _ _ _ _ a1 (.inl rfl) a3 a4) (k2 _ _ _ _ a1 (.inr rfl) a3 a4) a2.1 a2.2
  exact aff_le (f := fun m => g ⟨m, w, c, s⟩) (hg.m w c s) (k3 _ _ _ _ (.inl rfl) hw hc hs) (k3 _ _ _ _ (.inr rfl) hw hc hs) hm.1 hm.2

/-- How much of a kind there is in a part of a gram. -/
def ofN : Nat → Int → Int → Int → Int
  | 0, w, _, _ => w * 1000 * 1000
  | 1, w, c, _ => (1000 - w) * c * 1000
  | 2, w, c, s => (1000 - w) * (1000 - c) * s
  | 3, w, c, s => (1000 - w) * (1000 - c) * (1000 - s)
  | _, w, c, s => (1000 - w) * c * 1000 + (1000 - w) * (1000 - c) * (1000 - s)
theorem partG_of (k : Nat) (m w c s : Int) : partG k ⟨m, w, c, s⟩ = m * ofN k w c s := by
  match k with
  | 0 => simp only [partG, ofN, St.water]; grind
  | 1 => simp only [partG, ofN, St.carbon, St.dry]; grind
  | 2 => simp only [partG, ofN, St.smoke, St.dry]; grind
  | 3 => simp only [partG, ofN, St.clay, St.dry]; grind
  | n + 4 => simp only [partG, ofN, St.lead, St.carbon, St.clay, St.dry]; grind
theorem aff_part (k : Nat) : Aff (partG k) := by
  match k with
  | 0 => exact ⟨fun w c s => ⟨0, w * 1000000, fun m => by simp only [partG, St.water]; grind⟩, fun m c s => ⟨0, m * 1000000, fun w => by simp only [partG, St.water]; grind⟩, fun m w s => ⟨m * w * 1000000, 0, fun c => by simp only [partG, St.water]; grind⟩, fun m w c => ⟨m * w * 1000000, 0, fun s => by simp only [partG, St.water]; grind⟩⟩
  | 1 => exact ⟨fun w c s => ⟨0, (1000 - w) * c * 1000, fun m => by simp only [partG, St.carbon, St.dry]; grind⟩, fun m c s => ⟨m * 1000 * c * 1000, -(m * c * 1000), fun w => by simp only [partG, St.carbon, St.dry]; grind⟩, fun m w s => ⟨0, m * (1000 - w) * 1000, fun c => by simp only [partG, St.carbon, St.dry]; grind⟩, fun m w c => ⟨m * (1000 - w) * c * 1000, 0, fun s => by simp only [partG, St.carbon, St.dry]; grind⟩⟩
  | 2 => exact ⟨fun w c s => ⟨0, (1000 - w) * (1000 - c) * s, fun m => by simp only [partG, St.smoke, St.dry]; grind⟩, fun m c s => ⟨m * 1000 * (1000 - c) * s, -(m * (1000 - c) * s), fun w => by simp only [partG, St.smoke, St.dry]; grind⟩, fun m w s => ⟨m * (1000 - w) * 1000 * s, -(m * (1000 - w) * s), fun c => by simp only [partG, St.smoke, St.dry]; grind⟩, fun m w c => ⟨0, m * (1000 - w) * (1000 - c), fun s => by simp only [partG, St.smoke, St.dry]; grind⟩⟩
  | 3 => exact ⟨fun w c s => ⟨0, (1000 - w) * (1000 - c) * (1000 - s), fun m => by simp only [partG, St.clay, St.dry]; grind⟩, fun m c s => ⟨m * 1000 * (1000 - c) * (1000 - s), -(m * (1000 - c) * (1000 - s)), fun w => by simp only [partG, St.clay, St.dry]; grind⟩, fun m w s => ⟨m * (1000 - w) * 1000 * (1000 - s), -(m * (1000 - w) * (1000 - s)), fun c => by simp only [partG, St.clay, St.dry]; grind⟩, fun m w c => ⟨m * (1000 - w) * (1000 - c) * 1000, -(m * (1000 - w) * (1000 - c)), fun s => by simp only [partG, St.clay, St.dry]; grind⟩⟩
  | n + 4 =>
    refine ⟨fun w c s => ⟨0, (1000 - w) * c * 1000 + (1000 - w) * (1000 - c) * (1000 - s), fun m => ?_⟩, fun m c s => ⟨m * 1000 * c * 1000 + m * 1000 * (1000 - c) * (1000 - s), -(m * c * 1000) - m * (1000 - c) * (1000 - s), fun w => ?_⟩,
      fun m w s => ⟨m * (1000 - w) * 1000 * (1000 - s), m * (1000 - w) * 1000 - m * (1000 - w) * (1000 - s), fun c => ?_⟩, fun m w c => ⟨m * (1000 - w) * c * 1000 + m * (1000 - w) * (1000 - c) * 1000, -(m * (1000 - w) * (1000 - c)), fun s => ?_⟩⟩ <;>
    · simp only [partG, St.lead, St.carbon, St.clay, St.dry]; grind
theorem aff_lin {g g' : St → Int} (h : Aff g) (h' : Aff g') (x y : Int) : Aff fun t => x * g t - y * g' t := by
  refine ⟨fun w c s => ?_, fun m c s => ?_, fun m w s => ?_, fun m w c => ?_⟩
  · obtain ⟨a, b, e⟩ := h.m w c s; obtain ⟨a', b', e'⟩ := h'.m w c s
    exact ⟨x * a - y * a', x * b - y * b', fun m => by rw [e, e']; grind⟩
  · obtain ⟨a, b, e⟩ := h.w m c s; obtain ⟨a', b', e'⟩ := h'.w m c s
    exact ⟨x * a - y * a', x * b - y * b', fun m => by rw [e, e']; grind⟩
  · obtain ⟨a, b, e⟩ := h.c m w s; obtain ⟨a', b', e'⟩ := h'.c m w s
    exact ⟨x * a - y * a', x * b - y * b', fun m => by rw [e, e']; grind⟩
  · obtain ⟨a, b, e⟩ := h.s m w c; obtain ⟨a', b', e'⟩ := h'.s m w c
    exact ⟨x * a - y * a', x * b - y * b', fun m => by rw [e, e']; grind⟩
theorem aff_over (n : Int) : Aff (carbonOver n) := aff_lin (aff_part 1) (aff_part 4) 1000 n
/-- What is true of all sacks, by their numbers. -/
def Sack.fits (s : Sack) (x : Cor) : Prop := s.w.has x.w ∧ s.c.has x.c ∧ s.l.has x.s
/-- The weights that are true of takes. -/
def fitsW : List Take → List Int → Prop
  | [], [] => True
  | t :: b, x :: ws => t.m.has x ∧ fitsW b ws
  | _, _ => False
/-- The sum over takes of what a gram of each has. -/
def sumOf (X : Cor → Int) (T : Int → Cor) : List Take → List Int → Int
  | t :: b, x :: ws => x * X (T t.s) + sumOf X T b ws
  | _, _ => 0

def upd3 : List (Int × Held × Int) → Int → Held × Int → List (Int × Held × Int)
  | [], k, v => [(k, v)]
  | (a, b) :: l, k, v => if a = k then (a, v) :: l else (a, b) :: upd3 l k v
def old3 : List (Int × Held × Int) → Int → Int
  | [], _ => 0
  | (a, b) :: l, k => if a = k then b.2 else old3 l k
def p3 (m : List (Int × Held × Int)) : List (Int × Held) := m.map fun p => (p.1, p.2.1)
def sum3 (X : Cor → Int) (T : Int → Cor) : List (Int × Held × Int) → Int
  | [] => 0
  | (a, b) :: l => b.2 * X (T a) + sum3 X T l
theorem p3_upd (k : Int) (v : Held × Int) : ∀ m, p3 (upd3 m k v) = updH (p3 m) k v.1
  | [] => rfl
  | (a, b) :: l => by
    have := p3_upd k v l
    unfold upd3 
    simp only [p3, List.map_cons] at this ⊢
    unfold updH
    by_cases h : a = k
    · simp [h]
    · simp [h, this]
theorem sum3_upd (X : Cor → Int) (T : Int → Cor) (k : Int) (v : Held × Int) : ∀ m, sum3 X T (upd3 m k v) = sum3 X T m + (v.2 - old3 m k) * X (T k)
  | [] => by simp [upd3, sum3, old3]
  | (a, b) :: l => by
    have := sum3_upd X T k v l
    unfold upd3 old3
    by_cases h : a = k
    · subst h
      simp only [if_true, sum3]
      grind
    · simp only [h, if_false, sum3, this]
      omega
theorem mem_upd3 (k : Int) (v : Held × Int) : ∀ (m : List (Int × Held × Int)) (p), p ∈ upd3 m k v → p = (k, v) ∨ p ∈ m
  | [], p, h => by simp [upd3] at h; exact .inl h
  | (a, b) :: l, p, h => by
    unfold upd3 at h
    split at h
    · rename_i e
      subst e
      simp at h
      rcases h with rfl | h
      · exact .inl rfl
      · exact .inr (by simp [h])
    · simp at h
      rcases h with rfl | h
      · exact .inr (by simp)
      · rcases mem_upd3 k v l p h with h | h
        · exact .inl h
        · exact .inr (by simp [h])
theorem old3_in (k : Int) : ∀ m : List (Int × Held × Int), (∀ p ∈ m, p.2.1.weight.has p.2.2) → (oldH (p3 m) k).weight.has (old3 m k)
  | [], _ => by simp [p3, oldH, old3, Span.has]
  | (a, b) :: l, h => by
    have h2 := old3_in k l fun p hp => h p (by simp [hp])
    have h1 := h (a, b) (by simp)
    simp only [p3, List.map_cons] at h2 ⊢
    unfold oldH old3
    by_cases e : a = k
    · simpa [e] using h1
    · simpa [e] using h2
theorem gather3 (l : List Sack) (X : Cor → Int) (T : Int → Cor) : ∀ (b : List Take) (ws : List Int) (m : List (Int × Held × Int)), fitsW b ws → (∀ p ∈ m, p.2.1.weight.has p.2.2) →
    ∃ m', p3 m' = b.foldl (gstep l) (p3 m) ∧ (∀ p ∈ m', p.2.1.weight.has p.2.2) ∧ sum3 X T m' = sum3 X T m + sumOf X T b ws
  | [], [], m, _, hm => ⟨m, rfl, hm, by simp [sumOf]⟩
  | t :: b, x :: ws, m, h, hm => by
    have ho := old3_in t.s m hm
    obtain ⟨m', h1, h2, h3⟩ := gather3 l X T b ws (upd3 m t.s (⟨sackAt l t.s, ⟨(oldH (p3 m) t.s).weight.lo + t.m.lo, (oldH (p3 m) t.s).weight.hi + t.m.hi⟩⟩, old3 m t.s + x)) h.2 (by
      intro p hp
      rcases mem_upd3 _ _ _ _ hp with rfl | hp
      · have := h.1
        simp only [Span.has] at this ho ⊢
        omega
      · exact hm p hp)
    refine ⟨m', ?_, h2, ?_⟩
    · rw [h1, p3_upd]; rfl
    · rw [h3, sum3_upd]
      simp only [sumOf]
      have e : old3 m t.s + x - old3 m t.s = x := by omega
      rw [e]
      omega
  | [], _ :: _, _, h, _ => h.elim
  | _ :: _, [], _, h, _ => h.elim

def tfold (g : St → Int) (l : List Held) (r : Reach) : Reach := l.foldl (fun (r : Reach) (h : Held) => r.plus (h.adds g)) r
theorem plus_fold (g : St → Int) : ∀ (l : List Held) (r : Reach), (tfold g l r).least = r.least + (tfold g l ⟨0, 0⟩).least ∧ (tfold g l r).most = r.most + (tfold g l ⟨0, 0⟩).most
  | [], r => by simp [tfold]
  | h :: l, r => by
    have h1 := plus_fold g l (r.plus (h.adds g))
    have h2 := plus_fold g l (Reach.plus ⟨0, 0⟩ (h.adds g))
    have e : ∀ r, tfold g (h :: l) r = tfold g l (r.plus (h.adds g)) := fun _ => rfl
    rw [e, e, h1.1, h1.2, h2.1, h2.2]
    simp only [Reach.plus]
    omega
theorem together_cons (h : Held) (l : List Held) (g : St → Int) : (together (h :: l) g).least = (h.adds g).least + (together l g).least ∧ (together (h :: l) g).most = (h.adds g).most + (together l g).most := by
  have := plus_fold g l (Reach.plus ⟨0, 0⟩ (h.adds g))
  have e : together (h :: l) g = tfold g l (Reach.plus ⟨0, 0⟩ (h.adds g)) := rfl
  have e2 : together l g = tfold g l ⟨0, 0⟩ := rfl
  rw [e, e2, this.1, this.2]
  simp only [Reach.plus]
  omega
/-- Whatever is true: the sum lies within the reach. -/
theorem true_within {l : List Sack} {b : List Take} {ws : List Int} (hv : validB l b = true) (hW : fitsW b ws) {T : Int → Cor} (hT : ∀ t ∈ b, (sackAt l t.s).fits (T t.s)) {g : St → Int} {X : Cor → Int} (hg : Aff g) (hX : ∀ m w c s, g ⟨m, w, c, s⟩ = m * X ⟨w, c, s⟩)
    (hbd : ∀ t : St, t.ok → -800000000000000000 ≤ g t ∧ g t ≤ 800000000000000000) : (together (heldsOf l b) g).least ≤ sumOf X T b ws ∧ sumOf X T b ws ≤ (together (heldsOf l b) g).most := by
  obtain ⟨m, h1, h2, h3⟩ := gather3 l X T b ws [] hW (by simp)
  have h1' : p3 m = gather l b := h1
  simp only [sum3, Int.zero_add] at h3
  have e : heldsOf l b = m.map fun p => p.2.1 := by
    unfold heldsOf
    rw [← h1']
    simp [p3, Function.comp_def]
  have hok := helds_ok hv
  have hbt : ∀ t ∈ b, withinB t.m 1 100000 = true := fun t ht => by have := validB_take hv t ht; simp only [takeOk, Bool.and_eq_true] at this; exact this.2
  have hk : ∀ p ∈ m, p.2.1.sack.fits (T p.1) := by
    intro p hp
    have hp' : (p.1, p.2.1) ∈ gather l b := by rw [← h1']; exact List.mem_map.2 ⟨p, hp, rfl⟩
    obtain ⟨t, ht, hs⟩ := gather_key l b _ hp'
    have := (gather_bd l b hbt _ hp').1
    simp only at this hs
    rw [this, ← hs]
    exact hT t ht
  rw [e] at hok ⊢
  rw [← h3]
  clear h1 h1' h3 e
  induction m with
  | nil => simp [together, sum3]
  | cons p m ih =>
    have i1 := ih (fun q hq => h2 q (by simp [hq])) (fun q hq => hok q (by simp only [List.map_cons, List.mem_cons]; exact .inr hq)) fun q hq => hk q (by simp [hq])
    have k1 := h2 p (by simp)
    have k2 := hok p.2.1 (by simp)
    obtain ⟨f1, f2, f3⟩ := hk p (by simp)
    obtain ⟨_, c2, _, c4⟩ := adds_char (h := p.2.1) (g := g) (fun t ht => by have := hbd t (Held.corner_ok k2 t ht); omega)
    have x1 := box_ge hg c2 k1 f1 f2 f3
    have x2 := box_le hg c4 k1 f1 f2 f3
    rw [hX] at x1 x2
    have y := together_cons p.2.1 (m.map fun p => p.2.1) g
    simp only [List.map_cons, sum3]
    rw [y.1, y.2]
    have z : X ⟨(T p.1).w, (T p.1).c, (T p.1).s⟩ = X (T p.1) := rfl
    rw [z] at x1 x2
    omega
end Go.Proofs.Ytffglhnmgapndaa

/- The law's function value 'within': a mixture's share. -/
namespace Go.Proofs.Ytffglhnmgapndaa
open Go.RowKit Go.Shelf
structure Cap (w : World) (A : Option Addr) (c : Nat) (l : List Sack) (n1 n2 : Nat) (total wl wh : Int) (q1 q2 q3 q4 q5 : Nat) (W : World) : Prop where
  below : Below w.heap.size w W
  c1 : W.cell? ⟨q1, 0, none⟩ = some (.slice A l.length c)
  c2 : W.cell? ⟨q2, 0, none⟩ = some (.int .i64 n1)
  c3 : W.cell? ⟨q3, 0, none⟩ = some (.int .i64 n2)
  c4 : W.cell? ⟨q4, 0, none⟩ = some (.int .i64 total)
  c5 : W.cell? ⟨q5, 0, none⟩ = some (.int .i64 wl)
  c6 : W.cell? ⟨q5, 1, none⟩ = some (.int .i64 wh)
  l1 : q1 < w.heap.size
  l2 : q2 < w.heap.size
  l3 : q3 < w.heap.size
  l4 : q4 < w.heap.size
  l5 : q5 < w.heap.size
theorem Cap.to {w : World} {A : Option Addr} {c : Nat} {l : List Sack} {n1 n2 : Nat} {total wl wh : Int} {q1 q2 q3 q4 q5 : Nat} {W W' : World} (h : Cap w A c l n1 n2 total wl wh q1 q2 q3 q4 q5 W) (hb : Below w.heap.size W W') : Cap w A c l n1 n2 total wl wh q1 q2 q3 q4 q5 W' :=
  ⟨h.below.trans hb, (hb.cell (p := ⟨q1, 0, none⟩) h.l1).trans h.c1, (hb.cell (p := ⟨q2, 0, none⟩) h.l2).trans h.c2, (hb.cell (p := ⟨q3, 0, none⟩) h.l3).trans h.c3, (hb.cell (p := ⟨q4, 0, none⟩) h.l4).trans h.c4, (hb.cell (p := ⟨q5, 0, none⟩) h.l5).trans h.c5, (hb.cell (p := ⟨q5, 1, none⟩) h.l5).trans h.c6, h.l1, h.l2, h.l3, h.l4, h.l5⟩
def CapS (w : World) (A : Option Addr) (c : Nat) (l : List Sack) (n1 n2 : Nat) (total : Int) (q1 q2 q3 q4 : Nat) (W : World) : Prop :=
  Below w.heap.size w W ∧ W.cell? ⟨q1, 0, none⟩ = some (.slice A l.length c) ∧ W.cell? ⟨q2, 0, none⟩ = some (.int .i64 n1) ∧ W.cell? ⟨q3, 0, none⟩ = some (.int .i64 n2) ∧ W.cell? ⟨q4, 0, none⟩ = some (.int .i64 total)
theorem Cap.s {w : World} {A : Option Addr} {c : Nat} {l : List Sack} {n1 n2 : Nat} {total wl wh : Int} {q1 q2 q3 q4 q5 : Nat} (h : Cap w A c l n1 n2 total wl wh q1 q2 q3 q4 q5 w) {W : World} (hb : Below w.heap.size w W) : CapS w A c l n1 n2 total q1 q2 q3 q4 W :=
  ⟨hb, (h.to hb).c1, (h.to hb).c2, (h.to hb).c3, (h.to hb).c4⟩

theorem CapS.call {w : World} {A : Option Addr} {c : Nat} {l : List Sack} {n1 n2 : Nat} {total wl wh : Int} {q1 q2 q3 q4 q5 : Nat} (h : Cap w A c l n1 n2 total wl wh q1 q2 q3 q4 q5 w) {W W' : World} (hb : Below W.heap.size W W') (hs : CapS w A c l n1 n2 total q1 q2 q3 q4 W) : CapS w A c l n1 n2 total q1 q2 q3 q4 W' :=
  h.s (hs.1.trans (hb.mono hs.1.size))
theorem CapS.alloc {w : World} {A : Option Addr} {c : Nat} {l : List Sack} {n1 n2 : Nat} {total wl wh : Int} {q1 q2 q3 q4 q5 : Nat} (h : Cap w A c l n1 n2 total wl wh q1 q2 q3 q4 q5 w) {W : World} (o : Obj) (hs : CapS w A c l n1 n2 total q1 q2 q3 q4 W) : CapS w A c l n1 n2 total q1 q2 q3 q4 (W.alloc o) :=
  h.s (hs.1.alloc hs.1.size o)

theorem CapS.b {w : World} {A : Option Addr} {c : Nat} {l : List Sack} {n1 n2 : Nat} {total : Int} {q1 q2 q3 q4 : Nat} {W : World} (hs : CapS w A c l n1 n2 total q1 q2 q3 q4 W) : Below w.heap.size w W := hs.1
def BxS (w : World) (p : Nat) (W : World) : Prop := Blk W p 31 #[.int .i64 0, .int .i64 0] ∧ w.heap.size ≤ p
theorem BxS.call {w : World} {p : Nat} {W W' : World} (h : BxS w p W) (hb : Below W.heap.size W W') : BxS w p W' := ⟨h.1.below hb h.1.lt, h.2⟩
theorem BxS.new {w W : World} (h : w.heap.size ≤ W.heap.size) : BxS w W.heap.size (W.alloc (.cells #[.int .i64 0, .int .i64 0] 31)) := ⟨Blk.new _ _ _, h⟩
theorem BxS.alloc {w : World} {p : Nat} {W : World} (h : BxS w p W) (o : Obj) : BxS w p (W.alloc o) := ⟨h.1.alloc o, h.2⟩
end Go.Proofs.Ytffglhnmgapndaa

/- Walks of the small functions of the laws and of the reference: Of, pick, inside, Batch. -/
namespace Go.Proofs.Ytffglhnmgapndaa
open Go.RowKit Go.Shelf

theorem below_drewN {B : Nat} {a w : World} (h : Below B a w) (n : Nat) : Below B a (w.drewN n) := ⟨h.os, h.tape, h.output, h.size, h.block⟩
theorem of_bds {w c s : Int} (h1 : 0 ≤ w) (h2 : w ≤ 900) (h3 : 0 ≤ c) (h4 : c ≤ 1000) (h5 : 0 ≤ s) (h6 : s ≤ 900) :
    (0 ≤ (1000 - w) * c ∧ (1000 - w) * c ≤ 1000000) ∧ (0 ≤ (1000 - w) * (1000 - c) ∧ (1000 - w) * (1000 - c) ≤ 1000000) ∧ (0 ≤ (1000 - w) * (1000 - c) * s ∧ (1000 - w) * (1000 - c) * s ≤ 900000000) ∧ (0 ≤ (1000 - w) * (1000 - c) * (1000 - s) ∧ (1000 - w) * (1000 - c) * (1000 - s) ≤ 1000000000) := by
  have a1 := mul_bd (show 0 ≤ 1000 - w by omega) (show 1000 - w ≤ 1000 by omega) h3 h4
  have a2 := mul_bd (show 0 ≤ 1000 - w by omega) (show 1000 - w ≤ 1000 by omega) (show 0 ≤ 1000 - c by omega) (show 1000 - c ≤ 1000 by omega)
  have a3 := mul_bd a2.1 a2.2 h5 h6
  have a4 := mul_bd a2.1 a2.2 (show 0 ≤ 1000 - s by omega) (show 1000 - s ≤ 1000 by omega)
  omega
theorem ofN_bd (k : Nat) {w c s : Int} (h1 : 0 ≤ w) (h2 : w ≤ 900) (h3 : 0 ≤ c) (h4 : c ≤ 1000) (h5 : 0 ≤ s) (h6 : s ≤ 900) : 0 ≤ ofN k w c s ∧ ofN k w c s ≤ 1000000000 := by
  have h := of_bds h1 h2 h3 h4 h5 h6
  have e := St.part_eq ⟨1, w, c, s⟩
  simp only [St.carbon, St.smoke, St.clay, St.dry, Int.one_mul] at e
  match k with
  | 0 => simp only [ofN]; omega
  | 1 => simp only [ofN]; omega
  | 2 => simp only [ofN]; omega
  | 3 => simp only [ofN]; omega
  | n + 4 => simp only [ofN]; omega

def pickV (lo hi y : Int) : Int := lo + y % (hi - lo + 1)
theorem pickV_bd {lo hi y : Int} (h : lo ≤ hi) : lo ≤ pickV lo hi y ∧ pickV lo hi y ≤ hi := by
  have h1 := Int.emod_nonneg y (show hi - lo + 1 ≠ 0 by omega)
  have h2 := Int.emod_lt_of_pos y (show 0 < hi - lo + 1 by omega)
  unfold pickV
  omega
theorem batch_no {l : List Sack} {b : List Take} {k : Nat} (h : k < b.length) (hk : takeOk l b[k] = false) : b.all (takeOk l) = false := by
  rw [List.all_eq_false]
  exact ⟨b[k], List.getElem_mem h, by simp [hk]⟩
def batchB (l : List Sack) (b : List Take) : Bool := decide (1 ≤ b.length ∧ b.length ≤ 8) && b.all (takeOk l)
theorem validB_split (l : List Sack) (b : List Take) : validB l b = (sacksOk l && batchB l b) := by
  simp [validB, batchB, Bool.and_assoc]

set_option maxHeartbeats 1000000 in
theorem rbatch_any (w : World) (A T : Option Addr) (c d : Nat) (l : List Sack) (b : List Take) (hl : l.length ≤ 100) (hb : b.length ≤ 100) (hT : TakeSl w w.heap.size T b) :
    Calls Try.prog 5 #[.slice A l.length c, .slice T b.length d] w (Ret (.bool (batchB l b)) w) := by
  have HS := Lib.hid hT
  clear hT
  go_enter Try.func5, Try.ntmps5
  go_wp2
  go_loopw [5] (fun i wr => ∃ k : Nat, k ≤ b.length ∧ i = .int .i64 k ∧ (b.take k).all (takeOk l) = true ∧ Below w.heap.size w wr) (fun i _ => b.length - (intOf i).toNat)
  case atStart => exact ⟨0, by omega, rfl, by simp, Below.refl _ _⟩
  case round =>
    obtain ⟨k, hk, rfl, hall, hB⟩ := hrel
    have HA := Lib.hid hall
    clear hall
    by_cases hlt : k < b.length
    · obtain ⟨p, off, rfl, hp, hs⟩ := HS.out (by intro e; subst e; simp at hlt)
      obtain ⟨c0, c1, c2⟩ := hs k hlt
      clear hs
      rw [← hB.cell (p := ⟨p, _, none⟩) hp] at c0 c1 c2
      have hok : Hid (takeOk l b[k] = (decide (0 ≤ b[k].s ∧ b[k].s ≤ (l.length : Int) - 1) && withinB ⟨b[k].m.lo, b[k].m.hi⟩ 1 100000)) := by
        show _ = _
        unfold takeOk idxB
        congr 1
        rw [Bool.eq_iff_iff]; simp only [decide_eq_true_eq]; omega
      have H8 : Hid (takeOk l b[k] = false → Ending.returned (.bool false) = Ending.returned (.bool (batchB l b))) := fun h => by simp [batchB, batch_no hlt h]
      cases hx : decide (0 ≤ b[k].s ∧ b[k].s ≤ (l.length : Int) - 1) with
      | false =>
        have HX := Lib.hid hx
        clear hx
        go_wp2_with (go_at_call 16; refine (rin_any _ _ _ _).mono ?_; rw [HX.out]; rintro e w' ⟨rfl, rfl⟩)
        go_ret
        exact ⟨H8.out (by rw [hok.out, HX.out]; rfl), hB⟩
      | true =>
        have HX := Lib.hid hx
        clear hx
        cases hy : withinB ⟨b[k].m.lo, b[k].m.hi⟩ 1 100000 with
        | false =>
          have HY := Lib.hid hy
          clear hy
          go_wp2_with (first | (go_at_call 16; refine (rin_any _ _ _ _).mono ?_; rw [HX.out]; rintro e w' ⟨rfl, rfl⟩) | (go_at_call 15; refine (rspan_any _ _ _ _ _).mono ?_; rw [HY.out]; rintro e w' ⟨rfl, hb'⟩; replace hB := hB.trans (hb'.mono hB.size); clear hb'))
          go_ret
          exact ⟨H8.out (by rw [hok.out, HX.out, HY.out]; rfl), hB⟩
        | true =>
          have HY := Lib.hid hy
          clear hy
          have HN : Hid ((b.take (k + 1)).all (takeOk l) = true) := by
            show _ = _
            rw [List.take_succ_eq_append_getElem hlt, List.all_append, HA.out, List.all_cons, hok.out, HX.out, HY.out]; rfl
          go_wp2_with (first | (go_at_call 16; refine (rin_any _ _ _ _).mono ?_; rw [HX.out]; rintro e w' ⟨rfl, rfl⟩) | (go_at_call 15; refine (rspan_any _ _ _ _ _).mono ?_; rw [HY.out]; rintro e w' ⟨rfl, hb'⟩; replace hB := hB.trans (hb'.mono hB.size); clear hb' c0 c1 c2))
          go_roundw
          case rel => exact ⟨k + 1, by omega, by go_num, HN.out, hB⟩
          case measure => simp [intOf]; omega
    · have HE : Hid (decide ((1 : Int) ≤ b.length ∧ (b.length : Int) ≤ 8) = batchB l b) := by
        obtain rfl : k = b.length := by omega
        have h1 := HA.out
        rw [List.take_length] at h1
        show _ = _
        rw [batchB, h1, Bool.and_true, Bool.eq_iff_iff]
        simp only [decide_eq_true_eq]; omega
      go_wp2_with (go_at_call 16; refine (rin_any _ _ _ _).mono ?_; rw [HE.out]; rintro e w' ⟨rfl, rfl⟩)
      go_ret
      exact ⟨rfl, hB⟩
end Go.Proofs.Ytffglhnmgapndaa

