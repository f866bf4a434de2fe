/- Walks of the reference's Mixed and Mix. -/
import Derived.Test.YtkeplgpeokjdkaaPx
namespace Go.Proofs.Ytkeplgpeokjdkaa
open Go.RowKit Go.Shelf

def rmixW (l : List Sack) (n1 n2 : Nat) (total wl wh n : Int) : Bool := decide (0 ≤ (together (heldsOf l (mixB n1 n2 total n)) (carbonOver wl)).least ∧ (together (heldsOf l (mixB n1 n2 total n)) (carbonOver wh)).most ≤ 0)
theorem rmixW_eq {l : List Sack} {n1 n2 : Nat} {total wl wh : Int} (hv : sacksOk l = true) (h1 : n1 < l.length) (h2 : n2 < l.length) (hne : n1 ≠ n2) (ht : total ≤ 100000) (hw : withinB ⟨wl, wh⟩ 0 1000 = true) (n : Int) (hn : 1 ≤ n) (hn' : n < total) : rmixW l n1 n2 total wl wh n = mixW l n1 n2 total wl wh n := by
  obtain ⟨w0, w1, w2⟩ := withinB_iff.1 hw
  simp only at w0 w1 w2
  have ok1 := sacksOk_at hv h1
  have ok2 := sacksOk_at hv h2
  have k1 : (Held.mk l[n1] ⟨n, n⟩).ok := ⟨ok1, by simp only; omega, Int.le_refl _, by simp only; omega⟩
  have k2 : (Held.mk l[n2] ⟨total - n, total - n⟩).ok := ⟨ok2, by simp only; omega, Int.le_refl _, by simp only; omega⟩
  unfold rmixW mixW
  rw [mix_held l hne, sackAt_nat h1, sackAt_nat h2, decide_eq_decide, lo_iff k1 k2 w0 (by omega), hi_iff k1 k2 (by omega) w2]

structure MxdS (w : World) (wl wh : Int) (A : Option Addr) (l : List Sack) (W : World) : Prop where
  b0 : Blk W w.heap.size 25 #[.int .i64 wl, .int .i64 wh]
  sa : SackSl W W.heap.size A l
  below : Below w.heap.size w W
theorem MxdS.call {w : World} {wl wh : Int} {A : Option Addr} {l : List Sack} {W W' : World} (h : MxdS w wl wh A l W) (hb : Below W.heap.size W W') : MxdS w wl wh A l W' :=
  ⟨h.b0.below hb h.b0.lt, (h.sa.below hb).more hb.size, h.below.trans (hb.mono h.below.size)⟩
theorem MxdS.new (w : World) (wl wh : Int) (A : Option Addr) (l : List Sack) (hA : SackSl w w.heap.size A l) : MxdS w wl wh A l (w.alloc (.cells #[.int .i64 wl, .int .i64 wh] 25)) := by
  have hb : Below w.heap.size w (w.alloc (.cells #[.int .i64 wl, .int .i64 wh] 25)) := (Below.refl _ _).alloc (Nat.le_refl _) _
  exact ⟨Blk.new _ _ _, (hA.below hb).more hb.size, hb⟩
theorem takes_mix {W : World} {g : Nat} {n1 n2 : Nat} {total n : Int} (hB : Blk W g 51 #[.int .i64 n1, .int .i64 n, .int .i64 n, .int .i64 n2, .int .i64 (total - n), .int .i64 (total - n)]) : TakeSl W W.heap.size (some ⟨g, 0, none⟩) (mixB n1 n2 total n) := by
  refine fun _ => ⟨_, 0, rfl, hB.lt, fun i hi => ?_⟩
  have : i = 0 ∨ i = 1 := by simp [mixB] at hi; omega
  rcases this with rfl | rfl
  · exact ⟨hB.cell 0, hB.cell 1, hB.cell 2⟩
  · exact ⟨hB.cell 3, hB.cell 4, hB.cell 5⟩

theorem beyond_mix (W : World) (A : Option Addr) (c k g : Nat) (l : List Sack) (n1 n2 : Nat) (total n x : Int) (h0 : 0 ≤ x) (h1 : x ≤ 1000) (hl : l.length ≤ 8) (hA : SackSl W W.heap.size A l) (hB : Blk W g 51 #[.int .i64 n1, .int .i64 n, .int .i64 n, .int .i64 n2, .int .i64 (total - n), .int .i64 (total - n)]) (hl2 : ∀ s ∈ l, sackOk s = true) (hb2 : ∀ t ∈ mixB n1 n2 total n, withinB t.m 1 100000 = true) :
    Calls Try.prog 41 #[.slice A l.length c, .slice (some ⟨g, 0, none⟩) 2 k, .int .i64 x] W (Ret (.tuple #[.int .i64 (sumTo (overLo l (mixB n1 n2 total n) x) l.length), .int .i64 (sumTo (overHi l (mixB n1 n2 total n) x) l.length)]) W) :=
  beyond_any W A (some ⟨g, 0, none⟩) c k l (mixB n1 n2 total n) x h0 h1 hl (by simp [mixB]) hA (takes_mix hB) hl2 hb2

set_option maxRecDepth 100000 in
set_option maxHeartbeats 4000000 in
theorem rmixed_any (w : World) (A : Option Addr) (c : Nat) (l : List Sack) (n1 n2 : Nat) (total wl wh n : Int) (hA : SackSl w w.heap.size A l) (hv : sacksOk l = true) (h1 : n1 < l.length) (h2 : n2 < l.length) (ht : total ≤ 100000) (hw : withinB ⟨wl, wh⟩ 0 1000 = true) (hn : 1 ≤ n) (hn' : n < total) :
    Calls Try.prog 57 #[.slice A l.length c, .int .i64 n1, .int .i64 n2, .int .i64 total, .int .i64 n, .agg #[.int .i64 wl, .int .i64 wh]] w (Ret (.bool (rmixW l n1 n2 total wl wh n)) w) := by
  have hvv := mixB_valid hv h1 h2 ht hn hn'
  obtain ⟨p1, p2, p3, p4, p5, p6, p7⟩ := valid_parts hvv
  obtain ⟨w0, w1, w2⟩ := withinB_iff.1 hw
  simp only at w0 w1 w2
  have o1 := (over_eq hvv w0 (show wl ≤ 1000 by omega)).1
  have o2 := (over_eq hvv (show 0 ≤ wh by omega) w2).2
  have HR : Hid (rmixW l n1 n2 total wl wh n = decide (0 ≤ sumTo (overLo l (mixB n1 n2 total n) wl) l.length ∧ sumTo (overHi l (mixB n1 n2 total n) wh) l.length ≤ 0)) := by
    show _ = _
    unfold rmixW
    rw [o1, o2]
  have HX := Lib.hid (MxdS.new w wl wh A l hA)
  have HP3 := Lib.hid p3
  have HP4 := Lib.hid p4
  have hml : (mixB n1 n2 total n).length = 2 := rfl
  have HML := Lib.hid hml
  clear hA hv hvv p1 p2 p3 p4 p6 p7 o1 o2 hw hml
  have hbd : -1000000 ≤ total - n ∧ total - n ≤ 1000000 := by omega
  go_enter Try.func57, Try.ntmps57
  go_wp2_with fail
  have HB1 := Blk.new (w.alloc (.cells #[.int .i64 wl, .int .i64 wh] 25)) 51 #[.int .i64 n1, .int .i64 n, .int .i64 n, .int .i64 n2, .int .i64 (total - n), .int .i64 (total - n)]
  rw [World.size_alloc] at HB1
  have HB := Lib.hid HB1
  have HX1 : Hid (MxdS w wl wh A l ((w.alloc (.cells #[.int .i64 wl, .int .i64 wh] 25)).alloc (.cells #[.int .i64 n1, .int .i64 n, .int .i64 n, .int .i64 n2, .int .i64 (total - n), .int .i64 (total - n)] 51))) := HX.out.call ((Below.refl _ _).alloc (Nat.le_refl _) _)
  clear HB1 HX
  refine (beyond_mix _ A c _ _ l n1 n2 total n wl w0 (by omega) p5 HX1.out.sa HB.out HP3.out HP4.out).mono ?_
  rintro e v1 ⟨rfl, hb1⟩
  replace HB := Lib.hid (HB.out.below hb1 HB.out.lt)
  replace HX1 := Lib.hid (HX1.out.call hb1)
  clear hb1
  have c0 := HX1.out.b0.cell 0
  have c1 := HX1.out.b0.cell 1
  generalize sumTo (overLo l (mixB n1 n2 total n) wl) l.length = x at HR ⊢
  go_wp2_with fail
  refine (beyond_mix _ A c _ _ l n1 n2 total n wh (by omega) w2 p5 HX1.out.sa HB.out HP3.out HP4.out).mono ?_
  rintro e v2 ⟨rfl, hb1⟩
  have hB := (HX1.out.call hb1).below
  clear hb1 HB HX1 c0 c1
  generalize sumTo (overHi l (mixB n1 n2 total n) wh) l.length = y at HR ⊢
  by_cases t1 : 0 ≤ x
  · by_cases t2 : y ≤ 0
    · go_wp2_with fail
      go_ret
      exact ⟨ret_bool (by rw [HR.out]; simp [t1, t2]), hB⟩
    · go_wp2_with fail
      go_ret
      exact ⟨ret_bool (by rw [HR.out]; simp; omega), hB⟩
  · go_wp2_with fail
    go_ret
    exact ⟨ret_bool (by rw [HR.out]; simp; omega), hB⟩

/-- What the loop over all numbers of grams holds when it comes to k. -/
def MxR (a b k : Int) (none : Value) (po : Nat) (W : World) : Prop :=
  (none = .bool true ∧ (k ≤ a ∨ b < a) ∧ Blk W po 25 #[.int .i64 0, .int .i64 0]) ∨ (none = .bool false ∧ a ≤ b ∧ a < k ∧ Blk W po 25 #[.int .i64 a, .int .i64 (min b (k - 1))])

/-- The reference's Mix: its boxes. -/
structure RmS (w : World) (wl wh : Int) (A : Option Addr) (l : List Sack) (B : Nat) (W : World) : Prop where
  b0 : Blk W w.heap.size 25 #[.int .i64 wl, .int .i64 wh]
  b1 : Blk W (w.heap.size + 1) 25 #[.int .i64 0, .int .i64 0]
  sa : SackSl W B A l
  below : Below w.heap.size w W
  lt : w.heap.size + 1 < B
theorem RmS.keep {w : World} {wl wh : Int} {A : Option Addr} {l : List Sack} {B : Nat} {W W' : World} (h : RmS w wl wh A l B W) (hb : Below B W W') : RmS w wl wh A l B W' :=
  ⟨h.b0.below hb (by have := h.lt; omega), h.b1.below hb h.lt, h.sa.below hb, h.below.trans (hb.mono (by have := h.lt; omega)), h.lt⟩
theorem RmS.more {w : World} {wl wh : Int} {A : Option Addr} {l : List Sack} {B B' : Nat} {W : World} (h : RmS w wl wh A l B W) (hB : B ≤ B') : RmS w wl wh A l B' W := ⟨h.b0, h.b1, h.sa.more hB, h.below, by have := h.lt; omega⟩
theorem RmS.new (w : World) (wl wh : Int) (A : Option Addr) (l : List Sack) (hA : SackSl w w.heap.size A l) : RmS w wl wh A l (w.heap.size + 2) ((w.alloc (.cells #[.int .i64 wl, .int .i64 wh] 25)).alloc (.cells #[.int .i64 0, .int .i64 0] 25)) := by
  have h0 : Below w.heap.size w ((w.alloc (.cells #[.int .i64 wl, .int .i64 wh] 25)).alloc (.cells #[.int .i64 0, .int .i64 0] 25)) := by repeat (first | exact Below.refl _ _ | assumption | refine Below.drew ?_ | refine Below.alloc ?_ (by first | omega | (simp only [World.size_alloc]; omega) | simp) _ | refine Below.setCell ?_ (by first | omega | (simp only [World.size_alloc]; omega) | simp) _)
  have hB1 := Blk.new (w.alloc (.cells #[.int .i64 wl, .int .i64 wh] 25)) 25 #[.int .i64 0, .int .i64 0]
  rw [World.size_alloc] at hB1
  exact ⟨(Blk.new w 25 #[.int .i64 wl, .int .i64 wh]).alloc (.cells #[.int .i64 0, .int .i64 0] 25), hB1, (hA.below h0).more (by omega), h0, by omega⟩
theorem RmS.call {w : World} {wl wh : Int} {A : Option Addr} {l : List Sack} {B : Nat} {W W' : World} (h : RmS w wl wh A l B W) (hB : B ≤ W.heap.size) (hb : Below W.heap.size W W') : RmS w wl wh A l W'.heap.size W' := (h.keep (hb.mono hB)).more (Nat.le_trans hB hb.size)
theorem rin_is (n a b : Int) (q : Bool) (h : decide (a ≤ n ∧ n ≤ b) = q) (w : World) : Calls Try.prog 56 #[.int .i64 n, .int .i64 a, .int .i64 b] w fun e w' => e = .returned (.bool q) ∧ w = w' := by
  subst h; exact rin_any n a b w

set_option maxRecDepth 100000 in
set_option maxHeartbeats 4000000 in
theorem rmix_no (w : World) (A : Option Addr) (c : Nat) (l : List Sack) (first second total wl wh : Int) (hl : l.length ≤ 12) (hA : SackSl w w.heap.size A l) (hv : sacksOk l = false) :
    Calls Try.prog 18 #[.slice A l.length c, .int .i64 first, .int .i64 second, .int .i64 total, .agg #[.int .i64 wl, .int .i64 wh]] w (Ret (.tuple #[.agg #[.int .i64 0, .int .i64 0], .int .i64 1]) w) := by
  have HS := Lib.hid hv
  clear hv
  have HX := Lib.hid (RmS.new w wl wh A l hA); (have hle : w.heap.size ≤ w.heap.size + 1 := by omega); clear hA; go_enter Try.func18, Try.ntmps18; go_wp2_with fail; refine (rsacks_any _ A c l (by omega) (HX.out.sa.more (by simp))).mono ?_; rw [HS.out]; rintro e w1 ⟨rfl, hb1⟩; have HX1 := Lib.hid (HX.out.call (by simp) hb1); clear hb1 HX
  have hbx := HX1.out.below
  go_wp2_with (refine wpList_store_row rfl 25 (.tmp 10) (.tmp 18) rfl (w.heap.size + 1) #[.int .i64 0, .int .i64 0] rfl rfl 25 _ HX1.out.b1 (by kernel_rfl) rfl (by kernel_rfl) ?_)
  exact bodyPost_ret (results_blk_tmp rfl _ rfl (HX1.out.b1.row _) (by kernel_rfl) (by kernel_rfl)) rfl ⟨rfl, below_setRow hbx hle _⟩
set_option maxRecDepth 100000 in
set_option maxHeartbeats 8000000 in
theorem rmix_range (w : World) (A : Option Addr) (c : Nat) (l : List Sack) (first second total wl wh : Int) (hl : l.length ≤ 12) (hA : SackSl w w.heap.size A l) (hv : sacksOk l = true) (hm : mixOk l first second total wl wh = false) :
    Calls Try.prog 18 #[.slice A l.length c, .int .i64 first, .int .i64 second, .int .i64 total, .agg #[.int .i64 wl, .int .i64 wh]] w (Ret (.tuple #[.agg #[.int .i64 0, .int .i64 0], .int .i64 2]) w) := by
  have HS := Lib.hid hv
  clear hv
  cases h1 : decide (0 ≤ first ∧ first ≤ (l.length : Int) - 1) with
  | false =>
    have HI1 := Lib.hid h1
    clear h1 hm
    have HX := Lib.hid (RmS.new w wl wh A l hA); (have hle : w.heap.size ≤ w.heap.size + 1 := by omega); clear hA; go_enter Try.func18, Try.ntmps18; go_wp2_with fail; refine (rsacks_any _ A c l (by omega) (HX.out.sa.more (by simp))).mono ?_; rw [HS.out]; rintro e w1 ⟨rfl, hb1⟩; have HX1 := Lib.hid (HX.out.call (by simp) hb1); clear hb1 HX
    have hbx := HX1.out.below
    go_wp2_with fail
    refine (rin_is first 0 _ _ HI1.out _).mono ?_
    rintro e w' ⟨rfl, rfl⟩
    go_wp2_with (refine wpList_store_row rfl 25 (.tmp 10) (.tmp 48) rfl (w.heap.size + 1) #[.int .i64 0, .int .i64 0] rfl rfl 25 _ HX1.out.b1 (by kernel_rfl) rfl (by kernel_rfl) ?_)
    exact bodyPost_ret (results_blk_tmp rfl _ rfl (HX1.out.b1.row _) (by kernel_rfl) (by kernel_rfl)) rfl ⟨rfl, below_setRow hbx hle _⟩
  | true =>
    have HI1 := Lib.hid h1
    cases h2 : decide (0 ≤ second ∧ second ≤ (l.length : Int) - 1) with
    | false =>
      have HI2 := Lib.hid h2
      clear h1 h2 hm
      have HX := Lib.hid (RmS.new w wl wh A l hA); (have hle : w.heap.size ≤ w.heap.size + 1 := by omega); clear hA; go_enter Try.func18, Try.ntmps18; go_wp2_with fail; refine (rsacks_any _ A c l (by omega) (HX.out.sa.more (by simp))).mono ?_; rw [HS.out]; rintro e w1 ⟨rfl, hb1⟩; have HX1 := Lib.hid (HX.out.call (by simp) hb1); clear hb1 HX
      have hbx := HX1.out.below
      go_wp2_with fail
      refine (rin_is first 0 _ _ HI1.out _).mono ?_; rintro e w' ⟨rfl, rfl⟩; go_wp2_with fail
      refine (rin_is second 0 _ _ HI2.out _).mono ?_; rintro e w' ⟨rfl, rfl⟩
      go_wp2_with (refine wpList_store_row rfl 25 (.tmp 10) (.tmp 48) rfl (w.heap.size + 1) #[.int .i64 0, .int .i64 0] rfl rfl 25 _ HX1.out.b1 (by kernel_rfl) rfl (by kernel_rfl) ?_)
      exact bodyPost_ret (results_blk_tmp rfl _ rfl (HX1.out.b1.row _) (by kernel_rfl) (by kernel_rfl)) rfl ⟨rfl, below_setRow hbx hle _⟩
    | true =>
      have HI2 := Lib.hid h2
      by_cases h3 : first = second
      · subst h3
        clear h1 h2 hm
        have HX := Lib.hid (RmS.new w wl wh A l hA); (have hle : w.heap.size ≤ w.heap.size + 1 := by omega); clear hA; go_enter Try.func18, Try.ntmps18; go_wp2_with fail; refine (rsacks_any _ A c l (by omega) (HX.out.sa.more (by simp))).mono ?_; rw [HS.out]; rintro e w1 ⟨rfl, hb1⟩; have HX1 := Lib.hid (HX.out.call (by simp) hb1); clear hb1 HX
        have hbx := HX1.out.below
        go_wp2_with fail
        refine (rin_is first 0 _ _ HI1.out _).mono ?_; rintro e w' ⟨rfl, rfl⟩; go_wp2_with fail
        refine (rin_is first 0 _ _ HI2.out _).mono ?_
        rintro e w' ⟨rfl, rfl⟩
        go_wp2_with (refine wpList_store_row rfl 25 (.tmp 10) (.tmp 48) rfl (w.heap.size + 1) #[.int .i64 0, .int .i64 0] rfl rfl 25 _ HX1.out.b1 (by kernel_rfl) rfl (by kernel_rfl) ?_)
        exact bodyPost_ret (results_blk_tmp rfl _ rfl (HX1.out.b1.row _) (by kernel_rfl) (by kernel_rfl)) rfl ⟨rfl, below_setRow hbx hle _⟩
      · have h3b : (first == second) = false := by simpa using h3
        cases h4 : decide (2 ≤ total ∧ total ≤ 100000) with
        | false =>
          have HI3 := Lib.hid h4
          clear h1 h2 hm h4
          have HX := Lib.hid (RmS.new w wl wh A l hA); (have hle : w.heap.size ≤ w.heap.size + 1 := by omega); clear hA; go_enter Try.func18, Try.ntmps18; go_wp2_with fail; refine (rsacks_any _ A c l (by omega) (HX.out.sa.more (by simp))).mono ?_; rw [HS.out]; rintro e w1 ⟨rfl, hb1⟩; have HX1 := Lib.hid (HX.out.call (by simp) hb1); clear hb1 HX
          have hbx := HX1.out.below
          go_wp2_with fail
          refine (rin_is first 0 _ _ HI1.out _).mono ?_; rintro e w' ⟨rfl, rfl⟩; go_wp2_with fail
          refine (rin_is second 0 _ _ HI2.out _).mono ?_; rintro e w' ⟨rfl, rfl⟩
          go_wp2_with fail
          refine (rin_is total 2 100000 _ HI3.out _).mono ?_; rintro e w' ⟨rfl, rfl⟩
          go_wp2_with (refine wpList_store_row rfl 25 (.tmp 10) (.tmp 48) rfl (w.heap.size + 1) #[.int .i64 0, .int .i64 0] rfl rfl 25 _ HX1.out.b1 (by kernel_rfl) rfl (by kernel_rfl) ?_)
          exact bodyPost_ret (results_blk_tmp rfl _ rfl (HX1.out.b1.row _) (by kernel_rfl) (by kernel_rfl)) rfl ⟨rfl, below_setRow hbx hle _⟩
        | true =>
          have HI3 := Lib.hid h4
          have HW : Hid (withinB ⟨wl, wh⟩ 0 1000 = false) := by
            have e1 : idxB l first = true := by simp only [idxB, decide_eq_true_eq] at h1 ⊢; omega
            have e2 : idxB l second = true := by simp only [idxB, decide_eq_true_eq] at h2 ⊢; omega
            show _ = _
            simpa [mixOk, e1, e2, h3b, h4] using hm
          clear h1 h2 hm h4
          have HX := Lib.hid (RmS.new w wl wh A l hA); (have hle : w.heap.size ≤ w.heap.size + 1 := by omega); clear hA; go_enter Try.func18, Try.ntmps18; go_wp2_with fail; refine (rsacks_any _ A c l (by omega) (HX.out.sa.more (by simp))).mono ?_; rw [HS.out]; rintro e w1 ⟨rfl, hb1⟩; have HX1 := Lib.hid (HX.out.call (by simp) hb1); clear hb1 HX
          have c0 := HX1.out.b0.cell 0
          have c1 := HX1.out.b0.cell 1
          go_wp2_with fail
          refine (rin_is first 0 _ _ HI1.out _).mono ?_; rintro e w' ⟨rfl, rfl⟩; go_wp2_with fail
          refine (rin_is second 0 _ _ HI2.out _).mono ?_; rintro e w' ⟨rfl, rfl⟩
          go_wp2_with fail
          refine (rin_is total 2 100000 _ HI3.out _).mono ?_; rintro e w' ⟨rfl, rfl⟩
          go_wp2_with fail
          refine (rspan_any _ _ _ _ _).mono ?_
          rw [HW.out]
          rintro e w2 ⟨rfl, hb1⟩
          replace HX1 := Lib.hid (HX1.out.call (Nat.le_refl _) hb1)
          clear hb1 c0 c1
          have hbx := HX1.out.below
          go_wp2_with (refine wpList_store_row rfl 25 (.tmp 10) (.tmp 48) rfl (w.heap.size + 1) #[.int .i64 0, .int .i64 0] rfl rfl 25 _ HX1.out.b1 (by kernel_rfl) rfl (by kernel_rfl) ?_)
          exact bodyPost_ret (results_blk_tmp rfl _ rfl (HX1.out.b1.row _) (by kernel_rfl) (by kernel_rfl)) rfl ⟨rfl, below_setRow hbx hle _⟩
end Go.Proofs.Ytkeplgpeokjdkaa
