/- Walk of the reference's Weigh. -/
import Derived.Test.YtoiggflhfbfiiaaU3
import Derived.Test.YtoiggflhfbfiiaaT5
namespace Go.Proofs.Ytoiggflhfbfiiaa
open Go.RowKit Go.Shelf

def partR (l : List Sack) (b : List Take) (j : Nat) : Span := ⟨sumTo (partLo l b j) l.length / 1000000000, cdiv (sumTo (partHi l b j) l.length) 1000000000⟩

set_option maxRecDepth 100000 in
set_option maxHeartbeats 4000000 in
theorem rweigh_no (w : World) (A T : Option Addr) (c d : Nat) (l : List Sack) (b : List Take) (hl : l.length ≤ 12) (hb : b.length ≤ 12) (hA : SackSl w w.heap.size A l) (hT : TakeSl w w.heap.size T b) (hv : validB l b = false) :
    Calls Try.prog 12 #[.slice A l.length c, .slice T b.length d] w (Ret (.tuple #[.agg #[.int .i64 0, .int .i64 0, .int .i64 0, .int .i64 0, .int .i64 0, .int .i64 0, .int .i64 0, .int .i64 0, .int .i64 0, .int .i64 0], .int .i64 1]) w) := by
  have h0 : Below w.heap.size w (w.alloc (.cells #[.int .i64 0, .int .i64 0, .int .i64 0, .int .i64 0, .int .i64 0, .int .i64 0, .int .i64 0, .int .i64 0, .int .i64 0, .int .i64 0] 29)) := (Below.refl _ _).alloc (Nat.le_refl _) _
  have HA := Lib.hid ((hA.below h0).more h0.size)
  have HT := Lib.hid ((hT.below h0).more h0.size)
  have HR := Lib.hid (Blk.new w 29 #[.int .i64 0, .int .i64 0, .int .i64 0, .int .i64 0, .int .i64 0, .int .i64 0, .int .i64 0, .int .i64 0, .int .i64 0, .int .i64 0])
  have HV := Lib.hid hv
  have hle : w.heap.size ≤ w.heap.size := Nat.le_refl _
  clear hA hT hv
  cases hs : sacksOk l with
  | false =>
    have HS := Lib.hid hs
    clear hs
    go_enter Try.func12, Try.ntmps12
    go_wp2_with fail
    refine (rsacks_any _ A c l (by omega) HA.out).mono ?_
    rw [HS.out]
    rintro e w1 ⟨rfl, hb1⟩
    have HR1 := Lib.hid (HR.out.below hb1 HR.out.lt)
    have hB1 := h0.trans (hb1.mono h0.size)
    clear hb1 HR h0
    go_wp2_with (refine wpList_store_row rfl 29 (.tmp 4) (.tmp 15) rfl w.heap.size #[.int .i64 0, .int .i64 0, .int .i64 0, .int .i64 0, .int .i64 0, .int .i64 0, .int .i64 0, .int .i64 0, .int .i64 0, .int .i64 0] rfl rfl 29 _ HR1.out (by kernel_rfl) rfl (by kernel_rfl) ?_)
    exact bodyPost_ret (results_blk_tmp rfl _ rfl (HR1.out.row _) (by kernel_rfl) (by kernel_rfl)) rfl ⟨rfl, below_setRow hB1 hle _⟩
  | true =>
    have HS := Lib.hid hs
    have HB : Hid (batchB l b = false) := by
      have := HV.out
      rw [validB_split, hs] at this
      exact (by simpa using this : batchB l b = false)
    clear hs
    go_enter Try.func12, Try.ntmps12
    go_wp2_with fail
    refine (rsacks_any _ A c l (by omega) HA.out).mono ?_
    rw [HS.out]
    rintro e w1 ⟨rfl, hb1⟩
    have HR1 := Lib.hid (HR.out.below hb1 HR.out.lt)
    have hB1 := h0.trans (hb1.mono h0.size)
    replace HT := Lib.hid ((HT.out.below hb1).more hb1.size)
    clear hb1 HR h0
    go_wp2_with fail
    refine (rbatch_any _ A T c d l b (by omega) (by omega) HT.out).mono ?_
    rw [HB.out]
    rintro e w2 ⟨rfl, hb1⟩
    replace HR1 := Lib.hid (HR1.out.below hb1 HR1.out.lt)
    replace hB1 := hB1.trans (hb1.mono hB1.size)
    clear hb1
    go_wp2_with (refine wpList_store_row rfl 29 (.tmp 4) (.tmp 15) rfl w.heap.size #[.int .i64 0, .int .i64 0, .int .i64 0, .int .i64 0, .int .i64 0, .int .i64 0, .int .i64 0, .int .i64 0, .int .i64 0, .int .i64 0] rfl rfl 29 _ HR1.out (by kernel_rfl) rfl (by kernel_rfl) ?_)
    exact bodyPost_ret (results_blk_tmp rfl _ rfl (HR1.out.row _) (by kernel_rfl) (by kernel_rfl)) rfl ⟨rfl, below_setRow hB1 hle _⟩

/-- What a function of the reference has in hand: its arguments, and its result's block. -/
structure RefS (w : World) (t : TypeId) (cs : Array Value) (A T : Option Addr) (l : List Sack) (b : List Take) (W : World) : Prop where
  r : Blk W w.heap.size t cs
  sa : SackSl W W.heap.size A l
  ta : TakeSl W W.heap.size T b
  below : Below w.heap.size w W
theorem RefS.call {w : World} {t : TypeId} {cs : Array Value} {A T : Option Addr} {l : List Sack} {b : List Take} {W W' : World} (h : RefS w t cs A T l b W) (hb : Below W.heap.size W W') : RefS w t cs A T l b W' :=
  ⟨h.r.below hb h.r.lt, (h.sa.below hb).more hb.size, (h.ta.below hb).more hb.size, h.below.trans (hb.mono h.below.size)⟩
theorem RefS.new (w : World) (t : TypeId) (cs : Array Value) (A T : Option Addr) (l : List Sack) (b : List Take) (hA : SackSl w w.heap.size A l) (hT : TakeSl w w.heap.size T b) : RefS w t cs A T l b (w.alloc (.cells cs t)) := by
  have hb : Below w.heap.size w (w.alloc (.cells cs t)) := (Below.refl _ _).alloc (Nat.le_refl _) _
  exact ⟨Blk.new _ _ _, (hA.below hb).more hb.size, (hT.below hb).more hb.size, hb⟩
theorem valid_parts {l : List Sack} {b : List Take} (hv : validB l b = true) : sacksOk l = true ∧ batchB l b = true ∧ (∀ s ∈ l, sackOk s = true) ∧ (∀ t ∈ b, withinB t.m 1 100000 = true) ∧ l.length ≤ 8 ∧ 1 ≤ b.length ∧ b.length ≤ 8 := by
  have h1 := hv
  rw [validB_split, Bool.and_eq_true] at h1
  refine ⟨h1.1, h1.2, sacksOk_all h1.1, fun t ht => ?_, ?_, (validB_len hv).1, (validB_len hv).2⟩
  · have h := validB_take hv t ht
    simp only [takeOk, Bool.and_eq_true] at h
    exact h.2
  · have := h1.1
    simp only [sacksOk, Bool.and_eq_true, decide_eq_true_eq] at this
    exact this.1

set_option maxRecDepth 100000 in
set_option maxHeartbeats 4000000 in
theorem rweigh_yes (w : World) (A T : Option Addr) (c d : Nat) (l : List Sack) (b : List Take) (hA : SackSl w w.heap.size A l) (hT : TakeSl w w.heap.size T b) (hv : validB l b = true) :
    Calls Try.prog 12 #[.slice A l.length c, .slice T b.length d] w (Ret (.tuple #[.agg (spansTo (partR l b) 5), .int .i64 0]) w) := by
  have HX := Lib.hid (RefS.new w 29 #[.int .i64 0, .int .i64 0, .int .i64 0, .int .i64 0, .int .i64 0, .int .i64 0, .int .i64 0, .int .i64 0, .int .i64 0, .int .i64 0] A T l b hA hT)
  obtain ⟨p1, p2, p3, p4, p5, p6, p7⟩ := valid_parts hv
  have HS := Lib.hid p1
  have HB := Lib.hid p2
  have HL2 := Lib.hid p3
  have HB2 := Lib.hid p4
  have hle : w.heap.size ≤ w.heap.size := Nat.le_refl _
  have HP : Hid (∀ (k : Nat), k < 5 → ∀ W, RefS w 29 #[.int .i64 0, .int .i64 0, .int .i64 0, .int .i64 0, .int .i64 0, .int .i64 0, .int .i64 0, .int .i64 0, .int .i64 0, .int .i64 0] A T l b W → Calls Try.prog 36 #[.slice A l.length c, .slice T b.length d, .int .i64 k] W (Ret (.agg #[.int .i64 (partR l b k).lo, .int .i64 (partR l b k).hi]) W)) := fun k hk W h => part_any W A T c d l b k hk (by omega) (by omega) h.sa h.ta HL2.out HB2.out
  clear hA hT hv p1 p2 p3 p4
  generalize hpr : partR l b = f at HP
  have HF := Lib.hid hpr
  clear hpr
  go_enter Try.func12, Try.ntmps12
  go_wp2_with fail
  refine (rsacks_any _ A c l (by omega) HX.out.sa).mono ?_
  rw [HS.out]
  rintro e v9 ⟨rfl, hb1⟩; replace HX := Lib.hid (HX.out.call hb1); clear hb1; go_wp2_with fail
  refine (rbatch_any _ A T c d l b (by omega) (by omega) HX.out.ta).mono ?_
  rw [HB.out]
  rintro e v9 ⟨rfl, hb1⟩; replace HX := Lib.hid (HX.out.call hb1); clear hb1; go_wp2_with fail
  refine (HP.out 0 (by omega) _ HX.out).mono ?_
  rintro e v9 ⟨rfl, hb1⟩; replace HX := Lib.hid (HX.out.call hb1); clear hb1; go_wp2_with fail
  refine (HP.out 1 (by omega) _ HX.out).mono ?_
  rintro e v9 ⟨rfl, hb1⟩; replace HX := Lib.hid (HX.out.call hb1); clear hb1; go_wp2_with fail
  refine (HP.out 2 (by omega) _ HX.out).mono ?_
  rintro e v9 ⟨rfl, hb1⟩; replace HX := Lib.hid (HX.out.call hb1); clear hb1; go_wp2_with fail
  refine (HP.out 3 (by omega) _ HX.out).mono ?_
  rintro e v9 ⟨rfl, hb1⟩; replace HX := Lib.hid (HX.out.call hb1); clear hb1; go_wp2_with fail
  refine (HP.out 4 (by omega) _ HX.out).mono ?_
  rintro e v9 ⟨rfl, hb1⟩
  replace HX := Lib.hid (HX.out.call hb1)
  clear hb1
  have hbx := HX.out.below
  go_wp2_with (refine wpList_store_row rfl 29 (.tmp 4) (.tmp 31) rfl w.heap.size (spansTo f 5) rfl rfl 29 _ HX.out.r (by kernel_rfl) rfl (by kernel_rfl) ?_)
  exact bodyPost_ret (results_blk_tmp rfl _ rfl (HX.out.r.row (spansTo f 5)) (by kernel_rfl) (by kernel_rfl)) rfl ⟨rfl, below_setRow hbx hle _⟩
end Go.Proofs.Ytoiggflhfbfiiaa
