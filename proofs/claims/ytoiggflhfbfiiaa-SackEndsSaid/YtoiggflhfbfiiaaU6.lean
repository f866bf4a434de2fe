/- Walk of the reference's Share. -/
import Derived.Test.YtoiggflhfbfiiaaU5
namespace Go.Proofs.Ytoiggflhfbfiiaa
open Go.RowKit Go.Shelf

/-- The same, with all of it below a block. -/
structure RefB (w : World) (t : TypeId) (cs : Array Value) (A T : Option Addr) (l : List Sack) (b : List Take) (B : Nat) (W : World) : Prop where
  r : Blk W w.heap.size t cs
  sa : SackSl W B A l
  ta : TakeSl W B T b
  below : Below w.heap.size w W
  lt : w.heap.size < B
theorem RefB.keep {w : World} {t : TypeId} {cs : Array Value} {A T : Option Addr} {l : List Sack} {b : List Take} {B : Nat} {W W' : World} (h : RefB w t cs A T l b B W) (hb : Below B W W') : RefB w t cs A T l b B W' :=
  ⟨h.r.below hb h.lt, h.sa.below hb, h.ta.below hb, h.below.trans (hb.mono (Nat.le_of_lt h.lt)), h.lt⟩
theorem RefS.fix {w : World} {t : TypeId} {cs : Array Value} {A T : Option Addr} {l : List Sack} {b : List Take} {W : World} (h : RefS w t cs A T l b W) : RefB w t cs A T l b W.heap.size W := ⟨h.r, h.sa, h.ta, h.below, h.r.lt⟩

/-- The share as the reference finds it: from 0 up to n. -/
def shLo (l : List Sack) (b : List Take) : Nat → Int
  | 0 => 0
  | n + 1 => if 0 ≤ sumTo (overLo l b n) l.length then n else shLo l b n
def shHi (l : List Sack) (b : List Take) : Nat → Int
  | 0 => 1000
  | n + 1 => if sumTo (overHi l b n) l.length ≤ 0 then min (shHi l b n) n else shHi l b n
theorem sh_bd (l : List Sack) (b : List Take) : ∀ n, (0 ≤ shLo l b n ∧ shLo l b n ≤ n) ∧ (0 ≤ shHi l b n ∧ shHi l b n ≤ 1000)
  | 0 => by simp [shLo, shHi]
  | n + 1 => by
    have := sh_bd l b n
    simp only [shLo, shHi]
    constructor
    · split <;> omega
    · split <;> omega
def shareR (l : List Sack) (b : List Take) : Span := ⟨shLo l b 1001, shHi l b 1001⟩

set_option maxRecDepth 100000 in
set_option maxHeartbeats 4000000 in
theorem rshare_no (w : World) (A T : Option Addr) (c d : Nat) (l : List Sack) (b : List Take) (hl : l.length ≤ 12) (hb : b.length ≤ 12) (hA : SackSl w w.heap.size A l) (hT : TakeSl w w.heap.size T b) (hv : validB l b = false) :
    Calls Try.prog 14 #[.slice A l.length c, .slice T b.length d] w (Ret (.tuple #[.agg #[.int .i64 0, .int .i64 0], .int .i64 1]) w) := by
  have HX := Lib.hid (RefS.new w 25 #[.int .i64 0, .int .i64 0] A T l b hA hT)
  have HV := Lib.hid hv
  have hle : w.heap.size ≤ w.heap.size := Nat.le_refl _
  clear hA hT hv
  cases hs : sacksOk l with
  | false =>
    have HS := Lib.hid hs
    clear hs
    go_enter Try.func14, Try.ntmps14
    go_wp2_with fail
    refine (rsacks_any _ A c l (by omega) HX.out.sa).mono ?_
    rw [HS.out]
    rintro e w1 ⟨rfl, hb1⟩
    replace HX := Lib.hid (HX.out.call hb1)
    clear hb1
    have hbx := HX.out.below
    go_wp2_with (refine wpList_store_row rfl 25 (.tmp 4) (.tmp 19) rfl w.heap.size #[.int .i64 0, .int .i64 0] rfl rfl 25 _ HX.out.r (by kernel_rfl) rfl (by kernel_rfl) ?_)
    exact bodyPost_ret (results_blk_tmp rfl _ rfl (HX.out.r.row _) (by kernel_rfl) (by kernel_rfl)) rfl ⟨rfl, below_setRow hbx hle _⟩
  | true =>
    have HS := Lib.hid hs
    have HB : Hid (batchB l b = false) := by
      have := HV.out
      rw [validB_split, hs] at this
      exact (by simpa using this : batchB l b = false)
    clear hs
    go_enter Try.func14, Try.ntmps14
    go_wp2_with fail
    refine (rsacks_any _ A c l (by omega) HX.out.sa).mono ?_
    rw [HS.out]
    rintro e v9 ⟨rfl, hb1⟩; replace HX := Lib.hid (HX.out.call hb1); clear hb1; go_wp2_with fail
    refine (rbatch_any _ A T c d l b (by omega) (by omega) HX.out.ta).mono ?_
    rw [HB.out]
    rintro e w2 ⟨rfl, hb1⟩
    replace HX := Lib.hid (HX.out.call hb1)
    clear hb1
    have hbx := HX.out.below
    go_wp2_with (refine wpList_store_row rfl 25 (.tmp 4) (.tmp 19) rfl w.heap.size #[.int .i64 0, .int .i64 0] rfl rfl 25 _ HX.out.r (by kernel_rfl) rfl (by kernel_rfl) ?_)
    exact bodyPost_ret (results_blk_tmp rfl _ rfl (HX.out.r.row _) (by kernel_rfl) (by kernel_rfl)) rfl ⟨rfl, below_setRow hbx hle _⟩

set_option maxRecDepth 100000 in
set_option maxHeartbeats 8000000 in
theorem rshare_yes (w : World) (A T : Option Addr) (c d : Nat) (l : List Sack) (b : List Take) (hA : SackSl w w.heap.size A l) (hT : TakeSl w w.heap.size T b) (hv : validB l b = true) :
    Calls Try.prog 14 #[.slice A l.length c, .slice T b.length d] w (Ret (.tuple #[.agg #[.int .i64 (shareR l b).lo, .int .i64 (shareR l b).hi], .int .i64 0]) w) := by
  have HX := Lib.hid (RefS.new w 25 #[.int .i64 0, .int .i64 0] A T l b hA hT)
  obtain ⟨p1, p2, p3, p4, p5, p6, p7⟩ := valid_parts hv
  have HS := Lib.hid p1
  have HB := Lib.hid p2
  have HL2 := Lib.hid p3
  have HB2 := Lib.hid p4
  have hle : w.heap.size ≤ w.heap.size := Nat.le_refl _
  clear hA hT hv p1 p2 p3 p4
  go_enter Try.func14, Try.ntmps14
  go_wp2_with fail
  refine (rsacks_any _ A c l (by omega) HX.out.sa).mono ?_
  rw [HS.out]
  rintro e v9 ⟨rfl, hb1⟩; replace HX := Lib.hid (HX.out.call hb1); clear hb1; go_wp2_with fail
  refine (rbatch_any _ A T c d l b (by omega) (by omega) HX.out.ta).mono ?_
  rw [HB.out]
  rintro e v9 ⟨rfl, hb1⟩
  replace HX := Lib.hid (HX.out.call hb1)
  clear hb1
  go_wp2_with fail
  have HO := Lib.hid (Blk.new v9 25 #[.int .i64 0, .int .i64 1000])
  have hbx : Below v9.heap.size v9 (v9.alloc (.cells #[.int .i64 0, .int .i64 1000] 25)) := (Below.refl _ _).alloc (Nat.le_refl _) _
  have HX0 := Lib.hid (HX.out.fix.keep hbx)
  clear hbx HX
  generalize World.alloc v9 _ = W0 at HO HX0 ⊢
  generalize v9.heap.size = po at HO HX0 ⊢
  go_loopw [7] (fun i wr => ∃ k : Nat, k ≤ 1001 ∧ i = .int .i64 k ∧ Hid (RefB w 25 #[.int .i64 0, .int .i64 0] A T l b po wr) ∧ Hid (Blk wr po 25 #[.int .i64 (shLo l b k), .int .i64 (shHi l b k)])) (fun i _ => 1001 - (intOf i).toNat)
  case atStart => exact ⟨0, by omega, rfl, HX0, HO⟩
  case round =>
    clear HX0 HO
    obtain ⟨k, hk, rfl, HX, HO⟩ := hrel
    by_cases hlt : k < 1001
    · have HC := Lib.hid (beyond_any wr A T c d l b k (by omega) (by omega) (by omega) (by omega) (HX.out.sa.more (Nat.le_of_lt HO.out.lt)) (HX.out.ta.more (Nat.le_of_lt HO.out.lt)) HL2.out HB2.out)
      have HLo : Hid (shLo l b (k + 1) = if 0 ≤ sumTo (overLo l b k) l.length then (k : Int) else shLo l b k) := rfl
      have HHi : Hid (shHi l b (k + 1) = if sumTo (overHi l b k) l.length ≤ 0 then min (shHi l b k) (k : Int) else shHi l b k) := rfl
      generalize sumTo (overLo l b k) l.length = x at HC HLo
      generalize sumTo (overHi l b k) l.length = y at HC HHi
      generalize shLo l b k = lo at HO HLo
      generalize shHi l b k = hi at HO HHi
      go_wp2_with fail
      refine HC.out.mono ?_
      rintro e v8 ⟨rfl, hb1⟩
      have HX1 := Lib.hid (HX.out.keep (hb1.mono (Nat.le_of_lt HO.out.lt)))
      have HO1 := Lib.hid (HO.out.below hb1 HO.out.lt)
      clear hb1 HX HO HC
      have c0 := HO1.out.cell 0
      have c1 := HO1.out.cell 1
      have f0 := HO1.out.frozen 0
      have f1 := HO1.out.frozen 1
      have hp := HO1.out.lt
      have HW1 := Lib.hid (HX1.out.keep ((Below.refl po v8).setCell (p := ⟨po, 0, none⟩) (Nat.le_refl _) (.int .i64 k)))
      by_cases t1 : 0 ≤ x
      · have E1 := HLo.out
        rw [if_pos t1] at E1
        have HE1 := Lib.hid E1
        clear E1 HLo
        by_cases t2 : y ≤ 0
        · have E2 := HHi.out
          rw [if_pos t2] at E2
          have HE2 := Lib.hid E2
          clear E2 HHi
          by_cases t3 : (k : Int) < hi
          · go_wp2_with fail
            go_roundw
            case rel => exact ⟨k + 1, by omega, by go_num, Lib.hid (HX1.out.keep (((Below.refl po v8).setCell (p := ⟨po, 0, none⟩) (Nat.le_refl _) (.int .i64 k)).setCell (p := ⟨po, 1, none⟩) (Nat.le_refl _) _)), by rw [HE1.out, HE2.out, Int.min_eq_right (by omega)]; exact (HO1.out.set_ 0 (.int .i64 k)).set_ 1 (.int .i64 k)⟩
            case measure => simp [intOf]; omega
          · go_wp2_with fail
            go_roundw
            case rel => exact ⟨k + 1, by omega, by go_num, Lib.hid (HX1.out.keep (((Below.refl po v8).setCell (p := ⟨po, 0, none⟩) (Nat.le_refl _) (.int .i64 k)).setCell (p := ⟨po, 1, none⟩) (Nat.le_refl _) _)), by rw [HE1.out, HE2.out, Int.min_eq_left (by omega)]; exact (HO1.out.set_ 0 (.int .i64 k)).set_ 1 (.int .i64 hi)⟩
            case measure => simp [intOf]; omega
        · have E2 := HHi.out
          rw [if_neg t2] at E2
          have HE2 := Lib.hid E2
          clear E2 HHi
          go_wp2_with fail
          go_roundw
          case rel => exact ⟨k + 1, by omega, by go_num, HW1, by rw [HE1.out, HE2.out]; exact HO1.out.set_ 0 (.int .i64 k)⟩
          case measure => simp [intOf]; omega
      · have E1 := HLo.out
        rw [if_neg t1] at E1
        have HE1 := Lib.hid E1
        clear E1 HLo HW1
        by_cases t2 : y ≤ 0
        · have E2 := HHi.out
          rw [if_pos t2] at E2
          have HE2 := Lib.hid E2
          clear E2 HHi
          by_cases t3 : (k : Int) < hi
          · go_wp2_with fail
            go_roundw
            case rel => exact ⟨k + 1, by omega, by go_num, Lib.hid (HX1.out.keep ((Below.refl po v8).setCell (p := ⟨po, 1, none⟩) (Nat.le_refl _) _)), by rw [HE1.out, HE2.out, Int.min_eq_right (by omega)]; exact HO1.out.set_ 1 (.int .i64 k)⟩
            case measure => simp [intOf]; omega
          · go_wp2_with fail
            go_roundw
            case rel => exact ⟨k + 1, by omega, by go_num, Lib.hid (HX1.out.keep ((Below.refl po v8).setCell (p := ⟨po, 1, none⟩) (Nat.le_refl _) _)), by rw [HE1.out, HE2.out, Int.min_eq_left (by omega)]; exact HO1.out.set_ 1 (.int .i64 hi)⟩
            case measure => simp [intOf]; omega
        · have E2 := HHi.out
          rw [if_neg t2] at E2
          have HE2 := Lib.hid E2
          clear E2 HHi
          go_wp2_with fail
          go_roundw
          case rel => exact ⟨k + 1, by omega, by go_num, HX1, by rw [HE1.out, HE2.out]; exact HO1⟩
          case measure => simp [intOf]; omega
    · obtain rfl : k = 1001 := by omega
      have c0 := HO.out.cell 0
      have c1 := HO.out.cell 1
      have hbx := HX.out.below
      have HF : Hid (shareR l b = ⟨shLo l b 1001, shHi l b 1001⟩) := rfl
      generalize shLo l b 1001 = lo at c0 c1 HF HO
      generalize shHi l b 1001 = hi at c0 c1 HF HO
      go_wp2_with (refine wpList_store_row rfl 25 (.tmp 4) (.tmp 43) rfl w.heap.size #[.int .i64 lo, .int .i64 hi] rfl rfl 25 _ HX.out.r (by kernel_rfl) rfl (by kernel_rfl) ?_)
      exact bodyPost_ret (results_blk_tmp rfl _ rfl (HX.out.r.row #[.int .i64 lo, .int .i64 hi]) (by kernel_rfl) (by kernel_rfl)) rfl ⟨by rw [HF.out]; rfl, below_setRow hbx hle _⟩
end Go.Proofs.Ytoiggflhfbfiiaa
