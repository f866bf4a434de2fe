/- The law SackTrue. -/
import Derived.Test.YtoiggflhfbfiiaaPu
namespace Go.Proofs.Ytoiggflhfbfiiaa
open Go.RowKit Go.Shelf

/-- What a law of a batch has in hand: its arguments, and the span that it boxed. -/
structure LawS (w : World) (A T : Option Addr) (l : List Sack) (b : List Take) (wl wh : Int) (W : World) : Prop where
  b0 : Blk W w.heap.size 25 #[.int .i64 wl, .int .i64 wh]
  sa : SackSl W W.heap.size A l
  ta : TakeSl W W.heap.size T b
  below : Below w.heap.size w W
theorem LawS.call {w : World} {A T : Option Addr} {l : List Sack} {b : List Take} {wl wh : Int} {W W' : World} (h : LawS w A T l b wl wh W) (hb : Below W.heap.size W W') : LawS w A T l b wl wh W' :=
  ⟨h.b0.below hb h.b0.lt, (h.sa.below hb).more hb.size, (h.ta.below hb).more hb.size, h.below.trans (hb.mono h.below.size)⟩
theorem LawS.new (w : World) (A T : Option Addr) (l : List Sack) (b : List Take) (wl wh : Int) (hA : SackSl w w.heap.size A l) (hT : TakeSl w w.heap.size T b) : LawS w A T l b wl wh (w.alloc (.cells #[.int .i64 wl, .int .i64 wh] 25)) := by
  have hb : Below w.heap.size w (w.alloc (.cells #[.int .i64 wl, .int .i64 wh] 25)) := (Below.refl _ _).alloc (Nat.le_refl _) _
  exact ⟨Blk.new _ _ _, (hA.below hb).more hb.size, (hT.below hb).more hb.size, hb⟩
theorem large_no (A T : Option Addr) (n m c d : Nat) (w : World) (hn : n ≤ 12) (hm : m ≤ 12) :
    Calls Try.prog 9 #[.slice A n c, .slice T m d] w fun e w' => e = .returned (.bool false) ∧ w = w' :=
  (large_any A T n m c d w (by omega) (by omega)).mono fun e w' ⟨h1, h2⟩ => ⟨by rw [h1]; exact ret_bool (by simp; omega), h2⟩
theorem large_yes (A T : Option Addr) (n m c d : Nat) (w : World) (hn : n ≤ 9223372036854775807) (hm : m ≤ 9223372036854775807) (h : 12 < n ∨ 12 < m) :
    Calls Try.prog 9 #[.slice A n c, .slice T m d] w fun e w' => e = .returned (.bool true) ∧ w = w' :=
  (large_any A T n m c d w hn hm).mono fun e w' ⟨h1, h2⟩ => ⟨by rw [h1]; exact ret_bool (by simp; omega), h2⟩
theorem spansTo5 (f : Nat → Span) : spansTo f 5 = #[.int .i64 (f 0).lo, .int .i64 (f 0).hi, .int .i64 (f 1).lo, .int .i64 (f 1).hi, .int .i64 (f 2).lo, .int .i64 (f 2).hi, .int .i64 (f 3).lo, .int .i64 (f 3).hi, .int .i64 (f 4).lo, .int .i64 (f 4).hi] := rfl


set_option maxRecDepth 100000 in
set_option maxHeartbeats 4000000 in
theorem true_large (w : World) (A T Y : Option Addr) (c d y : Nat) (l : List Sack) (b : List Take) (wl wh : Int) (ys : List Int) (hl : l.length ≤ 9223372036854775807) (hb : b.length ≤ 9223372036854775807) (hA : SackSl w w.heap.size A l) (hT : TakeSl w w.heap.size T b) (h12 : 12 < l.length ∨ 12 < b.length) :
    Calls Try.prog 5 #[.slice A l.length c, .slice T b.length d, .agg #[.int .i64 wl, .int .i64 wh], .slice Y ys.length y] w (Ret (.bool true) w) := by
  have HL := Lib.hid (LawS.new w A T l b wl wh hA hT); clear hA hT; go_enter Try.func5, Try.ntmps5; go_wp2_with fail
  refine (large_yes A T _ _ c d _ hl hb h12).mono ?_
  rintro e w' ⟨rfl, rfl⟩
  go_wp2_with fail
  refine (awake_any _).mono ?_; rintro e w9 ⟨rfl, hb⟩; have hB := (HL.out.call hb).below; clear HL hb; go_wp2_with fail; go_ret; exact ⟨rfl, hB⟩

set_option maxRecDepth 100000 in
set_option maxHeartbeats 4000000 in
theorem true_empty (w : World) (A T Y : Option Addr) (c d y : Nat) (l : List Sack) (b : List Take) (wl wh : Int) (ys : List Int) (hl : l.length ≤ 12) (hb : b.length ≤ 12) (hA : SackSl w w.heap.size A l) (hT : TakeSl w w.heap.size T b) (h0 : ys.length = 0) :
    Calls Try.prog 5 #[.slice A l.length c, .slice T b.length d, .agg #[.int .i64 wl, .int .i64 wh], .slice Y ys.length y] w (Ret (.bool true) w) := by
  rw [h0]
  have HL := Lib.hid (LawS.new w A T l b wl wh hA hT); clear hA hT; go_enter Try.func5, Try.ntmps5; go_wp2_with fail
  refine (large_no A T _ _ c d _ hl hb).mono ?_
  rintro e w' ⟨rfl, rfl⟩
  go_wp2_with fail
  refine (awake_any _).mono ?_; rintro e w9 ⟨rfl, hb⟩; have hB := (HL.out.call hb).below; clear HL hb; go_wp2_with fail; go_ret; exact ⟨rfl, hB⟩

set_option maxRecDepth 100000 in
set_option maxHeartbeats 4000000 in
theorem true_sacks (w : World) (A T Y : Option Addr) (c d y : Nat) (l : List Sack) (b : List Take) (wl wh : Int) (ys : List Int) (hl : l.length ≤ 12) (hb : b.length ≤ 12) (hA : SackSl w w.heap.size A l) (hT : TakeSl w w.heap.size T b) (hy : ys.length ≠ 0) (hs : sacksOk l = false) :
    Calls Try.prog 5 #[.slice A l.length c, .slice T b.length d, .agg #[.int .i64 wl, .int .i64 wh], .slice Y ys.length y] w (Ret (.bool true) w) := by
  have HS := Lib.hid hs
  clear hs
  have HL := Lib.hid (LawS.new w A T l b wl wh hA hT); clear hA hT; go_enter Try.func5, Try.ntmps5; go_wp2_with fail
  refine (large_no A T _ _ c d _ hl hb).mono ?_
  rintro e w' ⟨rfl, rfl⟩
  go_wp2_with fail
  refine (rsacks_any _ A c l (by omega) HL.out.sa).mono ?_
  rw [HS.out]
  rintro e w1 ⟨rfl, hb'⟩
  replace HL := Lib.hid (HL.out.call hb')
  clear hb'
  go_wp2_with fail
  refine (awake_any _).mono ?_; rintro e w9 ⟨rfl, hb⟩; have hB := (HL.out.call hb).below; clear HL hb; go_wp2_with fail; go_ret; exact ⟨rfl, hB⟩

set_option maxRecDepth 100000 in
set_option maxHeartbeats 4000000 in
theorem true_batch (w : World) (A T Y : Option Addr) (c d y : Nat) (l : List Sack) (b : List Take) (wl wh : Int) (ys : List Int) (hl : l.length ≤ 12) (hb : b.length ≤ 12) (hA : SackSl w w.heap.size A l) (hT : TakeSl w w.heap.size T b) (hy : ys.length ≠ 0) (hs : sacksOk l = true) (hs2 : batchB l b = false) :
    Calls Try.prog 5 #[.slice A l.length c, .slice T b.length d, .agg #[.int .i64 wl, .int .i64 wh], .slice Y ys.length y] w (Ret (.bool true) w) := by
  have HS := Lib.hid hs
  have HS2 := Lib.hid hs2
  clear hs hs2
  have HL := Lib.hid (LawS.new w A T l b wl wh hA hT); clear hA hT; go_enter Try.func5, Try.ntmps5; go_wp2_with fail
  refine (large_no A T _ _ c d _ hl hb).mono ?_
  rintro e w' ⟨rfl, rfl⟩
  go_wp2_with fail
  refine (rsacks_any _ A c l (by omega) HL.out.sa).mono ?_
  rw [HS.out]
  rintro e w1 ⟨rfl, hb'⟩
  replace HL := Lib.hid (HL.out.call hb')
  clear hb'
  go_wp2_with fail
  refine (rbatch_any _ A T c d l b (by omega) (by omega) HL.out.ta).mono ?_
  rw [HS2.out]
  rintro e w2 ⟨rfl, hb'⟩
  replace HL := Lib.hid (HL.out.call hb')
  clear hb'
  go_wp2_with fail
  refine (awake_any _).mono ?_; rintro e w9 ⟨rfl, hb⟩; have hB := (HL.out.call hb).below; clear HL hb; go_wp2_with fail; go_ret; exact ⟨rfl, hB⟩
end Go.Proofs.Ytoiggflhfbfiiaa
