/- The law SackOrder: its early ways. -/
import Derived.Test.YtoiggflhfbfiiaaO1
namespace Go.Proofs.Ytoiggflhfbfiiaa
open Go.RowKit Go.Shelf


set_option maxRecDepth 100000 in
set_option maxHeartbeats 4000000 in
theorem order_large (w : World) (A T : Option Addr) (c d : Nat) (l : List Sack) (b : List Take) (wl wh tn y : Int) (hl : l.length ≤ 9223372036854775807) (hA : SackSl w w.heap.size A l) (hT : TakeSl w w.heap.size T b) (h12 : 12 < l.length) :
    Calls Try.prog 7 #[.slice A l.length c, .slice T b.length d, .agg #[.int .i64 wl, .int .i64 wh], .int .u8 tn, .int .u8 y] w (Ret (.bool true) w) := by
  have HL := Lib.hid (LawS.new w A T l b wl wh hA hT); clear hA hT; go_enter Try.func7, Try.ntmps7; go_wp2_with fail
  refine (large_yes A none _ 0 c 0 _ hl (by omega) (.inl h12)).mono ?_
  rintro e w' ⟨rfl, rfl⟩
  go_wp2_with fail
  refine (awake_any _).mono ?_; rintro e w9 ⟨rfl, hb⟩; have hB := (HL.out.call hb).below; clear HL hb; go_wp2_with fail; go_ret; exact ⟨rfl, hB⟩

set_option maxRecDepth 100000 in
set_option maxHeartbeats 4000000 in
theorem order_many (w : World) (A T : Option Addr) (c d : Nat) (l : List Sack) (b : List Take) (wl wh tn y : Int) (hl : l.length ≤ 12) (hb : b.length ≤ 9223372036854775807) (hA : SackSl w w.heap.size A l) (hT : TakeSl w w.heap.size T b) (h8 : 8 < b.length) :
    Calls Try.prog 7 #[.slice A l.length c, .slice T b.length d, .agg #[.int .i64 wl, .int .i64 wh], .int .u8 tn, .int .u8 y] w (Ret (.bool true) w) := by
  have HL := Lib.hid (LawS.new w A T l b wl wh hA hT); clear hA hT; go_enter Try.func7, Try.ntmps7; go_wp2_with fail
  refine (large_no A none _ 0 c 0 _ hl (by omega)).mono ?_
  rintro e w' ⟨rfl, rfl⟩
  go_wp2_with fail
  refine (awake_any _).mono ?_; rintro e w9 ⟨rfl, hb⟩; have hB := (HL.out.call hb).below; clear HL hb; go_wp2_with fail; go_ret; exact ⟨rfl, hB⟩

set_option maxRecDepth 100000 in
set_option maxHeartbeats 4000000 in
theorem order_sacks (w : World) (A T : Option Addr) (c d : Nat) (l : List Sack) (b : List Take) (wl wh tn y : Int) (hl : l.length ≤ 12) (hb : b.length ≤ 8) (hA : SackSl w w.heap.size A l) (hT : TakeSl w w.heap.size T b) (hs : sacksOk l = false) :
    Calls Try.prog 7 #[.slice A l.length c, .slice T b.length d, .agg #[.int .i64 wl, .int .i64 wh], .int .u8 tn, .int .u8 y] w (Ret (.bool true) w) := by
  have HS := Lib.hid hs
  clear hs
  have HL := Lib.hid (LawS.new w A T l b wl wh hA hT); clear hA hT; go_enter Try.func7, Try.ntmps7; go_wp2_with fail
  refine (large_no A none _ 0 c 0 _ hl (by omega)).mono ?_
  rintro e w' ⟨rfl, rfl⟩
  go_wp2_with fail
  refine (rsacks_any _ A c l (by omega) HL.out.sa).mono ?_
  rw [HS.out]
  rintro e w1 ⟨rfl, hb'⟩
  replace HL := Lib.hid (HL.out.call hb')
  clear hb'
  go_wp2_with fail
  refine (awake_any _).mono ?_; rintro e w9 ⟨rfl, hb⟩; have hB := (HL.out.call hb).below; clear HL hb; go_wp2_with fail; go_ret; exact ⟨rfl, hB⟩

set_option maxRecDepth 100000 in
set_option maxHeartbeats 4000000 in
theorem order_batch (w : World) (A T : Option Addr) (c d : Nat) (l : List Sack) (b : List Take) (wl wh tn y : Int) (hl : l.length ≤ 12) (hb : b.length ≤ 8) (hA : SackSl w w.heap.size A l) (hT : TakeSl w w.heap.size T b) (hs : sacksOk l = true) (hs2 : batchB l b = false) :
    Calls Try.prog 7 #[.slice A l.length c, .slice T b.length d, .agg #[.int .i64 wl, .int .i64 wh], .int .u8 tn, .int .u8 y] w (Ret (.bool true) w) := by
  have HS := Lib.hid hs
  have HS2 := Lib.hid hs2
  clear hs hs2
  have HL := Lib.hid (LawS.new w A T l b wl wh hA hT); clear hA hT; go_enter Try.func7, Try.ntmps7; go_wp2_with fail
  refine (large_no A none _ 0 c 0 _ hl (by omega)).mono ?_
  rintro e w' ⟨rfl, rfl⟩
  go_wp2_with fail
  refine (rsacks_any _ A c l (by omega) HL.out.sa).mono ?_
  rw [HS.out]
  rintro e w1 ⟨rfl, hb'⟩
  replace HL := Lib.hid (HL.out.call hb')
  clear hb'
  go_wp2_with fail
  refine (rbatch_any _ A T c d l b (by omega) (by omega) HL.out.ta).mono ?_
  rw [HS2.out]
  rintro e w2 ⟨rfl, hb'⟩
  replace HL := Lib.hid (HL.out.call hb')
  clear hb'
  go_wp2_with fail
  refine (awake_any _).mono ?_; rintro e w9 ⟨rfl, hb⟩; have hB := (HL.out.call hb).below; clear HL hb; go_wp2_with fail; go_ret; exact ⟨rfl, hB⟩
end Go.Proofs.Ytoiggflhfbfiiaa
