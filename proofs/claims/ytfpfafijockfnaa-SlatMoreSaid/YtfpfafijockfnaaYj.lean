/- The law's own jig. -/
import Derived.Test.YtfpfafijockfnaaYi
namespace Go.Proofs.Ytfpfafijockfnaa
open Go.RowKit Go.Shelf

set_option maxRecDepth 100000 in
theorem span46_any (a b : Int) (w : World) : Calls Try.prog 21 #[.int .i64 a, .int .i64 b] w (Ret (.agg #[.int .i64 a, .int .i64 b]) w) := by
  go_enter Try.func21, Try.ntmps21
  go_wp2_with fail
  exact bodyPost_ret (results_blk rfl _ rfl (Blk.new _ _ _) (by kernel_rfl) (by kernel_rfl)) rfl ⟨rfl, (Below.refl _ _).alloc (Nat.le_refl _) _⟩
set_option maxRecDepth 100000 in
set_option maxHeartbeats 4000000 in
theorem jig45_any (w : World) : Calls Try.prog 20 #[] w (Ret (.agg #[.int .i64 10, .int .i64 20, .int .i64 2000, .int .i64 2020, .int .i64 (-5), .int .i64 5, .int .i64 (-10), .int .i64 10, .int .i64 40, .int .i64 3]) w) := by
  have HS := Lib.hid (Blk.new w 25 #[.int .i64 0, .int .i64 0, .int .i64 0, .int .i64 0, .int .i64 0, .int .i64 0, .int .i64 0, .int .i64 0, .int .i64 0, .int .i64 0])
  have HB := Lib.hid ((Below.refl w.heap.size w).alloc (Nat.le_refl _) (.cells #[.int .i64 0, .int .i64 0, .int .i64 0, .int .i64 0, .int .i64 0, .int .i64 0, .int .i64 0, .int .i64 0, .int .i64 0, .int .i64 0] 25))
  go_enter Try.func20, Try.ntmps20
  go_upto_region 1 with fail
  generalize World.alloc w _ = V at HS HB ⊢
  go_wp2_with fail
  refine (span46_any _ _ _).mono ?_
  rintro e V1 ⟨rfl, hb⟩
  replace HS := Lib.hid (HS.out.below hb HS.out.lt)
  replace HB := Lib.hid (HB.out.trans (hb.mono HB.out.size))
  clear hb
  go_wp2_with fail
  refine (span46_any _ _ _).mono ?_
  rintro e V2 ⟨rfl, hb⟩
  replace HS := Lib.hid (HS.out.below hb HS.out.lt)
  replace HB := Lib.hid (HB.out.trans (hb.mono HB.out.size))
  clear hb
  go_wp2_with fail
  refine (span46_any _ _ _).mono ?_
  rintro e V3 ⟨rfl, hb⟩
  replace HS := Lib.hid (HS.out.below hb HS.out.lt)
  replace HB := Lib.hid (HB.out.trans (hb.mono HB.out.size))
  clear hb
  go_wp2_with fail
  refine (span46_any _ _ _).mono ?_
  rintro e V4 ⟨rfl, hb⟩
  replace HS := Lib.hid (HS.out.below hb HS.out.lt)
  replace HB := Lib.hid (HB.out.trans (hb.mono HB.out.size))
  clear hb
  have HK := Lib.hid (HS.out.row #[.int .i64 10, .int .i64 20, .int .i64 2000, .int .i64 2020, .int .i64 (-5), .int .i64 5, .int .i64 (-10), .int .i64 10, .int .i64 40, .int .i64 3])
  have HBB := Lib.hid (below_setRow HB.out (Nat.le_refl _) #[.int .i64 10, .int .i64 20, .int .i64 2000, .int .i64 2020, .int .i64 (-5), .int .i64 5, .int .i64 (-10), .int .i64 10, .int .i64 40, .int .i64 3])
  go_wp2_with (refine wpList_store_row (by rfl) 25 (.tmp 0) (.tmp 5) (by rfl) w.heap.size #[.int .i64 10, .int .i64 20, .int .i64 2000, .int .i64 2020, .int .i64 (-5), .int .i64 5, .int .i64 (-10), .int .i64 10, .int .i64 40, .int .i64 3] (by rfl) (by rfl) 25 _ HS.out (by kernel_rfl) (by rfl) (by kernel_rfl) ?_)
  exact bodyPost_ret (results_blk rfl _ rfl HK.out (by kernel_rfl) (by kernel_rfl)) rfl ⟨rfl, HBB.out⟩
end Go.Proofs.Ytfpfafijockfnaa
