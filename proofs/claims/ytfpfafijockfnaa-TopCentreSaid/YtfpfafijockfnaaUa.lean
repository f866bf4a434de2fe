/- The law TopCentre: results that the document fixes; the closure that draws numbers. -/
import Derived.Test.YtfpfafijockfnaaTy
import Derived.Test.YtfpfafijockfnaaWi
import Derived.StillTailTactics
namespace Go.Proofs.Ytfpfafijockfnaa
open Go.RowKit Go.Shelf

def pS : Press := ⟨[⟨2000, ⟨1, 2⟩⟩], ⟨90, 100⟩, 0⟩
def jS : Jig := ⟨⟨10, 20⟩, ⟨2000, 2020⟩, ⟨-5, 5⟩, ⟨-10, 10⟩, 40, 3⟩
def aS : Slat := ⟨⟨5000, 5010⟩, ⟨1010, 1020⟩, ⟨0, 4⟩, ⟨1, 2⟩⟩
def bS : Slat := ⟨⟨4980, 4990⟩, ⟨1000, 1010⟩, ⟨-2, 2⟩, ⟨0, 1⟩⟩
theorem wideP : wideS pS 0 50 = ⟨1845, 1911⟩ ∧ wideE pS 0 50 = 0 := by decide
theorem offP : offS jS aS bS 0 = ⟨-12, 16⟩ ∧ offH jS aS bS 0 = ⟨-70, 40⟩ ∧ offE jS aS bS 0 = 0 := by decide
set_option maxRecDepth 100000 in
set_option maxHeartbeats 4000000 in
theorem awake05_any (w : World) : Calls Try.prog 33 #[] w (Ret (.bool true) w) := by
  have HW : Hid (∀ (W : World) (g : Nat), g < W.heap.size → Blk W g 79 #[.int .i64 2000, .int .i64 1, .int .i64 2] → Calls Try.prog 34 #[.agg #[.slice (some ⟨g, 0, none⟩) 1 1, .int .i64 90, .int .i64 100, .int .i64 0], .int .i64 0, .int .i64 50] W (Ret (.tuple #[.agg #[.int .i64 1845, .int .i64 1911], .int .i64 0]) W)) := Lib.hid fun W g hg hb => by
    have h := wide_any W (some ⟨g, 0, none⟩) 1 pS 0 50 (by decide) (fun _ => ⟨g, 0, rfl, hg, fun i hi => by
      obtain rfl : i = 0 := by simp [pS] at hi; omega
      exact ⟨hb.cell 0, hb.cell 1, hb.cell 2⟩⟩)
    rw [wideP.1, wideP.2] at h
    exact h
  have HO : Hid (∀ W : World, Calls Try.prog 19 #[.agg #[.int .i64 10, .int .i64 20, .int .i64 2000, .int .i64 2020, .int .i64 (-5), .int .i64 5, .int .i64 (-10), .int .i64 10, .int .i64 40, .int .i64 3], .agg #[.int .i64 5000, .int .i64 5010, .int .i64 1010, .int .i64 1020, .int .i64 0, .int .i64 4, .int .i64 1, .int .i64 2], .agg #[.int .i64 4980, .int .i64 4990, .int .i64 1000, .int .i64 1010, .int .i64 (-2), .int .i64 2, .int .i64 0, .int .i64 1], .int .i64 0] W (Ret (.tuple #[.agg #[.int .i64 (-12), .int .i64 16], .agg #[.int .i64 (-70), .int .i64 40], .int .i64 0]) W)) := Lib.hid fun W => by
    have h := off5_any jS aS bS 0 W
    rw [offP.1, offP.2.1, offP.2.2] at h
    exact h
  go_enter Try.func33, Try.ntmps33
  go_wp2_with fail
  have hb0 : Below w.heap.size w ((w.alloc (.cells #[.int .i64 2000, .int .i64 1, .int .i64 2] 79)).alloc (.cells #[.slice (some ⟨w.heap.size, 0, none⟩) 1 1, .int .i64 90, .int .i64 100, .int .i64 0] 73)) := by repeat (first | exact Below.refl _ _ | assumption | refine Below.drew ?_ | refine Below.alloc ?_ (by first | omega | (simp only [World.size_alloc]; omega) | simp) _ | refine Below.setCell ?_ (by first | omega | (simp only [World.size_alloc]; omega) | simp) _)
  refine (HW.out _ w.heap.size (by simp; omega) ((Blk.new _ _ _).alloc _)).mono ?_
  rintro e W1 ⟨rfl, hb⟩
  have HB := Lib.hid (hb0.trans (hb.mono hb0.size))
  clear hb hb0 HW
  go_upto_region 6 with fail
  have K2 : Hid (Blk ((((W1.alloc (.cells #[.int .i64 1845, .int .i64 1911] 23)).alloc (.cells #[.int .i64 10, .int .i64 20, .int .i64 2000, .int .i64 2020, .int .i64 (-5), .int .i64 5, .int .i64 (-10), .int .i64 10, .int .i64 40, .int .i64 3] 25)).alloc (.cells #[.int .i64 5000, .int .i64 5010, .int .i64 1010, .int .i64 1020, .int .i64 0, .int .i64 4, .int .i64 1, .int .i64 2] 37)).alloc (.cells #[.int .i64 4980, .int .i64 4990, .int .i64 1000, .int .i64 1010, .int .i64 (-2), .int .i64 2, .int .i64 0, .int .i64 1] 37)) W1.heap.size 23 #[.int .i64 1845, .int .i64 1911]) := Lib.hid ((((Blk.new _ _ _).alloc _).alloc _).alloc _)
  have KJ : Hid (Blk ((((W1.alloc (.cells #[.int .i64 1845, .int .i64 1911] 23)).alloc (.cells #[.int .i64 10, .int .i64 20, .int .i64 2000, .int .i64 2020, .int .i64 (-5), .int .i64 5, .int .i64 (-10), .int .i64 10, .int .i64 40, .int .i64 3] 25)).alloc (.cells #[.int .i64 5000, .int .i64 5010, .int .i64 1010, .int .i64 1020, .int .i64 0, .int .i64 4, .int .i64 1, .int .i64 2] 37)).alloc (.cells #[.int .i64 4980, .int .i64 4990, .int .i64 1000, .int .i64 1010, .int .i64 (-2), .int .i64 2, .int .i64 0, .int .i64 1] 37)) (W1.heap.size + 1) 25 #[.int .i64 10, .int .i64 20, .int .i64 2000, .int .i64 2020, .int .i64 (-5), .int .i64 5, .int .i64 (-10), .int .i64 10, .int .i64 40, .int .i64 3]) := Lib.hid (((blk5 _ _ (by simp) rfl : Blk ((W1.alloc (.cells #[.int .i64 1845, .int .i64 1911] 23)).alloc (.cells #[.int .i64 10, .int .i64 20, .int .i64 2000, .int .i64 2020, .int .i64 (-5), .int .i64 5, .int .i64 (-10), .int .i64 10, .int .i64 40, .int .i64 3] 25)) (W1.heap.size + 1) _ _).alloc _).alloc _)
  have KA : Hid (Blk ((((W1.alloc (.cells #[.int .i64 1845, .int .i64 1911] 23)).alloc (.cells #[.int .i64 10, .int .i64 20, .int .i64 2000, .int .i64 2020, .int .i64 (-5), .int .i64 5, .int .i64 (-10), .int .i64 10, .int .i64 40, .int .i64 3] 25)).alloc (.cells #[.int .i64 5000, .int .i64 5010, .int .i64 1010, .int .i64 1020, .int .i64 0, .int .i64 4, .int .i64 1, .int .i64 2] 37)).alloc (.cells #[.int .i64 4980, .int .i64 4990, .int .i64 1000, .int .i64 1010, .int .i64 (-2), .int .i64 2, .int .i64 0, .int .i64 1] 37)) (W1.heap.size + 1 + 1) 37 #[.int .i64 5000, .int .i64 5010, .int .i64 1010, .int .i64 1020, .int .i64 0, .int .i64 4, .int .i64 1, .int .i64 2]) := Lib.hid ((blk5 _ _ (by simp) rfl : Blk (((W1.alloc (.cells #[.int .i64 1845, .int .i64 1911] 23)).alloc (.cells #[.int .i64 10, .int .i64 20, .int .i64 2000, .int .i64 2020, .int .i64 (-5), .int .i64 5, .int .i64 (-10), .int .i64 10, .int .i64 40, .int .i64 3] 25)).alloc (.cells #[.int .i64 5000, .int .i64 5010, .int .i64 1010, .int .i64 1020, .int .i64 0, .int .i64 4, .int .i64 1, .int .i64 2] 37)) (W1.heap.size + 1 + 1) _ _).alloc _)
  have KB : Hid (Blk ((((W1.alloc (.cells #[.int .i64 1845, .int .i64 1911] 23)).alloc (.cells #[.int .i64 10, .int .i64 20, .int .i64 2000, .int .i64 2020, .int .i64 (-5), .int .i64 5, .int .i64 (-10), .int .i64 10, .int .i64 40, .int .i64 3] 25)).alloc (.cells #[.int .i64 5000, .int .i64 5010, .int .i64 1010, .int .i64 1020, .int .i64 0, .int .i64 4, .int .i64 1, .int .i64 2] 37)).alloc (.cells #[.int .i64 4980, .int .i64 4990, .int .i64 1000, .int .i64 1010, .int .i64 (-2), .int .i64 2, .int .i64 0, .int .i64 1] 37)) (W1.heap.size + 1 + 1 + 1) 37 #[.int .i64 4980, .int .i64 4990, .int .i64 1000, .int .i64 1010, .int .i64 (-2), .int .i64 2, .int .i64 0, .int .i64 1]) := Lib.hid (blk5 _ _ (by simp) rfl)
  have hb4 : Below W1.heap.size W1 ((((W1.alloc (.cells #[.int .i64 1845, .int .i64 1911] 23)).alloc (.cells #[.int .i64 10, .int .i64 20, .int .i64 2000, .int .i64 2020, .int .i64 (-5), .int .i64 5, .int .i64 (-10), .int .i64 10, .int .i64 40, .int .i64 3] 25)).alloc (.cells #[.int .i64 5000, .int .i64 5010, .int .i64 1010, .int .i64 1020, .int .i64 0, .int .i64 4, .int .i64 1, .int .i64 2] 37)).alloc (.cells #[.int .i64 4980, .int .i64 4990, .int .i64 1000, .int .i64 1010, .int .i64 (-2), .int .i64 2, .int .i64 0, .int .i64 1] 37)) := by repeat (first | exact Below.refl _ _ | assumption | refine Below.drew ?_ | refine Below.alloc ?_ (by first | omega | (simp only [World.size_alloc]; omega) | simp) _ | refine Below.setCell ?_ (by first | omega | (simp only [World.size_alloc]; omega) | simp) _)
  replace HB := Lib.hid (HB.out.trans (hb4.mono HB.out.size))
  clear hb4
  generalize World.alloc (World.alloc (World.alloc (World.alloc W1 _) _) _) _ = V at HB K2 KJ KA KB ⊢
  go_wp2_with (first | (with_reducible refine wpList_load_mid (by with_unfolding_all rfl) 25 _ (by with_unfolding_all rfl) _ _ (by with_unfolding_all rfl) [.int .i64 10, .int .i64 20, .int .i64 2000, .int .i64 2020, .int .i64 (-5), .int .i64 5, .int .i64 (-10), .int .i64 10, .int .i64 40, .int .i64 3] _ KJ.out.range (by with_unfolding_all rfl) (by with_unfolding_all rfl) (by kernel_rfl) ?_) | (with_reducible refine wpList_load_mid (by with_unfolding_all rfl) 37 _ (by with_unfolding_all rfl) _ _ (by with_unfolding_all rfl) [.int .i64 5000, .int .i64 5010, .int .i64 1010, .int .i64 1020, .int .i64 0, .int .i64 4, .int .i64 1, .int .i64 2] _ KA.out.range (by with_unfolding_all rfl) (by with_unfolding_all rfl) (by kernel_rfl) ?_) | (with_reducible refine wpList_load_mid (by with_unfolding_all rfl) 37 _ (by with_unfolding_all rfl) _ _ (by with_unfolding_all rfl) [.int .i64 4980, .int .i64 4990, .int .i64 1000, .int .i64 1010, .int .i64 (-2), .int .i64 2, .int .i64 0, .int .i64 1] _ KB.out.range (by with_unfolding_all rfl) (by with_unfolding_all rfl) (by kernel_rfl) ?_))
  refine (HO.out _).mono ?_
  rintro e W2 ⟨rfl, hb⟩
  replace HB := Lib.hid (HB.out.trans (hb.mono HB.out.size))
  replace K2 := Lib.hid (K2.out.below hb K2.out.lt)
  have x0 := K2.out.cell 0
  have x1 := K2.out.cell 1
  have hz := K2.out.lt
  clear hb KJ KA KB HO
  have hb2 : Below w.heap.size w ((W2.alloc (.cells #[.int .i64 (-12), .int .i64 16] 23)).alloc (.cells #[.int .i64 (-70), .int .i64 40] 23)) := (HB.out.alloc HB.out.size _).alloc (by have := HB.out.size; simp; omega) _
  replace HB := Lib.hid hb2
  clear hb2
  go_wp2_with fail
  go_ret
  exact ⟨rfl, HB.out⟩
end Go.Proofs.Ytfpfafijockfnaa
