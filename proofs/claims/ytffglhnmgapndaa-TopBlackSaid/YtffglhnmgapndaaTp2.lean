/- The law TopBlack: the results that the document fixes. -/
import Derived.Test.YtffglhnmgapndaaTp1
namespace Go.Proofs.Ytffglhnmgapndaa
open Go.RowKit Go.Shelf

def sampleC : List Tint := [⟨0, 0⟩, ⟨1000, 200⟩]
theorem sampleCurve : Curve sampleC := curve_of (by decide +kernel)
theorem sampleBlack : palest sampleC 420 580 4 = 80 ∧ darkest sampleC 420 580 4 = 88 := by decide +kernel

set_option maxRecDepth 100000 in
set_option maxHeartbeats 4000000 in
theorem awake02_any (w : World) : Calls Try.prog 7 #[] w (Ret (.bool true) w) := by
  go_enter Try.func7, Try.ntmps7
  go_wp2_with fail
  have S0 : Hid (Blk ((w.alloc (.cells #[.int .i64 10, .int .i64 20, .int .i64 900, .int .i64 950, .int .i64 0, .int .i64 0, .int .i64 100, .int .i64 150, .int .i64 0, .int .i64 0, .int .i64 100, .int .i64 120] 48)).alloc (.cells #[.int .i64 0, .int .i64 600, .int .i64 600, .int .i64 1, .int .i64 500, .int .i64 510] 33)) w.heap.size 48 #[.int .i64 10, .int .i64 20, .int .i64 900, .int .i64 950, .int .i64 0, .int .i64 0, .int .i64 100, .int .i64 150, .int .i64 0, .int .i64 0, .int .i64 100, .int .i64 120] ∧ Blk ((w.alloc (.cells #[.int .i64 10, .int .i64 20, .int .i64 900, .int .i64 950, .int .i64 0, .int .i64 0, .int .i64 100, .int .i64 150, .int .i64 0, .int .i64 0, .int .i64 100, .int .i64 120] 48)).alloc (.cells #[.int .i64 0, .int .i64 600, .int .i64 600, .int .i64 1, .int .i64 500, .int .i64 510] 33)) (w.heap.size + 1) 33 #[.int .i64 0, .int .i64 600, .int .i64 600, .int .i64 1, .int .i64 500, .int .i64 510] ∧ Below w.heap.size w ((w.alloc (.cells #[.int .i64 10, .int .i64 20, .int .i64 900, .int .i64 950, .int .i64 0, .int .i64 0, .int .i64 100, .int .i64 150, .int .i64 0, .int .i64 0, .int .i64 100, .int .i64 120] 48)).alloc (.cells #[.int .i64 0, .int .i64 600, .int .i64 600, .int .i64 1, .int .i64 500, .int .i64 510] 33))) :=
    Lib.hid ⟨(Blk.new _ _ _).alloc _, blk_at _ _ (by simp), by repeat (first | exact Below.refl _ _ | assumption | refine Below.drew ?_ | refine Below.alloc ?_ (by first | omega | (simp only [World.size_alloc]; omega) | simp) _ | refine Below.setCell ?_ (by first | omega | (simp only [World.size_alloc]; omega) | simp) _)⟩
  generalize World.alloc (World.alloc w _) _ = V at S0 ⊢
  generalize w.heap.size + 1 = p2 at S0 ⊢
  have hA : SackSl V V.heap.size (some ⟨w.heap.size, 0, none⟩) sampleL := fun _ => ⟨_, 0, rfl, S0.out.1.lt, fun i hi => by
    have : i = 0 ∨ i = 1 := by simp [sampleL] at hi; omega
    rcases this with rfl | rfl
    · exact ⟨S0.out.1.cell 0, S0.out.1.cell 1, S0.out.1.cell 2, S0.out.1.cell 3, S0.out.1.cell 4, S0.out.1.cell 5⟩
    · exact ⟨S0.out.1.cell 6, S0.out.1.cell 7, S0.out.1.cell 8, S0.out.1.cell 9, S0.out.1.cell 10, S0.out.1.cell 11⟩⟩
  have hT : TakeSl V V.heap.size (some ⟨p2, 0, none⟩) sampleB := fun _ => ⟨_, 0, rfl, S0.out.2.1.lt, fun i hi => by
    have : i = 0 ∨ i = 1 := by simp [sampleB] at hi; omega
    rcases this with rfl | rfl
    · exact ⟨S0.out.2.1.cell 0, S0.out.2.1.cell 1, S0.out.2.1.cell 2⟩
    · exact ⟨S0.out.2.1.cell 3, S0.out.2.1.cell 4, S0.out.2.1.cell 5⟩⟩
  have hC := share_yes V _ _ 2 2 sampleL sampleB (by decide) (by decide) hA hT sampleValid
  rw [sampleShare] at hC
  clear hA hT
  refine hC.mono ?_
  rintro e v1 ⟨rfl, hb1⟩
  have HB1 := Lib.hid (S0.out.2.2.trans (hb1.mono S0.out.2.2.size))
  clear hb1 S0 hC
  go_wp2_with fail
  have S1 : Hid (Blk ((v1.alloc (.cells #[.int .i64 528, .int .i64 583] 31)).alloc (.cells #[.int .i64 0, .int .i64 0, .int .i64 1000, .int .i64 200] 57)) v1.heap.size 31 #[.int .i64 528, .int .i64 583] ∧ Blk ((v1.alloc (.cells #[.int .i64 528, .int .i64 583] 31)).alloc (.cells #[.int .i64 0, .int .i64 0, .int .i64 1000, .int .i64 200] 57)) (v1.heap.size + 1) 57 #[.int .i64 0, .int .i64 0, .int .i64 1000, .int .i64 200] ∧ Below w.heap.size w ((v1.alloc (.cells #[.int .i64 528, .int .i64 583] 31)).alloc (.cells #[.int .i64 0, .int .i64 0, .int .i64 1000, .int .i64 200] 57))) := by
    have hs := HB1.out.size
    exact Lib.hid ⟨(Blk.new _ _ _).alloc _, blk_at _ _ (by simp), (HB1.out.alloc hs _).alloc (by simp; omega) _⟩
  generalize World.alloc (World.alloc v1 _) _ = V2 at S1 ⊢
  generalize v1.heap.size + 1 = p4 at S1 ⊢
  generalize v1.heap.size = p3 at S1 ⊢
  have hA : TintSl V2 V2.heap.size (some ⟨p4, 0, none⟩) sampleC := fun _ => ⟨_, 0, rfl, S1.out.2.1.lt, fun i hi => by
    have : i = 0 ∨ i = 1 := by simp [sampleC] at hi; omega
    rcases this with rfl | rfl
    · exact ⟨S1.out.2.1.cell 0, S1.out.2.1.cell 1⟩
    · exact ⟨S1.out.2.1.cell 2, S1.out.2.1.cell 3⟩⟩
  have hB := black_yes V2 _ 2 sampleC 420 420 580 580 4 sampleCurve hA ⟨by omega, by omega, by omega⟩ (by rw [sampleBlack.1, sampleBlack.2]; decide)
  rw [sampleBlack.1, sampleBlack.2] at hB
  clear hA
  refine hB.mono ?_
  rintro e v2 ⟨rfl, hb1⟩
  have S2 := Lib.hid (⟨S1.out.1.below hb1 S1.out.1.lt, S1.out.2.2.trans (hb1.mono S1.out.2.2.size)⟩ : Blk v2 p3 31 #[.int .i64 528, .int .i64 583] ∧ Below w.heap.size w v2)
  clear hb1 S1 hB HB1
  have x0 := S2.out.1.cell 0
  have x1 := S2.out.1.cell 1
  have hp := S2.out.1.lt
  go_wp2_with fail
  go_ret
  have hs := S2.out.2.size
  exact ⟨rfl, S2.out.2.alloc hs _⟩
end Go.Proofs.Ytffglhnmgapndaa
