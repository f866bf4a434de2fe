/- The law TopBlack: the walk. -/
import Derived.Test.YtffglhnmgapndaaTb1
import Derived.Test.YtffglhnmgapndaaTp0
import Derived.Test.YtffglhnmgapndaaRg
namespace Go.Proofs.Ytffglhnmgapndaa
open Go.RowKit Go.Shelf

/-- What is in hand in the law: what came in, and the box of the numbers. -/
structure TopS (w : World) (A T C Y : Option Addr) (q cy : Nat) (l : List Sack) (b : List Take) (c : List Tint) (ys : List Int) (W : World) : Prop where
  below : Below w.heap.size w W
  sa : SackSl W W.heap.size A l
  ta : TakeSl W W.heap.size T b
  tc : TintSl W W.heap.size C c
  yu : U32Sl W W.heap.size Y ys
  box : W.cell? ⟨q, 0, none⟩ = some (.slice Y ys.length cy)
  lt : q < W.heap.size
theorem TopS.call {w : World} {A T C Y : Option Addr} {q cy : Nat} {l : List Sack} {b : List Take} {c : List Tint} {ys : List Int} {W W' : World} (h : TopS w A T C Y q cy l b c ys W) (hb : Below W.heap.size W W') : TopS w A T C Y q cy l b c ys W' :=
  ⟨h.below.trans (hb.mono h.below.size), (h.sa.below hb).more hb.size, (h.ta.below hb).more hb.size, (h.tc.below hb).more hb.size, (h.yu.below hb).more hb.size, (hb.cell (p := ⟨q, 0, none⟩) h.lt).trans h.box, Nat.lt_of_lt_of_le h.lt hb.size⟩
theorem TopS.start (w : World) {A T C Y : Option Addr} (cy : Nat) {l : List Sack} {b : List Take} {c : List Tint} {ys : List Int} (hA : SackSl w w.heap.size A l) (hT : TakeSl w w.heap.size T b) (hC : TintSl w w.heap.size C c) (hY : U32Sl w w.heap.size Y ys) :
    TopS w A T C Y w.heap.size cy l b c ys (w.alloc (.cells #[.slice Y ys.length cy] 25)) := by
  have hb : Below w.heap.size w (w.alloc (.cells #[.slice Y ys.length cy] 25)) := (Below.refl _ _).alloc (Nat.le_refl _) _
  exact ⟨hb, (hA.below hb).more hb.size, (hT.below hb).more hb.size, (hC.below hb).more hb.size, (hY.below hb).more hb.size, (Blk.new w _ _).cell 0, by simp⟩


set_option maxRecDepth 100000 in
set_option maxHeartbeats 2000000 in
theorem top_empty (w : World) (A T C Y : Option Addr) (ca ct cc cy : Nat) (l : List Sack) (b : List Take) (c : List Tint) (tn : Int) (ys : List Int) (hA : SackSl w w.heap.size A l) (hT : TakeSl w w.heap.size T b) (hC : TintSl w w.heap.size C c) (hY : U32Sl w w.heap.size Y ys) (hl : l.length ≤ 9223372036854775807) (hb : b.length ≤ 9223372036854775807) (hc : c.length ≤ 9223372036854775807) (hy : ys.length ≤ 9223372036854775807) (h0 : ys.length = 0) :
    Calls Try.prog 3 #[.slice A l.length ca, .slice T b.length ct, .slice C c.length cc, .int .u8 tn, .slice Y ys.length cy] w (Ret (.bool true) w) := by
  have _ : True := (fun _ _ _ _ _ _ _ _ => trivial) hA hT hC hY hl hb hc hy
  have hy0 : (ys.length : Int) = 0 := by omega
  clear hA hT hC hY
  go_enter Try.func3, Try.ntmps3
  go_wp2_with fail
  refine (awake02_any _).mono ?_
  rintro e w9 ⟨rfl, hb9⟩
  have hB : Below w.heap.size w w9 := Below.trans ((Below.refl _ _).alloc (Nat.le_refl _) _) (hb9.mono (by simp))
  clear hb9
  go_wp2_with fail
  go_ret
  exact ⟨rfl, hB⟩
set_option maxRecDepth 100000 in
set_option maxHeartbeats 2000000 in
theorem top_sacks (w : World) (A T C Y : Option Addr) (ca ct cc cy : Nat) (l : List Sack) (b : List Take) (c : List Tint) (tn : Int) (ys : List Int) (hA : SackSl w w.heap.size A l) (hT : TakeSl w w.heap.size T b) (hC : TintSl w w.heap.size C c) (hY : U32Sl w w.heap.size Y ys) (hl : l.length ≤ 9223372036854775807) (hb : b.length ≤ 9223372036854775807) (hc : c.length ≤ 9223372036854775807) (hy : ys.length ≤ 9223372036854775807) (h0 : ys.length ≠ 0) (h1 : sacksOk l = false) :
    Calls Try.prog 3 #[.slice A l.length ca, .slice T b.length ct, .slice C c.length cc, .int .u8 tn, .slice Y ys.length cy] w (Ret (.bool true) w) := by
  have _ : True := (fun _ _ _ _ => trivial) hl hb hc hy
  have H1 := Lib.hid h1
  clear h1
  have HL := Lib.hid (TopS.start w cy hA hT hC hY); clear hA hT hC hY; go_enter Try.func3, Try.ntmps3; go_wp2_with fail; try (generalize World.alloc w _ = W0 at HL ⊢; generalize w.heap.size = q at HL ⊢)
  refine (rsacks_big _ _ _ l hl HL.out.sa).mono ?_; rw [H1.out]; rintro e w1 ⟨rfl, hb1⟩; replace HL := Lib.hid (HL.out.call hb1); clear hb1; go_wp2_with fail
  refine (awake02_any _).mono ?_; rintro e w9 ⟨rfl, hb9⟩; have hB := (HL.out.call hb9).below; clear HL hb9; go_wp2_with fail; go_ret; exact ⟨rfl, hB⟩
set_option maxRecDepth 100000 in
set_option maxHeartbeats 2000000 in
theorem top_batch (w : World) (A T C Y : Option Addr) (ca ct cc cy : Nat) (l : List Sack) (b : List Take) (c : List Tint) (tn : Int) (ys : List Int) (hA : SackSl w w.heap.size A l) (hT : TakeSl w w.heap.size T b) (hC : TintSl w w.heap.size C c) (hY : U32Sl w w.heap.size Y ys) (hl : l.length ≤ 9223372036854775807) (hb : b.length ≤ 9223372036854775807) (hc : c.length ≤ 9223372036854775807) (hy : ys.length ≤ 9223372036854775807) (h0 : ys.length ≠ 0) (h1 : sacksOk l = true) (h2 : batchB l b = false) :
    Calls Try.prog 3 #[.slice A l.length ca, .slice T b.length ct, .slice C c.length cc, .int .u8 tn, .slice Y ys.length cy] w (Ret (.bool true) w) := by
  have _ : True := (fun _ _ _ _ => trivial) hl hb hc hy
  have H1 := Lib.hid h1
  have H2 := Lib.hid h2
  clear h1 h2
  have HL := Lib.hid (TopS.start w cy hA hT hC hY); clear hA hT hC hY; go_enter Try.func3, Try.ntmps3; go_wp2_with fail; try (generalize World.alloc w _ = W0 at HL ⊢; generalize w.heap.size = q at HL ⊢)
  refine (rsacks_big _ _ _ l hl HL.out.sa).mono ?_; rw [H1.out]; rintro e w1 ⟨rfl, hb1⟩; replace HL := Lib.hid (HL.out.call hb1); clear hb1; go_wp2_with fail
  refine (rbatch_big _ _ _ _ _ l b hl hb HL.out.ta).mono ?_; rw [H2.out]; rintro e w1 ⟨rfl, hb1⟩; replace HL := Lib.hid (HL.out.call hb1); clear hb1; go_wp2_with fail
  refine (awake02_any _).mono ?_; rintro e w9 ⟨rfl, hb9⟩; have hB := (HL.out.call hb9).below; clear HL hb9; go_wp2_with fail; go_ret; exact ⟨rfl, hB⟩
set_option maxRecDepth 100000 in
set_option maxHeartbeats 2000000 in
theorem top_curve (w : World) (A T C Y : Option Addr) (ca ct cc cy : Nat) (l : List Sack) (b : List Take) (c : List Tint) (tn : Int) (ys : List Int) (hA : SackSl w w.heap.size A l) (hT : TakeSl w w.heap.size T b) (hC : TintSl w w.heap.size C c) (hY : U32Sl w w.heap.size Y ys) (hl : l.length ≤ 9223372036854775807) (hb : b.length ≤ 9223372036854775807) (hc : c.length ≤ 9223372036854775807) (hy : ys.length ≤ 9223372036854775807) (h0 : ys.length ≠ 0) (h1 : sacksOk l = true) (h2 : batchB l b = true) (h3 : curveB c = false) :
    Calls Try.prog 3 #[.slice A l.length ca, .slice T b.length ct, .slice C c.length cc, .int .u8 tn, .slice Y ys.length cy] w (Ret (.bool true) w) := by
  have _ : True := (fun _ _ _ _ => trivial) hl hb hc hy
  have H1 := Lib.hid h1
  have H2 := Lib.hid h2
  have H3 := Lib.hid h3
  clear h1 h2 h3
  have HL := Lib.hid (TopS.start w cy hA hT hC hY); clear hA hT hC hY; go_enter Try.func3, Try.ntmps3; go_wp2_with fail; try (generalize World.alloc w _ = W0 at HL ⊢; generalize w.heap.size = q at HL ⊢)
  refine (rsacks_big _ _ _ l hl HL.out.sa).mono ?_; rw [H1.out]; rintro e w1 ⟨rfl, hb1⟩; replace HL := Lib.hid (HL.out.call hb1); clear hb1; go_wp2_with fail
  refine (rbatch_big _ _ _ _ _ l b hl hb HL.out.ta).mono ?_; rw [H2.out]; rintro e w1 ⟨rfl, hb1⟩; replace HL := Lib.hid (HL.out.call hb1); clear hb1; go_wp2_with fail
  refine (rcurve_any _ _ _ c hc HL.out.tc).mono ?_; rw [H3.out]; rintro e w1 ⟨rfl, hb1⟩; replace HL := Lib.hid (HL.out.call hb1); clear hb1; go_wp2_with fail
  refine (awake02_any _).mono ?_; rintro e w9 ⟨rfl, hb9⟩; have hB := (HL.out.call hb9).below; clear HL hb9; go_wp2_with fail; go_ret; exact ⟨rfl, hB⟩
end Go.Proofs.Ytffglhnmgapndaa
