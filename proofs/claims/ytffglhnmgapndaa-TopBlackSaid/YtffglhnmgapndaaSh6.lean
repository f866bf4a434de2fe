/- Walks of package shade: leads without strokes are valid; what they were made of bounds how black they are. -/
import Derived.Test.YtffglhnmgapndaaSh5
namespace Go.Proofs.Ytffglhnmgapndaa
open Go.RowKit Go.Shelf

/-- Leads without strokes, with nothing but what they were made of. -/
structure LdOk (gl gh cl ch tl : Int) : Prop where
  g : 1 ≤ gl ∧ gl ≤ gh ∧ gh ≤ 1073741824
  c : 0 ≤ cl ∧ cl ≤ ch ∧ ch ≤ 1073741824
  t : 0 ≤ tl ∧ tl ≤ 200
structure LdS (w : World) (B : Nat) (gl gh cl ch tl : Int) (W : World) : Prop where
  below : Below w.heap.size w W
  blk : Blk W B 43 #[.int .i64 gl, .int .i64 gh, .int .i64 cl, .int .i64 ch, .int .i64 tl, .slice none 0 0, .int .i64 0, .int .i64 0, .int .i64 0, .int .i64 0, .int .i64 0]
theorem LdS.call {w : World} {B : Nat} {gl gh cl ch tl : Int} {W W' : World} (h : LdS w B gl gh cl ch tl W) (hb : Below W.heap.size W W') : LdS w B gl gh cl ch tl W' :=
  ⟨h.below.trans (hb.mono h.below.size), h.blk.below hb h.blk.lt⟩
theorem LdS.cells {w : World} {B : Nat} {gl gh cl ch tl : Int} {W : World} (h : LdS w B gl gh cl ch tl W) :
    W.cell? ⟨B, 0, none⟩ = some (.int .i64 gl) ∧ W.cell? ⟨B, 1, none⟩ = some (.int .i64 gh) ∧ W.cell? ⟨B, 2, none⟩ = some (.int .i64 cl) ∧ W.cell? ⟨B, 3, none⟩ = some (.int .i64 ch) ∧ W.cell? ⟨B, 4, none⟩ = some (.int .i64 tl) ∧ W.cell? ⟨B, 5, none⟩ = some (.slice none 0 0) ∧ W.cell? ⟨B, 6, none⟩ = some (.int .i64 0) ∧ W.cell? ⟨B, 7, none⟩ = some (.int .i64 0) ∧ W.cell? ⟨B, 8, none⟩ = some (.int .i64 0) ∧ W.cell? ⟨B, 9, none⟩ = some (.int .i64 0) ∧ W.cell? ⟨B, 10, none⟩ = some (.int .i64 0) :=
  ⟨h.blk.cell 0, h.blk.cell 1, h.blk.cell 2, h.blk.cell 3, h.blk.cell 4, h.blk.cell 5, h.blk.cell 6, h.blk.cell 7, h.blk.cell 8, h.blk.cell 9, h.blk.cell 10⟩

set_option maxRecDepth 100000 in
set_option maxHeartbeats 4000000 in
theorem validLeads_one (w : World) (bL : Nat) (gl gh cl ch tl : Int) (h : LdOk gl gh cl ch tl) (hL : Blk w bL 43 #[.int .i64 gl, .int .i64 gh, .int .i64 cl, .int .i64 ch, .int .i64 tl, .slice none 0 0, .int .i64 0, .int .i64 0, .int .i64 0, .int .i64 0, .int .i64 0]) :
    Calls Try.prog 42 #[.slice (some ⟨bL, 0, none⟩) 1 1] w (Ret (.bool true) w) := by
  have hw1 : withinB ⟨gl, gh⟩ 1 1073741824 = true := withinB_iff.2 h.g
  have hw2 : withinB ⟨cl, ch⟩ 0 1073741824 = true := withinB_iff.2 h.c
  obtain ⟨t0, t1⟩ := h.t
  have H0 := Lib.hid (LdS.mk (Below.refl _ _) hL)
  have hw1' := Lib.hid hw1
  have hw2' := Lib.hid hw2
  clear h hL hw1 hw2
  go_enter Try.func42, Try.ntmps42
  go_wp2_with fail
  go_loopw [7] (fun i wr => ∃ k : Nat, k ≤ 1 ∧ i = .int .i64 k ∧ Hid (LdS w bL gl gh cl ch tl wr)) (fun i _ => 1 - (intOf i).toNat)
  case atStart => exact ⟨0, by omega, rfl, H0⟩
  case round =>
    clear H0
    obtain ⟨k, hk, rfl, HR⟩ := hrel
    by_cases hlt : k < 1
    · obtain rfl : k = 0 := by omega
      obtain ⟨e0, e1, e2, e3, e4, e5, e6, e7, e8, e9, e10⟩ := HR.out.cells
      go_wp2_with fail
      clear e0 e1 e2 e3 e4 e5 e6 e7 e8 e9 e10
      have HS : Hid (LdS wr wr.heap.size gl gh cl ch tl (wr.alloc (.cells #[.int .i64 gl, .int .i64 gh, .int .i64 cl, .int .i64 ch, .int .i64 tl, .slice none 0 0, .int .i64 0, .int .i64 0, .int .i64 0, .int .i64 0, .int .i64 0] 43))) := Lib.hid ⟨(Below.refl _ _).alloc (Nat.le_refl _) _, Blk.new _ _ _⟩
      generalize World.alloc wr _ = W0 at HS ⊢
      generalize wr.heap.size = B at HS ⊢
      refine (within_any _ _ _ _ _).mono ?_
      rw [hw1'.out]
      rintro e w1 ⟨rfl, hb1⟩
      replace HS := Lib.hid (HS.out.call hb1); clear hb1; obtain ⟨e0, e1, e2, e3, e4, e5, e6, e7, e8, e9, e10⟩ := HS.out.cells; go_wp2_with fail; clear e0 e1 e2 e3 e4 e5 e6 e7 e8 e9 e10
      refine (within_any _ _ _ _ _).mono ?_
      rw [hw2'.out]
      rintro e w2 ⟨rfl, hb1⟩
      replace HS := Lib.hid (HS.out.call hb1); clear hb1; obtain ⟨e0, e1, e2, e3, e4, e5, e6, e7, e8, e9, e10⟩ := HS.out.cells; go_wp2_with fail; clear e0 e1 e2 e3 e4 e5 e6 e7 e8 e9 e10
      refine (validStrokes_nil _ _ _).mono ?_
      rintro e w3 ⟨rfl, hb1⟩
      replace HS := Lib.hid (HS.out.call hb1); clear hb1; obtain ⟨e0, e1, e2, e3, e4, e5, e6, e7, e8, e9, e10⟩ := HS.out.cells; go_wp2_with fail; clear e0 e1 e2 e3 e4 e5 e6 e7 e8 e9 e10
      refine (validTests_zero _).mono ?_
      rintro e w4 ⟨rfl, hb1⟩
      replace HS := Lib.hid (HS.out.call hb1); clear hb1; obtain ⟨e0, e1, e2, e3, e4, e5, e6, e7, e8, e9, e10⟩ := HS.out.cells; go_wp2_with fail; clear e0 e1 e2 e3 e4 e5 e6 e7 e8 e9 e10
      go_roundw
      case rel => exact ⟨0 + 1, by omega, by go_num, Lib.hid (HR.out.call HS.out.below)⟩
      case measure => simp [intOf]
    · obtain rfl : k = 1 := by omega
      go_wp2_with fail
      go_ret
      exact ⟨rfl, HR.out.below⟩
end Go.Proofs.Ytffglhnmgapndaa
