/- The law DiePlans: the walk. -/
import Derived.Test.YtdadgljllnkppaaAw
import Derived.Test.YtdadgljllnkppaaRq
namespace Go.Proofs.Ytdadgljllnkppaa
open Go.RowKit Go.Shelf

/-- What is in hand: the box of the press. -/
structure LxS (w : World) (p : Press) (A T : Option Addr) (c : Nat) (l : List Draw) (W : World) : Prop where
  below : Below w.heap.size w W
  bq : Blk W w.heap.size 26 #[.slice A p.dies.length c, .int .i64 p.shrink.lo, .int .i64 p.shrink.hi, .int .i64 p.change]
  da : DieSl W W.heap.size A p.dies
  dr : DrawSl W W.heap.size T l
theorem LxS.call {w : World} {p : Press} {A T : Option Addr} {c : Nat} {l : List Draw} {W W' : World} (h : LxS w p A T c l W) (hb : Below W.heap.size W W') : LxS w p A T c l W' :=
  ⟨h.below.trans (hb.mono h.below.size), h.bq.below hb h.bq.lt, h.da.on hb (Nat.le_refl _), h.dr.on hb (Nat.le_refl _)⟩
theorem planP_len (p : Press) (l : List Draw) : (planP p l).length ≤ l.length := by
  unfold planP
  split
  · rename_i h
    rw [(best_good p l s0 h.2).2.2]
    exact Nat.le_refl _
  · simp
set_option maxRecDepth 100000 in
set_option maxHeartbeats 4000000 in
theorem dplans_any (w : World) (A T : Option Addr) (c ct : Nat) (p : Press) (l : List Draw) (hp : p.dies.length ≤ 9223372036854775807) (hl : l.length ≤ 9223372036854775807) (hct : l.length ≤ ct) (hA : DieSl w w.heap.size A p.dies) (hT : DrawSl w w.heap.size T l) :
    Calls Try.prog 4 #[.agg #[.slice A p.dies.length c, .int .i64 p.shrink.lo, .int .i64 p.shrink.hi, .int .i64 p.change], .slice T l.length ct] w (Ret (.bool true) w) := by
  have hb0 : Below w.heap.size w (w.alloc (.cells #[.slice A p.dies.length c, .int .i64 p.shrink.lo, .int .i64 p.shrink.hi, .int .i64 p.change] 26)) := by repeat (first | exact Below.refl _ _ | assumption | refine Below.drew ?_ | refine Below.alloc ?_ (by first | omega | (simp only [World.size_alloc]; omega) | simp) _ | refine Below.setCell ?_ (by first | omega | (simp only [World.size_alloc]; omega) | simp) _)
  have HS : Hid (LxS w p A T c l (w.alloc (.cells #[.slice A p.dies.length c, .int .i64 p.shrink.lo, .int .i64 p.shrink.hi, .int .i64 p.change] 26))) := Lib.hid ⟨hb0, Blk.new _ _ _, hA.on hb0 (Nat.le_refl _), hT.on hb0 (Nat.le_refl _)⟩
  have HLE := Lib.hid (And.intro hp hl)
  have HP1 : Hid (∀ V, LxS w p A T c l V → Calls Try.prog 27 #[.agg #[.slice A p.dies.length c, .int .i64 p.shrink.lo, .int .i64 p.shrink.hi, .int .i64 p.change], .slice T l.length ct] V (RetPl (planP p l) (planC p l) (planE p l) V)) := Lib.hid fun V h => plan_any V A T c ct p l hp hl h.da h.dr hct
  have HP2 : Hid (∀ V, LxS w p A T c l V → Calls Try.prog 28 #[.agg #[.slice A p.dies.length c, .int .i64 p.shrink.lo, .int .i64 p.shrink.hi, .int .i64 p.change], .slice T l.length ct] V (RetPl (planP p l) (planC p l) (planE p l) V)) := Lib.hid fun V h => rplan_any V A T c ct p l hp hl h.da h.dr
  have HPL : Hid ((planP p l).length ≤ 9223372036854775807) := Lib.hid (Nat.le_trans (planP_len p l) hl)
  generalize planP p l = a at HP1 HP2 HPL
  generalize planC p l = n at HP1 HP2
  generalize planE p l = e at HP1 HP2
  clear hb0 hA hT hct
  go_enter Try.func4, Try.ntmps4
  go_wp2_with fail
  generalize World.alloc w _ = W at HS ⊢
  refine (large_any A T p.dies.length c l.length ct p.shrink.lo p.shrink.hi p.change 5 W HLE.out.1 HLE.out.2).mono ?_
  rintro e W1 ⟨rfl, hb⟩
  replace HS := Lib.hid (HS.out.call hb)
  clear hb
  generalize decide (5 < (l.length : Int) ∧ l.length ≤ 8 ∨ 12 < l.length ∨ 8 < p.dies.length) = lg
  cases lg with
  | true =>
    go_wp2_with fail
    refine (awake_any _).mono ?_; rintro e w9 ⟨rfl, hb9⟩; have hB := (HS.out.call hb9).below; clear HS hb9; go_wp2_with fail; go_ret; exact ⟨rfl, hB⟩
  | false =>
    have x0 := HS.out.bq.cell 0; have x1 := HS.out.bq.cell 1; have x2 := HS.out.bq.cell 2; have x3 := HS.out.bq.cell 3
    go_wp2_with fail
    refine (HP1.out _ HS.out).mono ?_
    rintro e W2 ⟨A2, c2, rfl, hp2, hb⟩
    replace HS := Lib.hid (HS.out.call hb)
    have P2 := Lib.hid (plan_sl hp2)
    clear hb hp2 x0 x1 x2 x3 HP1
    have x0 := HS.out.bq.cell 0; have x1 := HS.out.bq.cell 1; have x2 := HS.out.bq.cell 2; have x3 := HS.out.bq.cell 3
    go_wp2_with fail
    refine (HP2.out _ HS.out).mono ?_
    rintro e W3 ⟨A3, c3, rfl, hp3, hb⟩
    replace HS := Lib.hid (HS.out.call hb)
    replace P2 := Lib.hid (P2.out.on hb (Nat.le_refl _))
    have P3 := Lib.hid (plan_sl hp3)
    clear hb hp3 x0 x1 x2 x3 HP2
    go_wp2_with fail
    have HI := ints_any W3 A2 A3 c2 c3 a a HPL.out HPL.out P2.out P3.out
    rw [decide_eq_true rfl] at HI
    refine HI.mono ?_
    rintro e W4 ⟨rfl, hb⟩
    replace HS := Lib.hid (HS.out.call hb)
    clear hb HI P2 P3
    go_wp2_with fail
    refine (awake_any _).mono ?_; rintro e w9 ⟨rfl, hb9⟩; have hB := (HS.out.call hb9).below; clear HS hb9; go_wp2_with fail; go_ret; exact ⟨rfl, hB⟩
end Go.Proofs.Ytdadgljllnkppaa
