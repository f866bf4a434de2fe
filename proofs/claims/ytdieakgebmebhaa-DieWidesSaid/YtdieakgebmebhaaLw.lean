/- The law DieWides: the walk. -/
import Derived.Test.YtdieakgebmebhaaAw
import Derived.Test.YtdieakgebmebhaaRl
import Derived.Test.YtdieakgebmebhaaRf
namespace Go.Proofs.Ytdieakgebmebhaa
open Go.RowKit Go.Shelf

/-- What is in hand: the boxes of the press and of the span. -/
structure LwS (w : World) (p : Press) (A T P : Option Addr) (c : Nat) (l : List Draw) (plan : List Int) (want : Span) (W : World) : Prop where
  below : Below w.heap.size w W
  bq : Blk W w.heap.size 26 #[.slice A p.dies.length c, .int .i64 p.shrink.lo, .int .i64 p.shrink.hi, .int .i64 p.change]
  bs : Blk W (w.heap.size + 1) 24 #[.int .i64 want.lo, .int .i64 want.hi]
  da : DieSl W W.heap.size A p.dies
  dr : DrawSl W W.heap.size T l
  pl : IntSl W W.heap.size P plan
theorem LwS.call {w : World} {p : Press} {A T P : Option Addr} {c : Nat} {l : List Draw} {plan : List Int} {want : Span} {W W' : World} (h : LwS w p A T P c l plan want W) (hb : Below W.heap.size W W') : LwS w p A T P c l plan want W' :=
  ⟨h.below.trans (hb.mono h.below.size), h.bq.below hb h.bq.lt, h.bs.below hb h.bs.lt, h.da.on hb (Nat.le_refl _), h.dr.on hb (Nat.le_refl _), h.pl.on hb (Nat.le_refl _)⟩
theorem fol_len (p : Press) (plan : List Int) : ∀ (l : List Draw) (i : Nat) (u : List Int), (fol p plan l i u).used.length ≤ u.length
  | [], i, u => by unfold fol; split <;> simp
  | x :: l, i, u => by
    unfold fol
    split
    · simp
    · split
      · simp
      · split
        · simp
        · have := fol_len p plan l (i + 1) (u.set (plan.getD i 0).toNat (u.getD (plan.getD i 0).toNat 0 + x.len))
          simpa using this
theorem follow_len (p : Press) (l : List Draw) (plan : List Int) (hp : p.dies.length ≤ 9223372036854775807) : (followR p l plan).used.length ≤ 9223372036854775807 := by
  unfold followR
  split
  · have := fol_len p plan l 0 (List.replicate p.dies.length 0)
    simp at this
    omega
  · simp
set_option maxRecDepth 100000 in
set_option maxHeartbeats 4000000 in
theorem wides_any (w : World) (A T P : Option Addr) (c ct cp : Nat) (p : Press) (l : List Draw) (plan : List Int) (n used : Int) (want : Span) (hp : p.dies.length ≤ 9223372036854775807) (hl : l.length ≤ 9223372036854775807) (hq : plan.length ≤ 9223372036854775807) (hA : DieSl w w.heap.size A p.dies) (hT : DrawSl w w.heap.size T l) (hP : IntSl w w.heap.size P plan) :
    Calls Try.prog 3 #[.agg #[.slice A p.dies.length c, .int .i64 p.shrink.lo, .int .i64 p.shrink.hi, .int .i64 p.change], .slice T l.length ct, .slice P plan.length cp, .int .i64 n, .int .i64 used, .agg #[.int .i64 want.lo, .int .i64 want.hi]] w (Ret (.bool true) w) := by
  have hb0 : Below w.heap.size w ((w.alloc (.cells #[.slice A p.dies.length c, .int .i64 p.shrink.lo, .int .i64 p.shrink.hi, .int .i64 p.change] 26)).alloc (.cells #[.int .i64 want.lo, .int .i64 want.hi] 24)) := by repeat (first | exact Below.refl _ _ | assumption | refine Below.drew ?_ | refine Below.alloc ?_ (by first | omega | (simp only [World.size_alloc]; omega) | simp) _ | refine Below.setCell ?_ (by first | omega | (simp only [World.size_alloc]; omega) | simp) _)
  have hS0 : LwS w p A T P c l plan want ((w.alloc (.cells #[.slice A p.dies.length c, .int .i64 p.shrink.lo, .int .i64 p.shrink.hi, .int .i64 p.change] 26)).alloc (.cells #[.int .i64 want.lo, .int .i64 want.hi] 24)) := ⟨hb0, (Blk.new _ _ _).alloc _, blk_at _ _ (by simp), hA.on hb0 (Nat.le_refl _), hT.on hb0 (Nat.le_refl _), hP.on hb0 (Nat.le_refl _)⟩
  have HS := Lib.hid hS0
  have HLE := Lib.hid (And.intro hp (And.intro hl hq))
  have hq0 : (0 : Int) ≤ plan.length := by omega
  have hq' : (plan.length : Int) ≤ 9223372036854775807 := by omega
  have HW1 : Hid (∀ V, LwS w p A T P c l plan want V → Calls Try.prog 11 #[.agg #[.slice A p.dies.length c, .int .i64 p.shrink.lo, .int .i64 p.shrink.hi, .int .i64 p.change], .int .i64 n, .int .i64 used] V (Ret (.tuple #[.agg #[.int .i64 (wideS p n used).lo, .int .i64 (wideS p n used).hi], .int .i64 (wideE p n used)]) V)) := Lib.hid fun V h => wide_any V A c p n used hp h.da
  have HW2 : Hid (∀ V, LwS w p A T P c l plan want V → Calls Try.prog 12 #[.agg #[.slice A p.dies.length c, .int .i64 p.shrink.lo, .int .i64 p.shrink.hi, .int .i64 p.change], .int .i64 n, .int .i64 used] V (Ret (.tuple #[.agg #[.int .i64 (wideS p n used).lo, .int .i64 (wideS p n used).hi], .int .i64 (wideE p n used)]) V)) := Lib.hid fun V h => rwide_any V A c p n used hp h.da
  have HL1 : Hid (∀ V, LwS w p A T P c l plan want V → Calls Try.prog 13 #[.agg #[.slice A p.dies.length c, .int .i64 p.shrink.lo, .int .i64 p.shrink.hi, .int .i64 p.change], .int .i64 n, .agg #[.int .i64 want.lo, .int .i64 want.hi]] V (Ret (.tuple #[.int .i64 (lastR p n want).a, .int .i64 (lastR p n want).b, .int .i64 (lastR p n want).e]) V)) := Lib.hid fun V h => last_any V A c p n want hp h.da
  have HL2 : Hid (∀ V, LwS w p A T P c l plan want V → Calls Try.prog 14 #[.agg #[.slice A p.dies.length c, .int .i64 p.shrink.lo, .int .i64 p.shrink.hi, .int .i64 p.change], .int .i64 n, .agg #[.int .i64 want.lo, .int .i64 want.hi]] V (Ret (.tuple #[.int .i64 (lastR p n want).a, .int .i64 (lastR p n want).b, .int .i64 (lastR p n want).e]) V)) := Lib.hid fun V h => rlast_any V A c p n want hp h.da
  have HF1 : Hid (∀ V, LwS w p A T P c l plan want V → Calls Try.prog 15 #[.agg #[.slice A p.dies.length c, .int .i64 p.shrink.lo, .int .i64 p.shrink.hi, .int .i64 p.change], .slice T l.length ct, .slice P plan.length cp] V (RetFo (followR p l plan) V)) := Lib.hid fun V h => follow_any V A T P c ct cp p l plan hp hl hq h.da h.dr h.pl
  have HF2 : Hid (∀ V, LwS w p A T P c l plan want V → Calls Try.prog 16 #[.agg #[.slice A p.dies.length c, .int .i64 p.shrink.lo, .int .i64 p.shrink.hi, .int .i64 p.change], .slice T l.length ct, .slice P plan.length cp] V (RetFo (followR p l plan) V)) := Lib.hid fun V h => rfollow_any V A T P c ct cp p l plan hp hl hq h.da h.dr h.pl
  have HFL : Hid ((followR p l plan).used.length ≤ 9223372036854775807) := Lib.hid (follow_len p l plan hp)
  generalize (wideS p n used).lo = sl at HW1 HW2
  generalize (wideS p n used).hi = sh at HW1 HW2
  generalize wideE p n used = se at HW1 HW2
  generalize (lastR p n want).a = la at HL1 HL2
  generalize (lastR p n want).b = lb at HL1 HL2
  generalize (lastR p n want).e = le at HL1 HL2
  generalize followR p l plan = fr at HF1 HF2 HFL
  clear hb0 hS0 hA hT hP
  go_enter Try.func3, Try.ntmps3
  go_wp2_with fail
  generalize World.alloc (World.alloc w _) _ = W at HS ⊢
  refine (large_any A T p.dies.length c l.length ct p.shrink.lo p.shrink.hi p.change 8 W HLE.out.1 HLE.out.2.1).mono ?_
  rintro e W1 ⟨rfl, hb⟩
  replace HS := Lib.hid (HS.out.call hb)
  clear hb
  generalize decide (8 < (l.length : Int) ∧ l.length ≤ 8 ∨ 12 < l.length ∨ 8 < p.dies.length) = lg
  cases lg with
  | true =>
    go_wp2_with fail
    refine (awake_any _).mono ?_; rintro e w9 ⟨rfl, hb9⟩; have hB := (HS.out.call hb9).below; clear HS hb9; go_wp2_with fail; go_ret; exact ⟨rfl, hB⟩
  | false =>
    by_cases h14 : (14 : Int) < plan.length
    · go_wp2_with fail
      refine (awake_any _).mono ?_; rintro e w9 ⟨rfl, hb9⟩; have hB := (HS.out.call hb9).below; clear HS hb9; go_wp2_with fail; go_ret; exact ⟨rfl, hB⟩
    · have x0 := HS.out.bq.cell 0; have x1 := HS.out.bq.cell 1; have x2 := HS.out.bq.cell 2; have x3 := HS.out.bq.cell 3
      go_wp2_with fail
      refine (HW1.out _ HS.out).mono ?_
      rintro e W2 ⟨rfl, hb⟩
      replace HS := Lib.hid (HS.out.call hb)
      clear hb x0 x1 x2 x3 HW1
      have x0 := HS.out.bq.cell 0; have x1 := HS.out.bq.cell 1; have x2 := HS.out.bq.cell 2; have x3 := HS.out.bq.cell 3
      have hba := (Below.refl W2.heap.size W2).alloc (Nat.le_refl _) (.cells #[.int .i64 sl, .int .i64 sh] 24)
      replace HS := Lib.hid (HS.out.call hba)
      have R1 := Lib.hid (Blk.new W2 24 #[.int .i64 sl, .int .i64 sh])
      clear hba x0 x1 x2 x3
      have x0 := HS.out.bq.cell 0; have x1 := HS.out.bq.cell 1; have x2 := HS.out.bq.cell 2; have x3 := HS.out.bq.cell 3
      go_wp2_with fail
      generalize World.alloc W2 _ = W3 at HS R1 x0 x1 x2 x3 ⊢
      generalize W2.heap.size = q1 at R1 ⊢
      refine (HW2.out _ HS.out).mono ?_
      rintro e W4 ⟨rfl, hb⟩
      replace HS := Lib.hid (HS.out.call hb)
      replace R1 := Lib.hid (R1.out.below hb R1.out.lt)
      clear hb x0 x1 x2 x3 HW2
      have hba := (Below.refl W4.heap.size W4).alloc (Nat.le_refl _) (.cells #[.int .i64 sl, .int .i64 sh] 24)
      replace HS := Lib.hid (HS.out.call hba)
      replace R1 := Lib.hid (R1.out.below hba R1.out.lt)
      have R2 := Lib.hid (Blk.new W4 24 #[.int .i64 sl, .int .i64 sh])
      clear hba
      have x0 := HS.out.bq.cell 0; have x1 := HS.out.bq.cell 1; have x2 := HS.out.bq.cell 2; have x3 := HS.out.bq.cell 3
      have y0 := HS.out.bs.cell 0; have y1 := HS.out.bs.cell 1
      go_wp2_with fail
      generalize World.alloc W4 _ = W5 at HS R1 R2 x0 x1 x2 x3 y0 y1 ⊢
      generalize W4.heap.size = q2 at R2 ⊢
      refine (HL1.out _ HS.out).mono ?_
      rintro e W6 ⟨rfl, hb⟩
      replace HS := Lib.hid (HS.out.call hb)
      replace R1 := Lib.hid (R1.out.below hb R1.out.lt)
      replace R2 := Lib.hid (R2.out.below hb R2.out.lt)
      clear hb x0 x1 x2 x3 y0 y1 HL1
      have x0 := HS.out.bq.cell 0; have x1 := HS.out.bq.cell 1; have x2 := HS.out.bq.cell 2; have x3 := HS.out.bq.cell 3
      have y0 := HS.out.bs.cell 0; have y1 := HS.out.bs.cell 1
      go_wp2_with fail
      refine (HL2.out _ HS.out).mono ?_
      rintro e W7 ⟨rfl, hb⟩
      replace HS := Lib.hid (HS.out.call hb)
      replace R1 := Lib.hid (R1.out.below hb R1.out.lt)
      replace R2 := Lib.hid (R2.out.below hb R2.out.lt)
      clear hb x0 x1 x2 x3 y0 y1 HL2
      have x0 := HS.out.bq.cell 0; have x1 := HS.out.bq.cell 1; have x2 := HS.out.bq.cell 2; have x3 := HS.out.bq.cell 3
      go_wp2_with fail
      refine (HF1.out _ HS.out).mono ?_
      rintro e W8 ⟨A8, c8, rfl, hp8, hb⟩
      replace HS := Lib.hid (HS.out.call hb)
      replace R1 := Lib.hid (R1.out.below hb R1.out.lt)
      replace R2 := Lib.hid (R2.out.below hb R2.out.lt)
      have P8 := Lib.hid (plan_sl hp8)
      clear hb hp8 x0 x1 x2 x3 HF1
      have x0 := HS.out.bq.cell 0; have x1 := HS.out.bq.cell 1; have x2 := HS.out.bq.cell 2; have x3 := HS.out.bq.cell 3
      go_wp2_with fail
      refine (HF2.out _ HS.out).mono ?_
      rintro e W9 ⟨A9, c9, rfl, hp9, hb⟩
      replace HS := Lib.hid (HS.out.call hb)
      replace R1 := Lib.hid (R1.out.below hb R1.out.lt)
      replace R2 := Lib.hid (R2.out.below hb R2.out.lt)
      replace P8 := Lib.hid (P8.out.on hb (Nat.le_refl _))
      have P9 := Lib.hid (plan_sl hp9)
      clear hb hp9 x0 x1 x2 x3 HF2
      have z0 := R1.out.cell 0
      have z1 := R1.out.cell 1
      have z2 := R2.out.cell 0
      have z3 := R2.out.cell 1
      go_wp2_with fail
      have HI := ints_any W9 A8 A9 c8 c9 fr.used fr.used HFL.out HFL.out P8.out P9.out
      rw [decide_eq_true rfl] at HI
      refine HI.mono ?_
      rintro e WA ⟨rfl, hb⟩
      replace HS := Lib.hid (HS.out.call hb)
      clear hb HI z0 z1 z2 z3 R1 R2 P8 P9
      go_wp2_with fail
      refine (awake_any _).mono ?_; rintro e w9 ⟨rfl, hb9⟩; have hB := (HS.out.call hb9).below; clear HS hb9; go_wp2_with fail; go_ret; exact ⟨rfl, hB⟩
end Go.Proofs.Ytdieakgebmebhaa
