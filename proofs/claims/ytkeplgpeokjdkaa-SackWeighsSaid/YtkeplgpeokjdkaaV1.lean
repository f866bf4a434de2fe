/- The law SackWeighs. -/
import Derived.Test.YtkeplgpeokjdkaaPx
namespace Go.Proofs.Ytkeplgpeokjdkaa
open Go.RowKit Go.Shelf

theorem awake_no (w : World) : Calls Try.prog 10 #[] w (Ret (.bool true) w) := awake_any w

set_option maxRecDepth 100000 in
set_option maxHeartbeats 4000000 in
theorem weighs_large (w : World) (A T : Option Addr) (c d : Nat) (l : List Sack) (b : List Take) (wl wh : Int) (hl : l.length ≤ 9223372036854775807) (hb : b.length ≤ 9223372036854775807) (hA : SackSl w w.heap.size A l) (hT : TakeSl w w.heap.size T b) (h12 : 12 < l.length ∨ 12 < b.length) :
    Calls Try.prog 3 #[.slice A l.length c, .slice T b.length d, .agg #[.int .i64 wl, .int .i64 wh]] w (Ret (.bool true) w) := by
  have HL := Lib.hid (LawS.new w A T l b wl wh hA hT); clear hA hT; go_enter Try.func3, Try.ntmps3; go_wp2_with fail
  refine (large_yes A T _ _ c d _ hl hb h12).mono ?_
  rintro e w' ⟨rfl, rfl⟩
  go_wp2_with fail
  refine (awake_any _).mono ?_; rintro e w9 ⟨rfl, hb⟩; have hB := (HL.out.call hb).below; clear HL hb; go_wp2_with fail; go_ret; exact ⟨rfl, hB⟩

/-- Both answer alike: the law is true. P, S, W: what they answer. -/
structure Alike (l : List Sack) (b : List Take) (wl wh : Int) (A T : Option Addr) (c d : Nat) (p : Nat → Span) (pe : Int) (s : Span) (se : Int) (x : Span) (xe : Int) : Prop where
  weigh : ∀ W, SackSl W W.heap.size A l → TakeSl W W.heap.size T b → Calls Try.prog 11 #[.slice A l.length c, .slice T b.length d] W (Ret (.tuple #[.agg (spansTo p 5), .int .i64 pe]) W)
  rweigh : ∀ W, SackSl W W.heap.size A l → TakeSl W W.heap.size T b → Calls Try.prog 12 #[.slice A l.length c, .slice T b.length d] W (Ret (.tuple #[.agg (spansTo p 5), .int .i64 pe]) W)
  share : ∀ W, SackSl W W.heap.size A l → TakeSl W W.heap.size T b → Calls Try.prog 13 #[.slice A l.length c, .slice T b.length d] W (Ret (.tuple #[.agg #[.int .i64 s.lo, .int .i64 s.hi], .int .i64 se]) W)
  rshare : ∀ W, SackSl W W.heap.size A l → TakeSl W W.heap.size T b → Calls Try.prog 14 #[.slice A l.length c, .slice T b.length d] W (Ret (.tuple #[.agg #[.int .i64 s.lo, .int .i64 s.hi], .int .i64 se]) W)
  water : ∀ W, SackSl W W.heap.size A l → TakeSl W W.heap.size T b → Calls Try.prog 15 #[.slice A l.length c, .slice T b.length d, .agg #[.int .i64 wl, .int .i64 wh]] W (Ret (.tuple #[.agg #[.int .i64 x.lo, .int .i64 x.hi], .int .i64 xe]) W)
  rwater : ∀ W, SackSl W W.heap.size A l → TakeSl W W.heap.size T b → Calls Try.prog 16 #[.slice A l.length c, .slice T b.length d, .agg #[.int .i64 wl, .int .i64 wh]] W (Ret (.tuple #[.agg #[.int .i64 x.lo, .int .i64 x.hi], .int .i64 xe]) W)

/-- What is in hand before the comparison. -/
structure WeS (w : World) (p3 p4 p5 p6 p7 p8 : Nat) (p : Nat → Span) (s x : Span) (W : World) : Prop where
  below : Below w.heap.size w W
  a3 : Blk W p3 29 (spansTo p 5)
  a4 : Blk W p4 29 (spansTo p 5)
  a5 : Blk W p5 25 #[.int .i64 s.lo, .int .i64 s.hi]
  a6 : Blk W p6 25 #[.int .i64 s.lo, .int .i64 s.hi]
  a7 : Blk W p7 25 #[.int .i64 x.lo, .int .i64 x.hi]
  a8 : Blk W p8 25 #[.int .i64 x.lo, .int .i64 x.hi]

set_option maxRecDepth 100000 in
set_option maxHeartbeats 8000000 in
theorem weighs_alike (w : World) (A T : Option Addr) (c d : Nat) (l : List Sack) (b : List Take) (wl wh : Int) (hl : l.length ≤ 12) (hb : b.length ≤ 12) (hA : SackSl w w.heap.size A l) (hT : TakeSl w w.heap.size T b) {p : Nat → Span} {pe : Int} {s : Span} {se : Int} {x : Span} {xe : Int} (hal : Alike l b wl wh A T c d p pe s se x xe) :
    Calls Try.prog 3 #[.slice A l.length c, .slice T b.length d, .agg #[.int .i64 wl, .int .i64 wh]] w (Ret (.bool true) w) := by
  have H1 := Lib.hid hal.weigh
  have H2 := Lib.hid hal.rweigh
  have H3 := Lib.hid hal.share
  have H4 := Lib.hid hal.rshare
  have H5 := Lib.hid hal.water
  have H6 := Lib.hid hal.rwater
  rw [spansTo5] at H1 H2
  clear hal
  have HL := Lib.hid (LawS.new w A T l b wl wh hA hT); clear hA hT; go_enter Try.func3, Try.ntmps3; go_wp2_with fail
  refine (large_no A T _ _ c d _ hl hb).mono ?_
  rintro e w' ⟨rfl, rfl⟩
  go_wp2_with fail
  refine (H1.out _ HL.out.sa HL.out.ta).mono ?_
  rintro e v1 ⟨rfl, hb1⟩
  replace HL := Lib.hid (HL.out.call hb1)
  clear hb1
  go_wp2_with fail
  have hbx : Below v1.heap.size v1 (v1.alloc (.cells (spansTo p 5) 29)) := (Below.refl _ _).alloc (Nat.le_refl _) _
  have X1 := Lib.hid (Blk.new v1 29 (spansTo p 5))
  replace HL := Lib.hid (HL.out.call hbx)
  clear hbx
  rw [spansTo5] at X1 HL
  refine (H2.out _ HL.out.sa HL.out.ta).mono ?_
  rintro e v2 ⟨rfl, hb1⟩
  replace HL := Lib.hid (HL.out.call hb1)
  replace X1 := Lib.hid (X1.out.below hb1 X1.out.lt)
  clear hb1
  go_wp2_with fail
  have hbx : Below v2.heap.size v2 (v2.alloc (.cells (spansTo p 5) 29)) := (Below.refl _ _).alloc (Nat.le_refl _) _
  replace X1 := Lib.hid (X1.out.below hbx X1.out.lt)
  have X2 := Lib.hid (Blk.new v2 29 (spansTo p 5))
  replace HL := Lib.hid (HL.out.call hbx)
  clear hbx
  rw [spansTo5] at X1 X2 HL
  refine (H3.out _ HL.out.sa HL.out.ta).mono ?_
  rintro e v3 ⟨rfl, hb1⟩
  replace HL := Lib.hid (HL.out.call hb1)
  replace X1 := Lib.hid (X1.out.below hb1 X1.out.lt)
  replace X2 := Lib.hid (X2.out.below hb1 X2.out.lt)
  clear hb1
  go_wp2_with fail
  have hbx : Below v3.heap.size v3 (v3.alloc (.cells #[.int .i64 s.lo, .int .i64 s.hi] 25)) := (Below.refl _ _).alloc (Nat.le_refl _) _
  replace X1 := Lib.hid (X1.out.below hbx X1.out.lt)
  replace X2 := Lib.hid (X2.out.below hbx X2.out.lt)
  have X3 := Lib.hid (Blk.new v3 25 #[.int .i64 s.lo, .int .i64 s.hi])
  replace HL := Lib.hid (HL.out.call hbx)
  clear hbx
  refine (H4.out _ HL.out.sa HL.out.ta).mono ?_
  rintro e v4 ⟨rfl, hb1⟩
  replace HL := Lib.hid (HL.out.call hb1)
  replace X1 := Lib.hid (X1.out.below hb1 X1.out.lt)
  replace X2 := Lib.hid (X2.out.below hb1 X2.out.lt)
  replace X3 := Lib.hid (X3.out.below hb1 X3.out.lt)
  clear hb1
  have o0 := HL.out.b0.cell 0
  have o1 := HL.out.b0.cell 1
  have ol := HL.out.b0.lt
  go_wp2_with fail
  have hbx : Below v4.heap.size v4 (v4.alloc (.cells #[.int .i64 s.lo, .int .i64 s.hi] 25)) := (Below.refl _ _).alloc (Nat.le_refl _) _
  replace X1 := Lib.hid (X1.out.below hbx X1.out.lt)
  replace X2 := Lib.hid (X2.out.below hbx X2.out.lt)
  replace X3 := Lib.hid (X3.out.below hbx X3.out.lt)
  have X4 := Lib.hid (Blk.new v4 25 #[.int .i64 s.lo, .int .i64 s.hi])
  replace HL := Lib.hid (HL.out.call hbx)
  clear hbx
  refine (H5.out _ HL.out.sa HL.out.ta).mono ?_
  rintro e v5 ⟨rfl, hb1⟩
  replace HL := Lib.hid (HL.out.call hb1)
  replace X1 := Lib.hid (X1.out.below hb1 X1.out.lt)
  replace X2 := Lib.hid (X2.out.below hb1 X2.out.lt)
  replace X3 := Lib.hid (X3.out.below hb1 X3.out.lt)
  replace X4 := Lib.hid (X4.out.below hb1 X4.out.lt)
  clear hb1 o0 o1 ol
  have o0 := HL.out.b0.cell 0
  have o1 := HL.out.b0.cell 1
  have ol := HL.out.b0.lt
  go_wp2_with fail
  have hbx : Below v5.heap.size v5 (v5.alloc (.cells #[.int .i64 x.lo, .int .i64 x.hi] 25)) := (Below.refl _ _).alloc (Nat.le_refl _) _
  replace X1 := Lib.hid (X1.out.below hbx X1.out.lt)
  replace X2 := Lib.hid (X2.out.below hbx X2.out.lt)
  replace X3 := Lib.hid (X3.out.below hbx X3.out.lt)
  replace X4 := Lib.hid (X4.out.below hbx X4.out.lt)
  have X5 := Lib.hid (Blk.new v5 25 #[.int .i64 x.lo, .int .i64 x.hi])
  replace HL := Lib.hid (HL.out.call hbx)
  clear hbx
  refine (H6.out _ HL.out.sa HL.out.ta).mono ?_
  rintro e v6 ⟨rfl, hb1⟩
  replace HL := Lib.hid (HL.out.call hb1)
  replace X1 := Lib.hid (X1.out.below hb1 X1.out.lt)
  replace X2 := Lib.hid (X2.out.below hb1 X2.out.lt)
  replace X3 := Lib.hid (X3.out.below hb1 X3.out.lt)
  replace X4 := Lib.hid (X4.out.below hb1 X4.out.lt)
  replace X5 := Lib.hid (X5.out.below hb1 X5.out.lt)
  clear hb1 o0 o1 ol
  have hbx : Below v6.heap.size v6 (v6.alloc (.cells #[.int .i64 x.lo, .int .i64 x.hi] 25)) := (Below.refl _ _).alloc (Nat.le_refl _) _
  have HZ : Hid (WeS w v1.heap.size v2.heap.size v3.heap.size v4.heap.size v5.heap.size v6.heap.size p s x (v6.alloc (.cells #[.int .i64 x.lo, .int .i64 x.hi] 25))) := ⟨(HL.out.call hbx).below, X1.out.below hbx X1.out.lt, X2.out.below hbx X2.out.lt, X3.out.below hbx X3.out.lt, X4.out.below hbx X4.out.lt, X5.out.below hbx X5.out.lt, Blk.new v6 _ _⟩
  have l1 := X1.out.lt
  have l2 := X2.out.lt
  have l3 := X3.out.lt
  have l4 := X4.out.lt
  have l5 := X5.out.lt
  have d0 := X1.out.cell 0
  have d1 := X1.out.cell 1
  have d2 := X1.out.cell 2
  have d3 := X1.out.cell 3
  have d4 := X1.out.cell 4
  have d5 := X1.out.cell 5
  have d6 := X1.out.cell 6
  have d7 := X1.out.cell 7
  have d8 := X1.out.cell 8
  have d9 := X1.out.cell 9
  have e0 := X2.out.cell 0
  have e1 := X2.out.cell 1
  have e2 := X2.out.cell 2
  have e3 := X2.out.cell 3
  have e4 := X2.out.cell 4
  have e5 := X2.out.cell 5
  have e6 := X2.out.cell 6
  have e7 := X2.out.cell 7
  have e8 := X2.out.cell 8
  have e9 := X2.out.cell 9
  have f0 := X3.out.cell 0
  have f1 := X3.out.cell 1
  have g0 := X4.out.cell 0
  have g1 := X4.out.cell 1
  have h0 := X5.out.cell 0
  have h1 := X5.out.cell 1
  clear HL X1 X2 X3 X4 X5 hbx H1 H2 H3 H4 H5 H6
  go_wp2_with fail
  refine (awake_any _).mono ?_
  rintro e w9 ⟨rfl, hb⟩
  have hB := HZ.out.below.trans (hb.mono HZ.out.below.size)
  clear HZ hb
  go_wp2_with fail
  go_ret
  exact ⟨rfl, hB⟩
end Go.Proofs.Ytkeplgpeokjdkaa
