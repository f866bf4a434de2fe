/- The law SackMixes. -/
import Derived.Test.YtkeplgpeokjdkaaV3
namespace Go.Proofs.Ytkeplgpeokjdkaa
open Go.RowKit Go.Shelf


set_option maxRecDepth 100000 in
set_option maxHeartbeats 4000000 in
theorem mixes_large (w : World) (A : Option Addr) (c : Nat) (l : List Sack) (first second total wl wh : Int) (hl : l.length ≤ 9223372036854775807) (hA : SackSl w w.heap.size A l) (h12 : 12 < l.length) :
    Calls Try.prog 4 #[.slice A l.length c, .int .i64 first, .int .i64 second, .int .i64 total, .agg #[.int .i64 wl, .int .i64 wh]] w (Ret (.bool true) w) := by
  have HL := Lib.hid (MxdS.new w wl wh A l hA); clear hA; go_enter Try.func4, Try.ntmps4; go_wp2_with fail
  refine (large_yes A none _ 0 c 0 _ hl (by omega) (.inl h12)).mono ?_
  rintro e w' ⟨rfl, rfl⟩
  go_wp2_with fail
  refine (awake_any _).mono ?_; rintro e w9 ⟨rfl, hb⟩; have hB := (HL.out.call hb).below; clear HL hb; go_wp2_with fail; go_ret; exact ⟨rfl, hB⟩

set_option maxRecDepth 100000 in
set_option maxHeartbeats 4000000 in
theorem mixes_much (w : World) (A : Option Addr) (c : Nat) (l : List Sack) (first second total wl wh : Int) (hl : l.length ≤ 12) (hA : SackSl w w.heap.size A l) (h1 : 3000 < total) (h2 : total ≤ 100000) :
    Calls Try.prog 4 #[.slice A l.length c, .int .i64 first, .int .i64 second, .int .i64 total, .agg #[.int .i64 wl, .int .i64 wh]] w (Ret (.bool true) w) := by
  have HL := Lib.hid (MxdS.new w wl wh A l hA); clear hA; go_enter Try.func4, Try.ntmps4; go_wp2_with fail
  refine (large_no A none _ 0 c 0 _ hl (by omega)).mono ?_
  rintro e w' ⟨rfl, rfl⟩
  go_wp2_with fail
  refine (awake_any _).mono ?_; rintro e w9 ⟨rfl, hb⟩; have hB := (HL.out.call hb).below; clear HL hb; go_wp2_with fail; go_ret; exact ⟨rfl, hB⟩

/-- Both answer alike. -/
structure AlikeM (l : List Sack) (first second total wl wh : Int) (A : Option Addr) (c : Nat) (x : Span) (xe : Int) : Prop where
  mix : ∀ W, SackSl W W.heap.size A l → Calls Try.prog 17 #[.slice A l.length c, .int .i64 first, .int .i64 second, .int .i64 total, .agg #[.int .i64 wl, .int .i64 wh]] W (Ret (.tuple #[.agg #[.int .i64 x.lo, .int .i64 x.hi], .int .i64 xe]) W)
  rmix : ∀ W, SackSl W W.heap.size A l → Calls Try.prog 18 #[.slice A l.length c, .int .i64 first, .int .i64 second, .int .i64 total, .agg #[.int .i64 wl, .int .i64 wh]] W (Ret (.tuple #[.agg #[.int .i64 x.lo, .int .i64 x.hi], .int .i64 xe]) W)

set_option maxRecDepth 100000 in
set_option maxHeartbeats 8000000 in
theorem mixes_alike (w : World) (A : Option Addr) (c : Nat) (l : List Sack) (first second total wl wh : Int) (hl : l.length ≤ 12) (hA : SackSl w w.heap.size A l) (ht : total ≤ 3000 ∨ 100000 < total) {x : Span} {xe : Int} (hal : AlikeM l first second total wl wh A c x xe) :
    Calls Try.prog 4 #[.slice A l.length c, .int .i64 first, .int .i64 second, .int .i64 total, .agg #[.int .i64 wl, .int .i64 wh]] w (Ret (.bool true) w) := by
  have H1 := Lib.hid hal.mix
  have H2 := Lib.hid hal.rmix
  clear hal
  rcases ht with ht | ht
  · have HL := Lib.hid (MxdS.new w wl wh A l hA); clear hA; go_enter Try.func4, Try.ntmps4; go_wp2_with fail
    refine (large_no A none _ 0 c 0 _ hl (by omega)).mono ?_
    (rintro e w' ⟨rfl, rfl⟩); have o0 := HL.out.b0.cell 0; have o1 := HL.out.b0.cell 1; go_wp2_with fail; (refine (H1.out _ HL.out.sa).mono ?_); (rintro e v1 ⟨rfl, hb1⟩); (replace HL := Lib.hid (HL.out.call hb1)); clear hb1 o0 o1; have o0 := HL.out.b0.cell 0; have o1 := HL.out.b0.cell 1; have ol := HL.out.b0.lt; go_wp2_with fail;   have X1 := Lib.hid (Blk.new v1 25 #[.int .i64 x.lo, .int .i64 x.hi]); have hbx : Below v1.heap.size v1 (v1.alloc (.cells #[.int .i64 x.lo, .int .i64 x.hi] 25)) := ((Below.refl _ _).alloc (Nat.le_refl _) _); (replace HL := Lib.hid (HL.out.call hbx)); clear hbx o0 o1 ol; (refine (H2.out _ HL.out.sa).mono ?_); (rintro e v2 ⟨rfl, hb1⟩); (replace HL := Lib.hid (HL.out.call hb1)); (replace X1 := Lib.hid (X1.out.below hb1 X1.out.lt)); clear hb1;   have d0 := X1.out.cell 0; have d1 := X1.out.cell 1; have l1 := X1.out.lt; have hbx : Below v2.heap.size v2 (v2.alloc (.cells #[.int .i64 x.lo, .int .i64 x.hi] 25)) := ((Below.refl _ _).alloc (Nat.le_refl _) _); have HB := Lib.hid (HL.out.call hbx).below; clear hbx HL X1 H1 H2; go_wp2_with fail; (refine (awake_any _).mono ?_); (rintro e w9 ⟨rfl, hb⟩); have hB := HB.out.trans (hb.mono HB.out.size); clear HB hb; go_wp2_with fail; go_ret; exact ⟨rfl, hB⟩
  · have ht2 : 3000 < total := by omega
    have HL := Lib.hid (MxdS.new w wl wh A l hA); clear hA; go_enter Try.func4, Try.ntmps4; go_wp2_with fail
    refine (large_no A none _ 0 c 0 _ hl (by omega)).mono ?_
    (rintro e w' ⟨rfl, rfl⟩); have o0 := HL.out.b0.cell 0; have o1 := HL.out.b0.cell 1; go_wp2_with fail; (refine (H1.out _ HL.out.sa).mono ?_); (rintro e v1 ⟨rfl, hb1⟩); (replace HL := Lib.hid (HL.out.call hb1)); clear hb1 o0 o1; have o0 := HL.out.b0.cell 0; have o1 := HL.out.b0.cell 1; have ol := HL.out.b0.lt; go_wp2_with fail;   have X1 := Lib.hid (Blk.new v1 25 #[.int .i64 x.lo, .int .i64 x.hi]); have hbx : Below v1.heap.size v1 (v1.alloc (.cells #[.int .i64 x.lo, .int .i64 x.hi] 25)) := ((Below.refl _ _).alloc (Nat.le_refl _) _); (replace HL := Lib.hid (HL.out.call hbx)); clear hbx o0 o1 ol; (refine (H2.out _ HL.out.sa).mono ?_); (rintro e v2 ⟨rfl, hb1⟩); (replace HL := Lib.hid (HL.out.call hb1)); (replace X1 := Lib.hid (X1.out.below hb1 X1.out.lt)); clear hb1;   have d0 := X1.out.cell 0; have d1 := X1.out.cell 1; have l1 := X1.out.lt; have hbx : Below v2.heap.size v2 (v2.alloc (.cells #[.int .i64 x.lo, .int .i64 x.hi] 25)) := ((Below.refl _ _).alloc (Nat.le_refl _) _); have HB := Lib.hid (HL.out.call hbx).below; clear hbx HL X1 H1 H2; go_wp2_with fail; (refine (awake_any _).mono ?_); (rintro e w9 ⟨rfl, hb⟩); have hB := HB.out.trans (hb.mono HB.out.size); clear HB hb; go_wp2_with fail; go_ret; exact ⟨rfl, hB⟩
end Go.Proofs.Ytkeplgpeokjdkaa
