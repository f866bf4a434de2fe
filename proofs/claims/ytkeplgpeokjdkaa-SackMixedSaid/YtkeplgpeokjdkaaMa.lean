/- The law SackMixed: the ways that end early. -/
import Derived.Test.YtkeplgpeokjdkaaMx
namespace Go.Proofs.Ytkeplgpeokjdkaa
open Go.RowKit Go.Shelf

structure Boxes (w : World) (A : Option Addr) (c : Nat) (l : List Sack) (first second total wl wh : Int) (p0 p1 p2 p3 p4 : Nat) (W : World) : Prop where
  below : Below w.heap.size w W
  b0 : Blk W p0 22 #[.slice A l.length c]
  b1 : Blk W p1 3 #[.int .i64 first]
  b2 : Blk W p2 3 #[.int .i64 second]
  b3 : Blk W p3 3 #[.int .i64 total]
  b4 : Blk W p4 25 #[.int .i64 wl, .int .i64 wh]
theorem Boxes.call {w : World} {A : Option Addr} {c : Nat} {l : List Sack} {first second total wl wh : Int} {p0 p1 p2 p3 p4 : Nat} {W W' : World} (h : Boxes w A c l first second total wl wh p0 p1 p2 p3 p4 W) (hb : Below W.heap.size W W') : Boxes w A c l first second total wl wh p0 p1 p2 p3 p4 W' :=
  ⟨h.below.trans (hb.mono h.below.size), h.b0.below hb h.b0.lt, h.b1.below hb h.b1.lt, h.b2.below hb h.b2.lt, h.b3.below hb h.b3.lt, h.b4.below hb h.b4.lt⟩
theorem Blk.at_ {W : World} {p : Nat} (ty : TypeId) (cs : Array Value) (h : p = W.heap.size) : Blk (W.alloc (.cells cs ty)) p ty cs := by subst h; exact Blk.new _ _ _
theorem Boxes.new (w : World) (A : Option Addr) (c : Nat) (l : List Sack) (first second total wl wh : Int) :
    Boxes w A c l first second total wl wh w.heap.size (w.heap.size + 1) (w.heap.size + 1 + 1) (w.heap.size + 1 + 1 + 1) (w.heap.size + 1 + 1 + 1 + 1) (((((w.alloc (.cells #[.slice A l.length c] 22)).alloc (.cells #[.int .i64 first] 3)).alloc (.cells #[.int .i64 second] 3)).alloc (.cells #[.int .i64 total] 3)).alloc (.cells #[.int .i64 wl, .int .i64 wh] 25)) :=
  ⟨by repeat (first | exact Below.refl _ _ | assumption | refine Below.drew ?_ | refine Below.alloc ?_ (by first | omega | (simp only [World.size_alloc]; omega) | simp) _ | refine Below.setCell ?_ (by first | omega | (simp only [World.size_alloc]; omega) | simp) _), ((((Blk.at_ _ _ rfl).alloc _).alloc _).alloc _).alloc _, (((Blk.at_ _ _ (by simp only [World.size_alloc])).alloc _).alloc _).alloc _, ((Blk.at_ _ _ (by simp only [World.size_alloc])).alloc _).alloc _, (Blk.at_ _ _ (by simp only [World.size_alloc])).alloc _, Blk.at_ _ _ (by simp only [World.size_alloc])⟩

set_option maxRecDepth 100000 in
set_option maxHeartbeats 4000000 in
theorem mixed_large (w : World) (A : Option Addr) (c : Nat) (l : List Sack) (first second total wl wh bY : Int) (hl : l.length ≤ 9223372036854775807) (h12 : 12 < l.length) :
    Calls Try.prog 8 #[.slice A l.length c, .int .i64 first, .int .i64 second, .int .i64 total, .agg #[.int .i64 wl, .int .i64 wh], .int .u32 bY] w (Ret (.bool true) w) := by
  have HX := Lib.hid (Boxes.new w A c l first second total wl wh)
  go_enter Try.func8, Try.ntmps8
  go_wp2_with fail
  generalize (((((w.alloc (.cells #[.slice A l.length c] 22)).alloc (.cells #[.int .i64 first] 3)).alloc (.cells #[.int .i64 second] 3)).alloc (.cells #[.int .i64 total] 3)).alloc (.cells #[.int .i64 wl, .int .i64 wh] 25)) = W0 at HX ⊢
  have hd : decide (12 < l.length ∨ 12 < 0) = true := by simp; omega
  refine (large_any A none l.length 0 c 0 W0 hl (by omega)).mono ?_
  rintro e w' ⟨rfl, rfl⟩
  rw [hd]
  clear hd
  go_wp2_with fail
  refine (awake_any _).mono ?_
  rintro e w' ⟨rfl, hb⟩
  have hB := (HX.out.call hb).below
  clear HX hb
  go_wp2_with fail
  go_ret
  exact ⟨rfl, hB⟩

set_option maxRecDepth 100000 in
set_option maxHeartbeats 4000000 in
theorem mixed_early (w : World) (A : Option Addr) (c : Nat) (l : List Sack) (first second total wl wh bY : Int) (h12 : l.length ≤ 12) (hA : SackSl w w.heap.size A l) (k : Int) (hk : k = 1 ∧ sacksOk l = false ∨ k = 2 ∧ sacksOk l = true)
    (hM : ∀ W, SackSl W W.heap.size A l → Calls Try.prog 17 #[.slice A l.length c, .int .i64 first, .int .i64 second, .int .i64 total, .agg #[.int .i64 wl, .int .i64 wh]] W (Ret (.tuple #[.agg #[.int .i64 0, .int .i64 0], .int .i64 k]) W)) :
    Calls Try.prog 8 #[.slice A l.length c, .int .i64 first, .int .i64 second, .int .i64 total, .agg #[.int .i64 wl, .int .i64 wh], .int .u32 bY] w (Ret (.bool true) w) := by
  have HX := Lib.hid (Boxes.new w A c l first second total wl wh)
  have HA := Lib.hid ((hA.below HX.out.below).more HX.out.below.size)
  clear hA
  go_enter Try.func8, Try.ntmps8
  go_wp2_with fail
  generalize (((((w.alloc (.cells #[.slice A l.length c] 22)).alloc (.cells #[.int .i64 first] 3)).alloc (.cells #[.int .i64 second] 3)).alloc (.cells #[.int .i64 total] 3)).alloc (.cells #[.int .i64 wl, .int .i64 wh] 25)) = W0 at HX HA ⊢
  generalize w.heap.size + 1 + 1 + 1 + 1 = p4 at HX ⊢
  generalize w.heap.size + 1 + 1 + 1 = p3 at HX ⊢
  generalize w.heap.size + 1 + 1 = p2 at HX ⊢
  generalize w.heap.size + 1 = p1 at HX ⊢
  generalize hp : w.heap.size = p0 at HX ⊢
  have hd : decide (12 < l.length ∨ 12 < 0) = false := (by simp; omega); refine (large_any A none l.length 0 c 0 W0 (by omega) (by omega)).mono ?_; rintro e w' ⟨rfl, rfl⟩; rw [hd]; clear hd; have c0 := HX.out.b0.cell 0; have c1 := HX.out.b1.cell 0; have c2 := HX.out.b2.cell 0; have c3 := HX.out.b3.cell 0; have c4 := HX.out.b4.cell 0; have c5 := HX.out.b4.cell 1
  go_wp2_with fail
  refine (hM _ HA.out).mono ?_
  rintro e w1 ⟨rfl, hb⟩
  replace HX := Lib.hid (HX.out.call hb)
  replace HA := Lib.hid ((HA.out.below hb).more hb.size)
  clear hb c0 c1 c2 c3 c4 c5 hM
  have c0 := HX.out.b0.cell 0
  have hlt := HX.out.b0.lt
  have hbm : Below w1.heap.size w1 (w1.alloc (.cells #[.int .i64 0, .int .i64 0] 25)) := (Below.refl _ _).alloc (Nat.le_refl _) _
  rcases hk with ⟨rfl, hv⟩ | ⟨rfl, hv⟩
  · go_wp2_with fail
    refine (rsacks_any _ A c l (by omega) ((HA.out.below hbm).more hbm.size)).mono ?_
    rintro e w2 ⟨rfl, hb⟩
    rw [hv]
    replace HX := Lib.hid ((HX.out.call hbm).call hb)
    clear hb c0
    go_wp2_with fail
    refine (awake_any _).mono ?_
    rintro e w' ⟨rfl, hb⟩
    have hB := (HX.out.call hb).below
    clear HX hb
    go_wp2_with fail
    go_ret
    exact ⟨rfl, hB⟩
  · go_wp2_with fail
    refine (rsacks_any _ A c l (by omega) ((HA.out.below hbm).more hbm.size)).mono ?_
    rintro e w2 ⟨rfl, hb⟩
    rw [hv]
    replace HX := Lib.hid ((HX.out.call hbm).call hb)
    clear hb c0
    go_wp2_with fail
    refine (awake_any _).mono ?_
    rintro e w' ⟨rfl, hb⟩
    have hB := (HX.out.call hb).below
    clear HX hb
    go_wp2_with fail
    go_ret
    exact ⟨rfl, hB⟩
end Go.Proofs.Ytkeplgpeokjdkaa
