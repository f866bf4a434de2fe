/- The law SackMixed: the way on which Mix answers none. -/
import Derived.Test.YtkeplgpeokjdkaaMa
namespace Go.Proofs.Ytkeplgpeokjdkaa
open Go.RowKit Go.Shelf

theorem Boxes.cap {w : World} {A : Option Addr} {c : Nat} {l : List Sack} {n1 n2 : Nat} {total wl wh : Int} {p0 p1 p2 p3 p4 : Nat} {W : World} (h : Boxes w A c l n1 n2 total wl wh p0 p1 p2 p3 p4 W) : Cap W A c l n1 n2 total wl wh p0 p1 p2 p3 p4 W :=
  ⟨Below.refl _ _, h.b0.cell 0, h.b1.cell 0, h.b2.cell 0, h.b3.cell 0, h.b4.cell 0, h.b4.cell 1, h.b0.lt, h.b1.lt, h.b2.lt, h.b3.lt, h.b4.lt⟩
theorem within_boxes {w : World} {A : Option Addr} {c : Nat} {l : List Sack} {n1 n2 : Nat} {total wl wh : Int} {p0 p1 p2 p3 p4 : Nat} {W : World} (hX : Boxes w A c l n1 n2 total wl wh p0 p1 p2 p3 p4 W) (hA : SackSl w w.heap.size A l) (hl : l.length ≤ 12) (hv : sacksOk l = true) (h1 : n1 < l.length) (h2 : n2 < l.length) (ht : total ≤ 100000) (n : Int) (hn : 1 ≤ n) (hn' : n < total) :
    Calls Try.prog 28 #[.int .i64 n, .pointer (some ⟨p0, 0, none⟩), .pointer (some ⟨p1, 0, none⟩), .pointer (some ⟨p2, 0, none⟩), .pointer (some ⟨p3, 0, none⟩), .pointer (some ⟨p4, 0, none⟩)] W (Ret (.bool (mixW l n1 n2 total wl wh n)) W) :=
  mixed1_any W A c l n1 n2 total wl wh n p0 p1 p2 p3 p4 (by omega) ((hA.below hX.below).more hX.below.size) hv h1 h2 ht hn hn' hX.cap
theorem modn {total bY : Int} (ht : 2 ≤ total) (ht' : total ≤ 100000) : 1 ≤ 1 + bY % (total - 1) ∧ 1 + bY % (total - 1) < total ∧ wrap64 (1 + bY % (total - 1)) = 1 + bY % (total - 1) := by
  have h1 := Int.emod_nonneg bY (show total - 1 ≠ 0 by omega)
  have h2 := Int.emod_lt_of_pos bY (show 0 < total - 1 by omega)
  exact ⟨by omega, by omega, by unfold wrap64; omega⟩
set_option maxRecDepth 100000 in
set_option maxHeartbeats 4000000 in
theorem mixed_none (w : World) (A : Option Addr) (c : Nat) (l : List Sack) (n1 n2 : Nat) (total wl wh bY : Int) (h12 : l.length ≤ 12) (hA : SackSl w w.heap.size A l) (hv : sacksOk l = true) (h1 : n1 < l.length) (h2 : n2 < l.length) (ht : 2 ≤ total) (ht' : total ≤ 100000) (hb0 : 0 ≤ bY) (hb1 : bY ≤ 4294967295)
    (hM : ∀ W, SackSl W W.heap.size A l → Calls Try.prog 17 #[.slice A l.length c, .int .i64 n1, .int .i64 n2, .int .i64 total, .agg #[.int .i64 wl, .int .i64 wh]] W (Ret (.tuple #[.agg #[.int .i64 0, .int .i64 0], .int .i64 4]) W))
    (hN : ∀ n, 1 ≤ n → n < total → mixW l n1 n2 total wl wh n = false) :
    Calls Try.prog 8 #[.slice A l.length c, .int .i64 n1, .int .i64 n2, .int .i64 total, .agg #[.int .i64 wl, .int .i64 wh], .int .u32 bY] w (Ret (.bool true) w) := by
  have HN := Lib.hid hN
  clear hN
  have HX := Lib.hid (Boxes.new w A c l n1 n2 total wl wh); have HA0 := Lib.hid hA; have HA := Lib.hid ((hA.below HX.out.below).more HX.out.below.size); clear hA; (go_enter Try.func8, Try.ntmps8); go_wp2_with fail; generalize (((((w.alloc (.cells #[.slice A l.length c] 22)).alloc (.cells #[.int .i64 n1] 3)).alloc (.cells #[.int .i64 n2] 3)).alloc (.cells #[.int .i64 total] 3)).alloc (.cells #[.int .i64 wl, .int .i64 wh] 25)) = W0 at HX HA ⊢; generalize w.heap.size + 1 + 1 + 1 + 1 = p4 at HX ⊢; generalize w.heap.size + 1 + 1 + 1 = p3 at HX ⊢; generalize w.heap.size + 1 + 1 = p2 at HX ⊢; generalize w.heap.size + 1 = p1 at HX ⊢; generalize hp : w.heap.size = p0 at HX ⊢; have hd : decide (12 < l.length ∨ 12 < 0) = false := (by simp; omega); refine (large_any A none l.length 0 c 0 W0 (by omega) (by omega)).mono ?_; rintro e w' ⟨rfl, rfl⟩; rw [hd]; clear hd; have c0 := HX.out.b0.cell 0; have c1 := HX.out.b1.cell 0; have c2 := HX.out.b2.cell 0; have c3 := HX.out.b3.cell 0; have c4 := HX.out.b4.cell 0; have c5 := HX.out.b4.cell 1; go_wp2_with fail; refine (hM _ HA.out).mono ?_; rintro e w1 ⟨rfl, hb⟩; replace HX := Lib.hid (HX.out.call hb); replace HA := Lib.hid ((HA.out.below hb).more hb.size); clear hb c0 c1 c2 c3 c4 c5 hM; have c0 := HX.out.b0.cell 0; have hlt := HX.out.b0.lt
  have hbm : Below w1.heap.size w1 (w1.alloc (.cells #[.int .i64 0, .int .i64 0] 25)) := (Below.refl _ _).alloc (Nat.le_refl _) _
  go_wp2_with fail
  refine (rsacks_any _ A c l (by omega) ((HA.out.below hbm).more hbm.size)).mono ?_
  rintro e w2 ⟨rfl, hb⟩
  rw [hv]
  have HM := Lib.hid ((Blk.new w1 25 #[.int .i64 0, .int .i64 0]).below hb (Blk.new w1 25 #[.int .i64 0, .int .i64 0]).lt)
  generalize w1.heap.size = pm at HM ⊢
  replace HX := Lib.hid ((HX.out.call hbm).call hb)
  clear hb c0 hlt hbm
  have c0 := HX.out.b0.cell 0
  have c1 := HX.out.b1.cell 0
  have c2 := HX.out.b2.cell 0
  have c3 := HX.out.b3.cell 0
  go_wp2_with fail
  obtain ⟨hn, hn', hw⟩ := modn (bY := bY) ht ht'
  rw [hw]
  generalize 1 + bY % (total - 1) = n at hn hn' ⊢
  clear hw
  refine (within_boxes HX.out (hp ▸ HA0.out) h12 hv h1 h2 ht' n hn hn').mono ?_
  rintro e w3 ⟨rfl, hb⟩
  rw [HN.out n hn hn']
  replace HX := Lib.hid (HX.out.call hb)
  clear hb c0 c1 c2 c3
  go_wp2_with fail
  refine (awake_any _).mono ?_
  rintro e w' ⟨rfl, hb⟩
  have hB := (HX.out.call hb).below
  clear HX hb
  go_wp2_with fail
  go_ret
  exact ⟨rfl, hB⟩
end Go.Proofs.Ytkeplgpeokjdkaa
