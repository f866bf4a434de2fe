/- The law SackMixed: the way on which Mix answers numbers of grams. -/
import Derived.Test.YtkeplgpeokjdkaaMb
namespace Go.Proofs.Ytkeplgpeokjdkaa
open Go.RowKit Go.Shelf

def KS (w : World) (pm : Nat) (a b : Int) (P : Prop) (W : World) : Prop := Below w.heap.size w W ∧ W.cell? ⟨pm, 0, none⟩ = some (.int .i64 a) ∧ W.cell? ⟨pm, 1, none⟩ = some (.int .i64 b) ∧ P
theorem KS.of {w : World} {pm : Nat} {a b : Int} (h : Blk w pm 25 #[.int .i64 a, .int .i64 b]) {P : Prop} (hP : P) {W : World} (hb : Below w.heap.size w W) : KS w pm a b P W :=
  ⟨hb, (h.below hb h.lt).cell 0, (h.below hb h.lt).cell 1, hP⟩
theorem KS.below2 {w : World} {pm : Nat} {a b : Int} {P : Prop} {W W' : World} (h : KS w pm a b P W) (hb : Below W.heap.size W W') : Below w.heap.size w W' := h.1.trans (hb.mono h.1.size)
/-- What the closure answers at a number, in every world that has grown out of w. -/
def Asks (w : World) (p0 p1 p2 p3 p4 : Nat) (n : Int) (q : Bool) : Prop := ∀ W, Below w.heap.size w W → Calls Try.prog 28 #[.int .i64 n, .pointer (some ⟨p0, 0, none⟩), .pointer (some ⟨p1, 0, none⟩), .pointer (some ⟨p2, 0, none⟩), .pointer (some ⟨p3, 0, none⟩), .pointer (some ⟨p4, 0, none⟩)] W (Ret (.bool q) W)
theorem Asks.call {w : World} {p0 p1 p2 p3 p4 : Nat} {n : Int} {q : Bool} (h : Asks w p0 p1 p2 p3 p4 n q) {W : World} (hW : Below w.heap.size w W) : Calls Try.prog 28 #[.int .i64 n, .pointer (some ⟨p0, 0, none⟩), .pointer (some ⟨p1, 0, none⟩), .pointer (some ⟨p2, 0, none⟩), .pointer (some ⟨p3, 0, none⟩), .pointer (some ⟨p4, 0, none⟩)] W (Ret (.bool q) W) := h W hW
theorem asks_of {w w2 : World} {A : Option Addr} {c : Nat} {l : List Sack} {n1 n2 : Nat} {total wl wh : Int} {p0 p1 p2 p3 p4 : Nat} (hX : Boxes w A c l n1 n2 total wl wh p0 p1 p2 p3 p4 w2) (hA : SackSl w w.heap.size A l) (hl : l.length ≤ 12) (hv : sacksOk l = true) (h1 : n1 < l.length) (h2 : n2 < l.length) (ht : total ≤ 100000) {a b : Int}
    (hN : ∀ n, 1 ≤ n → n < total → mixW l n1 n2 total wl wh n = decide (a ≤ n ∧ n ≤ b)) (n : Int) (hn : 1 ≤ n) (hn' : n < total) (q : Bool) (hq : decide (a ≤ n ∧ n ≤ b) = q) : Asks w2 p0 p1 p2 p3 p4 n q := by
  intro W hW
  rw [← hq, ← hN n hn hn']
  exact within_boxes (hX.call hW) hA hl hv h1 h2 ht n hn hn'
set_option maxRecDepth 100000 in
set_option maxHeartbeats 16000000 in
theorem mixed_some (w : World) (A : Option Addr) (c : Nat) (l : List Sack) (n1 n2 : Nat) (total wl wh bY a b : Int) (h12 : l.length ≤ 12) (hA : SackSl w w.heap.size A l) (hv : sacksOk l = true) (h1 : n1 < l.length) (h2 : n2 < l.length) (ht : 2 ≤ total) (ht' : total ≤ 100000) (hb0 : 0 ≤ bY) (hb1 : bY ≤ 4294967295)
    (ha : 1 ≤ a) (hab : a ≤ b) (hb : b ≤ total - 1)
    (hM : ∀ W, SackSl W W.heap.size A l → Calls Try.prog 17 #[.slice A l.length c, .int .i64 n1, .int .i64 n2, .int .i64 total, .agg #[.int .i64 wl, .int .i64 wh]] W (Ret (.tuple #[.agg #[.int .i64 a, .int .i64 b], .int .i64 0]) W))
    (hN : ∀ n, 1 ≤ n → n < total → mixW l n1 n2 total wl wh n = decide (a ≤ n ∧ n ≤ b)) :
    Calls Try.prog 8 #[.slice A l.length c, .int .i64 n1, .int .i64 n2, .int .i64 total, .agg #[.int .i64 wl, .int .i64 wh], .int .u32 bY] w (Ret (.bool true) w) := by
  have HN := Lib.hid hN
  clear hN
  have hbd := hb
  clear hb
  have HX := Lib.hid (Boxes.new w A c l n1 n2 total wl wh); have HA0 := Lib.hid hA; have HA := Lib.hid ((hA.below HX.out.below).more HX.out.below.size); clear hA; (go_enter Try.func8, Try.ntmps8); go_wp2_with fail; generalize (((((w.alloc (.cells #[.slice A l.length c] 22)).alloc (.cells #[.int .i64 n1] 3)).alloc (.cells #[.int .i64 n2] 3)).alloc (.cells #[.int .i64 total] 3)).alloc (.cells #[.int .i64 wl, .int .i64 wh] 25)) = W0 at HX HA ⊢; generalize w.heap.size + 1 + 1 + 1 + 1 = p4 at HX ⊢; generalize w.heap.size + 1 + 1 + 1 = p3 at HX ⊢; generalize w.heap.size + 1 + 1 = p2 at HX ⊢; generalize w.heap.size + 1 = p1 at HX ⊢; generalize hp : w.heap.size = p0 at HX ⊢; have hd : decide (12 < l.length ∨ 12 < 0) = false := (by simp; omega); refine (large_any A none l.length 0 c 0 W0 (by omega) (by omega)).mono ?_; rintro e w' ⟨rfl, rfl⟩; rw [hd]; clear hd; have c0 := HX.out.b0.cell 0; have c1 := HX.out.b1.cell 0; have c2 := HX.out.b2.cell 0; have c3 := HX.out.b3.cell 0; have c4 := HX.out.b4.cell 0; have c5 := HX.out.b4.cell 1; go_wp2_with fail; refine (hM _ HA.out).mono ?_; rintro e w1 ⟨rfl, hb⟩; replace HX := Lib.hid (HX.out.call hb); replace HA := Lib.hid ((HA.out.below hb).more hb.size); clear hb c0 c1 c2 c3 c4 c5 hM; have c0 := HX.out.b0.cell 0; have hlt := HX.out.b0.lt
  have hbm : Below w1.heap.size w1 (w1.alloc (.cells #[.int .i64 a, .int .i64 b] 25)) := (Below.refl _ _).alloc (Nat.le_refl _) _
  go_wp2_with fail
  refine (rsacks_any _ A c l (by omega) ((HA.out.below hbm).more hbm.size)).mono ?_
  rintro e w2 ⟨rfl, hb⟩
  rw [hv]
  have HM := Lib.hid ((Blk.new w1 25 #[.int .i64 a, .int .i64 b]).below hb (Blk.new w1 25 #[.int .i64 a, .int .i64 b]).lt)
  generalize w1.heap.size = pm at HM ⊢
  replace HX := Lib.hid ((HX.out.call hbm).call hb)
  clear hb c0 hlt hbm
  have c0 := HX.out.b0.cell 0
  have c1 := HX.out.b1.cell 0
  have c2 := HX.out.b2.cell 0
  have c3 := HX.out.b3.cell 0
  have m0 := HM.out.cell 0
  have m1 := HM.out.cell 1
  go_wp2_with fail
  obtain ⟨hn, hn', hw⟩ := modn (bY := bY) ht ht'
  rw [hw]
  generalize 1 + bY % (total - 1) = n at hn hn' ⊢
  clear hw
  have HQ := Lib.hid (asks_of HX.out (hp ▸ HA0.out) h12 hv h1 h2 ht' HN.out)
  clear c0 c1 c2 c3 m0 m1
  go_cut [149] (fun s149 wx => s149 = .bool false ∧ Hid (Below w2.heap.size w2 wx))
  case first =>
    have HQa := Lib.hid (HQ.out a (by omega) (by omega) true (by simp; omega))
    have HQb := Lib.hid (HQ.out b (by omega) (by omega) true (by simp; omega))
    by_cases g1 : a ≤ n
    · by_cases g2 : n ≤ b
      · have HQn := Lib.hid (HQ.out n hn hn' true (by simp; omega))
        go_region_held3 (fun W => Below w2.heap.size w2 W ∧ W.cell? ⟨pm, 0, none⟩ = some (.int .i64 a) ∧ W.cell? ⟨pm, 1, none⟩ = some (.int .i64 b) ∧ True) (first | exact KS.of HM.out (by first | trivial | assumption | omega) (Below.refl _ _).drew | exact KS.of HM.out (by first | trivial | assumption | omega) hbe | assumption | fail "no keep") (first | (go_at_call 28; (with_reducible refine (Asks.call HQn.out ?_).mono ?_); (· exact And.left (by assumption : KS w2 pm a b _ _)); rintro e e' ⟨rfl, hb'⟩; have hbe := KS.below2 (by assumption : KS w2 pm a b _ _) hb') | (go_at_call 28; (with_reducible refine (Asks.call HQa.out ?_).mono ?_); (· exact And.left (by assumption : KS w2 pm a b _ _)); rintro e e' ⟨rfl, hb'⟩; have hbe := KS.below2 (by assumption : KS w2 pm a b _ _) hb') | (go_at_call 28; (with_reducible refine (Asks.call HQb.out ?_).mono ?_); (· exact And.left (by assumption : KS w2 pm a b _ _)); rintro e e' ⟨rfl, hb'⟩; have hbe := KS.below2 (by assumption : KS w2 pm a b _ _) hb') | (go_at_call 10; refine (awake_any _).mono ?_; rintro e e' ⟨rfl, hb'⟩; have hbe := KS.below2 (by assumption : KS w2 pm a b _ _) hb') | fail "no arm")
        go_wp2_with fail
        go_meet
        exact ⟨rfl, Lib.hid hbe⟩
      · have HQn := Lib.hid (HQ.out n hn hn' false (by simp; omega))
        have hd : decide (n ≤ b) = false := by simp; omega
        clear g2
        go_region_held3 (fun W => Below w2.heap.size w2 W ∧ W.cell? ⟨pm, 0, none⟩ = some (.int .i64 a) ∧ W.cell? ⟨pm, 1, none⟩ = some (.int .i64 b) ∧ True) (first | exact KS.of HM.out (by first | trivial | assumption | omega) (Below.refl _ _).drew | exact KS.of HM.out (by first | trivial | assumption | omega) hbe | assumption | fail "no keep") (first | (go_at_call 28; (with_reducible refine (Asks.call HQn.out ?_).mono ?_); (· exact And.left (by assumption : KS w2 pm a b _ _)); rintro e e' ⟨rfl, hb'⟩; have hbe := KS.below2 (by assumption : KS w2 pm a b _ _) hb') | (go_at_call 28; (with_reducible refine (Asks.call HQa.out ?_).mono ?_); (· exact And.left (by assumption : KS w2 pm a b _ _)); rintro e e' ⟨rfl, hb'⟩; have hbe := KS.below2 (by assumption : KS w2 pm a b _ _) hb') | (go_at_call 28; (with_reducible refine (Asks.call HQb.out ?_).mono ?_); (· exact And.left (by assumption : KS w2 pm a b _ _)); rintro e e' ⟨rfl, hb'⟩; have hbe := KS.below2 (by assumption : KS w2 pm a b _ _) hb') | (go_at_call 10; refine (awake_any _).mono ?_; rintro e e' ⟨rfl, hb'⟩; have hbe := KS.below2 (by assumption : KS w2 pm a b _ _) hb') | fail "no arm")
        go_wp2_with fail
        go_meet
        exact ⟨rfl, Lib.hid hbe⟩
    · have HQn := Lib.hid (HQ.out n hn hn' false (by simp; omega))
      have hd : decide (a ≤ n) = false := by simp; omega
      clear g1
      have hbo : Below w2.heap.size w2 w2.drew := (Below.refl _ _).drew
      have m0 := HM.out.cell 0
      have m1 := HM.out.cell 1
      first | (go_region_with (first | (go_at_call 28; (with_reducible refine (Asks.call HQn.out hbo).mono ?_); (rintro e e' ⟨rfl, hb'⟩; replace hbo := hbo.trans (hb'.mono hbo.size); clear hb' m0 m1; have m0 := (HM.out.below hbo HM.out.lt).cell 0; have m1 := (HM.out.below hbo HM.out.lt).cell 1)) | (go_at_call 28; (with_reducible refine (Asks.call HQa.out hbo).mono ?_); (rintro e e' ⟨rfl, hb'⟩; replace hbo := hbo.trans (hb'.mono hbo.size); clear hb' m0 m1; have m0 := (HM.out.below hbo HM.out.lt).cell 0; have m1 := (HM.out.below hbo HM.out.lt).cell 1)) | (go_at_call 28; (with_reducible refine (Asks.call HQb.out hbo).mono ?_); (rintro e e' ⟨rfl, hb'⟩; replace hbo := hbo.trans (hb'.mono hbo.size); clear hb' m0 m1; have m0 := (HM.out.below hbo HM.out.lt).cell 0; have m1 := (HM.out.below hbo HM.out.lt).cell 1)))) | fail "reg"
      all_goals go_wp2_with fail
      all_goals go_meet
      all_goals exact ⟨rfl, Lib.hid hbo⟩
  case rest =>
    obtain ⟨rfl, hcc⟩ := hcut
    have hwc := hcc.out
    clear hcc
    have hw1 : IntKind.i64.wrap (a - 1) = a - 1 := wr (by omega) (by omega)
    have hw2 : IntKind.i64.wrap (b + 1) = b + 1 := wr (by omega) (by omega)
    have hw3 : IntKind.i64.wrap (total - 1) = total - 1 := wr (by omega) (by omega)
    by_cases g1 : a = 1
    · subst g1
      by_cases g2 : b = total - 1
      · subst g2
        have m0 := (HM.out.below hwc HM.out.lt).cell 0; have m1 := (HM.out.below hwc HM.out.lt).cell 1; have c3 := (HX.out.b3.below hwc HX.out.b3.lt).cell 0
        go_wp2_with fail
        refine (awake_any _).mono ?_; rintro e w' ⟨rfl, hb⟩; have hB := (HX.out.call (hwc.trans (hb.mono hwc.size))).below; clear HX hb hwc; go_wp2_with fail; go_ret; exact ⟨rfl, hB⟩
      · have HQb := Lib.hid (HQ.out (b + 1) (by omega) (by omega) false (by simp; omega))
        have m0 := (HM.out.below hwc HM.out.lt).cell 0; have m1 := (HM.out.below hwc HM.out.lt).cell 1; have c3 := (HX.out.b3.below hwc HX.out.b3.lt).cell 0
        go_wp2_with fail
        refine (Asks.call HQb.out hwc).mono ?_
        rintro e w4 ⟨rfl, hb⟩; (replace hwc := hwc.trans (hb.mono hwc.size)); clear hb m0 m1 c3; have m0 := (HM.out.below hwc HM.out.lt).cell 0; have m1 := (HM.out.below hwc HM.out.lt).cell 1; have c3 := (HX.out.b3.below hwc HX.out.b3.lt).cell 0; go_wp2_with fail
        refine (awake_any _).mono ?_; rintro e w' ⟨rfl, hb⟩; have hB := (HX.out.call (hwc.trans (hb.mono hwc.size))).below; clear HX hb hwc; go_wp2_with fail; go_ret; exact ⟨rfl, hB⟩
    · have HQa := Lib.hid (HQ.out (a - 1) (by omega) (by omega) false (by simp; omega))
      by_cases g2 : b = total - 1
      · subst g2
        have m0 := (HM.out.below hwc HM.out.lt).cell 0; have m1 := (HM.out.below hwc HM.out.lt).cell 1; have c3 := (HX.out.b3.below hwc HX.out.b3.lt).cell 0
        go_wp2_with fail
        refine (Asks.call HQa.out hwc).mono ?_
        rintro e w4 ⟨rfl, hb⟩; (replace hwc := hwc.trans (hb.mono hwc.size)); clear hb m0 m1 c3; have m0 := (HM.out.below hwc HM.out.lt).cell 0; have m1 := (HM.out.below hwc HM.out.lt).cell 1; have c3 := (HX.out.b3.below hwc HX.out.b3.lt).cell 0; go_wp2_with fail
        refine (awake_any _).mono ?_; rintro e w' ⟨rfl, hb⟩; have hB := (HX.out.call (hwc.trans (hb.mono hwc.size))).below; clear HX hb hwc; go_wp2_with fail; go_ret; exact ⟨rfl, hB⟩
      · have HQb := Lib.hid (HQ.out (b + 1) (by omega) (by omega) false (by simp; omega))
        have m0 := (HM.out.below hwc HM.out.lt).cell 0; have m1 := (HM.out.below hwc HM.out.lt).cell 1; have c3 := (HX.out.b3.below hwc HX.out.b3.lt).cell 0
        go_wp2_with fail
        refine (Asks.call HQa.out hwc).mono ?_
        rintro e w4 ⟨rfl, hb⟩; (replace hwc := hwc.trans (hb.mono hwc.size)); clear hb m0 m1 c3; have m0 := (HM.out.below hwc HM.out.lt).cell 0; have m1 := (HM.out.below hwc HM.out.lt).cell 1; have c3 := (HX.out.b3.below hwc HX.out.b3.lt).cell 0; go_wp2_with fail
        refine (Asks.call HQb.out hwc).mono ?_
        rintro e w4 ⟨rfl, hb⟩; (replace hwc := hwc.trans (hb.mono hwc.size)); clear hb m0 m1 c3; have m0 := (HM.out.below hwc HM.out.lt).cell 0; have m1 := (HM.out.below hwc HM.out.lt).cell 1; have c3 := (HX.out.b3.below hwc HX.out.b3.lt).cell 0; go_wp2_with fail
        refine (awake_any _).mono ?_; rintro e w' ⟨rfl, hb⟩; have hB := (HX.out.call (hwc.trans (hb.mono hwc.size))).below; clear HX hb hwc; go_wp2_with fail; go_ret; exact ⟨rfl, hB⟩
end Go.Proofs.Ytkeplgpeokjdkaa
