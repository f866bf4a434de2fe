/- The law TopBlack: what is kept; its first loop, and what is weighed. -/
import Derived.Test.YtffglhnmgapndaaTr
import Derived.Deep.MidRow
namespace Go.Proofs.Ytffglhnmgapndaa
open Go.RowKit Go.Shelf


def Kept (L : List (Nat × TypeId × Array Value)) (W : World) : Prop := ∀ x ∈ L, Blk W x.1 x.2.1 x.2.2
structure TopK (w : World) (A T C Y : Option Addr) (q cy : Nat) (l : List Sack) (b : List Take) (c : List Tint) (ys : List Int) (L : List (Nat × TypeId × Array Value)) (W : World) : Prop where
  s : TopS w A T C Y q cy l b c ys W
  k : Kept L W
section
variable {w : World} {A T C Y : Option Addr} {q cy : Nat} {l : List Sack} {b : List Take} {c : List Tint} {ys : List Int} {L : List (Nat × TypeId × Array Value)} {W W' : World}
theorem TopK.call (h : TopK w A T C Y q cy l b c ys L W) (hb : Below W.heap.size W W') : TopK w A T C Y q cy l b c ys L W' :=
  ⟨h.s.call hb, fun x hx => (h.k x hx).below hb (h.k x hx).lt⟩
theorem TopK.new (h : TopK w A T C Y q cy l b c ys L W) (t : TypeId) (cs : Array Value) : TopK w A T C Y q cy l b c ys ((W.heap.size, t, cs) :: L) (W.alloc (.cells cs t)) := by
  have h2 := h.call (W' := W.alloc (.cells cs t)) ((Below.refl _ _).alloc (Nat.le_refl _) _)
  refine ⟨h2.s, fun x hx => ?_⟩
  rcases List.mem_cons.1 hx with rfl | hx
  · exact Blk.new _ _ _
  · exact h2.k x hx
theorem TopK.drew (h : TopK w A T C Y q cy l b c ys L W) (n : Nat) : TopK w A T C Y q cy l b c ys L (W.drewN n) := h.call (below_drewN (Below.refl _ _) n)
theorem TopK.at0 {x : Nat × TypeId × Array Value} (h : TopK w A T C Y q cy l b c ys (x :: L) W) : Blk W x.1 x.2.1 x.2.2 := h.k _ (List.mem_cons_self ..)
theorem TopK.at1 {x y : Nat × TypeId × Array Value} (h : TopK w A T C Y q cy l b c ys (y :: x :: L) W) : Blk W x.1 x.2.1 x.2.2 := h.k _ (by simp)
theorem TopK.at2 {x y z : Nat × TypeId × Array Value} (h : TopK w A T C Y q cy l b c ys (z :: y :: x :: L) W) : Blk W x.1 x.2.1 x.2.2 := h.k _ (by simp)
theorem TopK.at3 {x y z u : Nat × TypeId × Array Value} (h : TopK w A T C Y q cy l b c ys (u :: z :: y :: x :: L) W) : Blk W x.1 x.2.1 x.2.2 := h.k _ (by simp)
theorem TopK.at4 {x y z u v : Nat × TypeId × Array Value} (h : TopK w A T C Y q cy l b c ys (v :: u :: z :: y :: x :: L) W) : Blk W x.1 x.2.1 x.2.2 := h.k _ (by simp)
end

theorem spans5 (f : Nat → Span) : spansTo f 5 = #[.int .i64 (f 0).lo, .int .i64 (f 0).hi, .int .i64 (f 1).lo, .int .i64 (f 1).hi, .int .i64 (f 2).lo, .int .i64 (f 2).hi, .int .i64 (f 3).lo, .int .i64 (f 3).hi, .int .i64 (f 4).lo, .int .i64 (f 4).hi] := rfl
theorem sacks_len {l : List Sack} (h : sacksOk l = true) : l.length ≤ 8 := by
  simp only [sacksOk, Bool.and_eq_true, decide_eq_true_eq] at h
  exact h.1
/-- What is shown of the blackness, when all is taken in. -/
def LowOk (c : List Tint) (F : Frac) (gl gh cl ch : Int) : Prop := ∀ tl n : Int, 1 ≤ gl → 0 ≤ n → n ≤ 200 → F.up - tl ≤ n → n ≤ F.down + tl → palest c gl ch tl ≤ n ∧ n ≤ darkest c gh cl tl
def ShareOk (c : List Tint) (F : Frac) (x z : Int) : Prop := (fracAt c x (1000 - x)).down ≤ F.up ∧ F.down ≤ (fracAt c z (1000 - z)).up
theorem TopK.forget {w : World} {A T C Y : Option Addr} {q cy : Nat} {l : List Sack} {b : List Take} {c : List Tint} {ys : List Int} {x y : Nat × TypeId × Array Value} {g : Nat} {t : TypeId} {cs : Array Value} {W : World} (h : Hid (TopK w A T C Y q cy l b c ys [x, y, (g, t, cs)] W)) : ∃ pV, Hid (TopK w A T C Y q cy l b c ys [x, y, (g, t, pV)] W) := ⟨cs, h⟩
def BlkWay (c : List Tint) (gl gh cl ch tl : Int) (w : World) (e : Ending) (w' : World) : Prop := ∃ x z g : Int, e = .returned (.tuple #[.agg #[.int .i64 x, .int .i64 z], .int .i64 g]) ∧ Below w.heap.size w w' ∧ (palest c gl ch tl ≤ darkest c gh cl tl → x = palest c gl ch tl ∧ z = darkest c gh cl tl ∧ g = 0)
theorem black_way (w : World) (A : Option Addr) (cp : Nat) (c : List Tint) (gl gh cl ch tl : Int) (h : Curve c) (hA : TintSl w w.heap.size A c) (hl : LdOk gl gh cl ch tl) :
    Calls Try.prog 10 #[.slice A c.length cp, .agg #[.int .i64 gl, .int .i64 gh, .int .i64 cl, .int .i64 ch, .int .i64 tl, .slice none 0 0, .int .i64 0, .int .i64 0, .int .i64 0, .int .i64 0, .int .i64 0]] w (BlkWay c gl gh cl ch tl w) := by
  by_cases hx : palest c gl ch tl ≤ darkest c gh cl tl
  · exact (black_yes w A cp c gl gh cl ch tl h hA hl hx).mono fun _ _ ⟨h1, h2⟩ => ⟨_, _, _, h1, h2, fun _ => ⟨rfl, rfl, rfl⟩⟩
  · exact (black_no w A cp c gl gh cl ch tl h hA hl (by omega)).mono fun _ _ ⟨h1, h2⟩ => ⟨_, _, _, h1, h2, fun h => absurd h hx⟩
theorem frac_200 {F : Frac} (h : 0 < F.under ∧ 0 ≤ F.top ∧ F.top ≤ 200 * F.under) : (0 ≤ F.up ∧ F.up ≤ 200) ∧ 0 ≤ F.down ∧ F.down ≤ 200 := by
  obtain ⟨h1, h2, h3⟩ := h
  have a1 : 0 ≤ F.up := Int.ediv_nonneg (by omega) (by omega)
  have a2 : F.up < 201 := Int.ediv_lt_of_lt_mul h1 (by omega)
  have a3 : 0 ≤ F.down := Int.ediv_nonneg (by omega) (by omega)
  have a4 : F.down < 201 := Int.ediv_lt_of_lt_mul h1 (by omega)
  omega
theorem TopK.pick {w : World} {A T C Y : Option Addr} {q cy : Nat} {l : List Sack} {b : List Take} {c : List Tint} {ys : List Int} {L : List (Nat × TypeId × Array Value)} {W : World} (h : TopK w A T C Y q cy l b c ys L W) (hne : ys.length ≠ 0) (hmax : ys.length ≤ 9223372036854775807) (hys : ∀ y ∈ ys, 0 ≤ y ∧ y ≤ 4294967295)
    (lo hi : Int) (j : Nat) (h0 : 0 ≤ lo) (h1 : lo ≤ hi) (h2 : hi ≤ 100000) (j1 : j ≤ 1000) (J : Int) (hJ : J = (j : Int)) (V : World) (hV : Below W.heap.size W V) :
    Calls Try.prog 11 #[.agg #[.int .i64 lo, .int .i64 hi], .int .i64 J, .pointer (some ⟨q, 0, none⟩)] V (Ret (.int .i64 (pickV lo hi (ysAt ys j))) V) := by
  subst hJ
  have h' := h.call hV
  have hyu := h'.s.yu
  have hbx := h'.s.box
  have hlt := h'.s.lt
  obtain ⟨bY, oY, rfl, hbY, hc⟩ := hyu (by intro e; subst e; exact hne rfl)
  exact pickC_any V q bY oY cy lo hi j ys hne hmax hbx hlt hbY hc hys h0 h1 h2 (by omega) (by omega)

theorem thereT {W : World} {g o : Nat} {t : TypeId} {cs : Array Value} (h : Blk W g t cs) (ho : o + 2 ≤ cs.size) : W.there g o 2 := fun j hj => by
  rw [h.cell, h.frozen]
  refine ⟨?_, rfl⟩
  rw [Array.getElem?_eq_getElem (show o + j < cs.size by omega)]
  rfl
theorem setsT_below {B g : Nat} {w W : World} {x y : Value} (h : Below B w W) (hg : B ≤ g) : Below B w (W.setCells g 0 [x, y]) := (h.setCell (p := ⟨g, 0, none⟩) hg x).setCell (p := ⟨g, 1, none⟩) hg y
theorem setsT_blk {W : World} {g : Nat} {x y : Value} {t : TypeId} {a b : Value} (h : Blk W g t #[a, b]) : Blk (W.setCells g 0 [x, y]) g t #[x, y] := two_blk h x y
theorem setsT_far {W : World} {g k : Nat} {x y : Value} {t : TypeId} {cs : Array Value} (hne : k ≠ g) (h : Blk W k t cs) : Blk (W.setCells g 0 [x, y]) k t cs := two_far h hne x y
theorem trueC_zero (l : List Sack) (b : List Take) (ys : List Int) (k : Nat) : trueC l b ys k 0 = 0 := by simp [trueC, sumOf]
def TkS (w : World) (bA oA i : Nat) (s : Sack) (bT oT k : Nat) (m : Span) (W : World) : Prop := Below w.heap.size w W ∧ W.cell? ⟨bA, oA + i * 6, none⟩ = some (.int .i64 s.w.lo) ∧ W.cell? ⟨bA, oA + i * 6 + 1, none⟩ = some (.int .i64 s.w.hi) ∧ W.cell? ⟨bA, oA + i * 6 + 2, none⟩ = some (.int .i64 s.c.lo) ∧ W.cell? ⟨bA, oA + i * 6 + 3, none⟩ = some (.int .i64 s.c.hi) ∧ W.cell? ⟨bA, oA + i * 6 + 4, none⟩ = some (.int .i64 s.l.lo) ∧ W.cell? ⟨bA, oA + i * 6 + 5, none⟩ = some (.int .i64 s.l.hi)   ∧ W.cell? ⟨bT, oT + k * 3 + 1, none⟩ = some (.int .i64 m.lo) ∧ W.cell? ⟨bT, oT + k * 3 + 2, none⟩ = some (.int .i64 m.hi)
theorem TkS.to {w : World} {bA oA i : Nat} {s : Sack} {bT oT k : Nat} {m : Span} {W W' : World} (h : TkS w bA oA i s bT oT k m W) (hA : bA < w.heap.size) (hT : bT < w.heap.size) (hb : Below w.heap.size W W') : TkS w bA oA i s bT oT k m W' := by
  obtain ⟨h0, c0, c1, c2, c3, c4, c5, y0, y1⟩ := h
  exact ⟨h0.trans hb, (hb.cell (p := ⟨bA, _, none⟩) hA).trans c0, (hb.cell (p := ⟨bA, _, none⟩) hA).trans c1, (hb.cell (p := ⟨bA, _, none⟩) hA).trans c2, (hb.cell (p := ⟨bA, _, none⟩) hA).trans c3, (hb.cell (p := ⟨bA, _, none⟩) hA).trans c4, (hb.cell (p := ⟨bA, _, none⟩) hA).trans c5,
    (hb.cell (p := ⟨bT, _, none⟩) hT).trans y0, (hb.cell (p := ⟨bT, _, none⟩) hT).trans y1⟩
/-- The products of a round. -/
theorem round_bd {m w c s : Int} (m0 : 0 ≤ m) (m1 : m ≤ 100000) (h1 : 0 ≤ w) (h2 : w ≤ 900) (h3 : 0 ≤ c) (h4 : c ≤ 1000) (h5 : 0 ≤ s) (h6 : s ≤ 900) :
    (0 ≤ m * (1000 - w) ∧ m * (1000 - w) ≤ 100000000) ∧ (0 ≤ m * (1000 - w) * c ∧ m * (1000 - w) * c ≤ 100000000000) ∧ (0 ≤ m * (1000 - w) * (1000 - c) ∧ m * (1000 - w) * (1000 - c) ≤ 100000000000) ∧ (0 ≤ m * (1000 - w) * (1000 - c) * (1000 - s) ∧ m * (1000 - w) * (1000 - c) * (1000 - s) ≤ 100000000000000) := by
  have a1 := mul_bd m0 m1 (show 0 ≤ 1000 - w by omega) (show 1000 - w ≤ 1000 by omega)
  have a2 := mul_bd a1.1 a1.2 h3 h4
  have a3 := mul_bd a1.1 a1.2 (show 0 ≤ 1000 - c by omega) (show 1000 - c ≤ 1000 by omega)
  have a4 := mul_bd a3.1 a3.2 (show 0 ≤ 1000 - s by omega) (show 1000 - s ≤ 1000 by omega)
  omega
set_option maxRecDepth 100000 in
set_option maxHeartbeats 40000000 in
theorem top_main (w : World) (A T C Y : Option Addr) (ca ct cc cy : Nat) (l : List Sack) (b : List Take) (c : List Tint) (tn : Int) (ys : List Int) (hA : SackSl w w.heap.size A l) (hT : TakeSl w w.heap.size T b) (hC : TintSl w w.heap.size C c) (hY : U32Sl w w.heap.size Y ys) (hl : l.length ≤ 9223372036854775807) (hb : b.length ≤ 9223372036854775807) (hc : c.length ≤ 9223372036854775807) (hy : ys.length ≤ 9223372036854775807) (t0 : 0 ≤ tn) (t1 : tn ≤ 255) (hys : ∀ y ∈ ys, 0 ≤ y ∧ y ≤ 4294967295) (h0 : ys.length ≠ 0) (hv : validB l b = true) (h3 : curveB c = true) :
    Calls Try.prog 3 #[.slice A l.length ca, .slice T b.length ct, .slice C c.length cc, .int .u8 tn, .slice Y ys.length cy] w (Ret (.bool true) w) := by
  have hs : sacksOk l = true ∧ batchB l b = true := by rwa [validB_split, Bool.and_eq_true] at hv
  have HL8 := Lib.hid (sacks_len hs.1)
  have HSO := Lib.hid (sacksOk_all hs.1)
  have H1 := Lib.hid hs.1
  have H2 := Lib.hid hs.2
  clear hs
  have H3 := Lib.hid h3
  have HV := Lib.hid hv
  have HYS := Lib.hid hys
  clear h3 hv hys
  have HL := Lib.hid (TopS.start w cy hA hT hC hY); clear hA hT hC hY; go_enter Try.func3, Try.ntmps3; go_wp2_with fail; try (generalize World.alloc w _ = W0 at HL ⊢; generalize w.heap.size = q at HL ⊢)
  refine (rsacks_big _ _ _ l hl HL.out.sa).mono ?_; rw [H1.out]; rintro e w1 ⟨rfl, hb1⟩; replace HL := Lib.hid (HL.out.call hb1); clear hb1; go_wp2_with fail
  refine (rbatch_big _ _ _ _ _ l b hl hb HL.out.ta).mono ?_; rw [H2.out]; rintro e w1 ⟨rfl, hb1⟩; replace HL := Lib.hid (HL.out.call hb1); clear hb1; go_wp2_with fail
  refine (rcurve_any _ _ _ c hc HL.out.tc).mono ?_; rw [H3.out]; rintro e w1 ⟨rfl, hb1⟩; replace HL := Lib.hid (HL.out.call hb1); clear hb1; go_wp2_with fail
  clear H1 H2
  rename_i w4
  have HT8 := Lib.hid (validB_len HV.out)
  have HTO : Hid (∀ t ∈ b, withinB t.m 1 100000 = true) := fun t ht => by
    have := validB_take HV.out t ht
    simp only [takeOk, Bool.and_eq_true] at this
    exact this.2
  go_loopw [11, 12] (fun s i wr => ∃ k : Nat, k ≤ b.length ∧ i = .int .i64 k ∧ s = .int .i64 (hiSum (b.take k)) ∧ Hid (TopS w A T C Y q cy l b c ys wr)) (fun _ i _ => b.length - (intOf i).toNat)
  case atStart => exact ⟨0, by omega, rfl, rfl, HL⟩
  case round =>
    clear HL
    obtain ⟨k, hk, rfl, rfl, HL⟩ := hrel
    by_cases hlt : k < b.length
    · obtain ⟨p, off, rfl, hp, hs⟩ := HL.out.ta (by intro e; subst e; simp at hlt)
      obtain ⟨c0, c1, c2⟩ := hs k hlt
      clear hs c0 c1
      have HSN := Lib.hid (hiSum_snoc b k hlt)
      have hd := hiSum_bd (b.take k) fun t ht => HTO.out t (List.mem_of_mem_take ht)
      have hsl : (b.take k).length ≤ k := List.length_take_le _ _
      have h8 := HT8.out.2
      have hd1 : 0 ≤ hiSum (b.take k) ∧ hiSum (b.take k) ≤ 800000 := by omega
      obtain ⟨d1, d2⟩ := hd1
      clear hd hsl
      have hx := withinB_iff.1 (HTO.out _ (List.getElem_mem hlt))
      have x1 : 0 ≤ b[k].m.hi := by omega
      have x2 : b[k].m.hi ≤ 100000 := by omega
      clear hx
      generalize b[k].m.hi = x at *
      generalize hiSum (b.take k) = sm at d1 d2 HSN ⊢
      go_wp2_with fail
      go_roundw
      case rel => exact ⟨k + 1, by omega, by go_num, by rw [HSN.out], HL⟩
      case measure => simp [intOf]; omega
    · obtain rfl : k = b.length := by omega
      rw [List.take_length]
      clear hlt hk
      have h8 := HT8.out.2
      have hd := hiSum_bd b HTO.out
      have hd1 : 0 ≤ hiSum b ∧ hiSum b ≤ 800000 := by omega
      obtain ⟨d1, d2⟩ := hd1
      clear hd
      have HTF := Lib.hid (topF ys HV.out)
      go_wp2_with fail
      have hW := weigh_yes wr A T ca ct l b (by have := HL8.out; omega) (by omega) HL.out.sa HL.out.ta HV.out
      rw [spans5] at hW
      refine hW.mono ?_
      clear hW
      rintro e w5 ⟨rfl, hb1⟩
      replace HL := Lib.hid (HL.out.call hb1)
      clear hb1
      go_wp2_with fail
      have HK := Lib.hid ((TopK.mk HL.out (fun _ h => by cases h) : TopK w A T C Y q cy l b c ys [] w5).new 35 (spansTo (partOf l b) 5))
      rw [spans5] at HK
      clear HL
      generalize World.alloc w5 _ = w6 at HK ⊢
      generalize w5.heap.size = p13 at HK ⊢
      have hC := share_yes w6 A T ca ct l b (by have := HL8.out; omega) (by omega) HK.out.s.sa HK.out.s.ta HV.out
      refine hC.mono ?_
      clear hC
      rintro e w7 ⟨rfl, hb1⟩
      replace HK := Lib.hid (HK.out.call hb1)
      clear hb1
      have HB1 := partOf_bd HV.out 1
      have HB3 := partOf_bd HV.out 3
      have HE1 := part_le HV.out ys 1
      have HE3 := part_le HV.out ys 3
      have HC0 := clay_lo HV.out
      have HLOW : Hid (LowOk c (fracAt c (trueC l b ys 1 b.length) (trueC l b ys 3 b.length)) (partOf l b 1).lo (partOf l b 1).hi (partOf l b 3).lo (partOf l b 3).hi) := fun tl n hg n0 n1 hlo hhi =>
        top_low (curve_of H3.out) HTF.out HV.out hg n0 n1 hlo hhi (by omega) (by omega)
      have HSH : Hid (ShareOk c (fracAt c (trueC l b ys 1 b.length) (trueC l b ys 3 b.length)) (shareOf (heldsOf l b)).lo (shareOf (heldsOf l b)).hi) := top_share (curve_of H3.out) HTF.out
      have hsb := share_bd (heldsOf l b)
      generalize (partOf l b 1).lo = gl at *
      generalize (partOf l b 1).hi = gh at *
      generalize (partOf l b 3).lo = cl at *
      generalize (partOf l b 3).hi = ch at *
      generalize shareOf (heldsOf l b) = sh at hsb HSH ⊢
      obtain ⟨s1, s2, s3, s4⟩ := hsb
      have e2 : w7.cell? ⟨p13, 2, none⟩ = _ := HK.out.at0.cell 2
      have e3 : w7.cell? ⟨p13, 3, none⟩ = _ := HK.out.at0.cell 3
      have e6 : w7.cell? ⟨p13, 6, none⟩ = _ := HK.out.at0.cell 6
      have e7 : w7.cell? ⟨p13, 7, none⟩ = _ := HK.out.at0.cell 7
      have hp13 : p13 < w7.heap.size := HK.out.at0.lt
      have ht : 0 ≤ tn % 201 ∧ tn % 201 ≤ 200 := by omega
      have HT201 : Hid (tn.tmod 201 = tn % 201) := Int.tmod_eq_emod_of_nonneg t0
      by_cases hsm : hiSum b ≤ 2000
      · by_cases hgl : 1 ≤ gl
        · have LO : Hid (LdOk gl gh cl ch (tn % 201)) := ⟨by omega, by omega, ht⟩
          go_wp2_with fail
          replace HK := Lib.hid ((HK.out.new 31 #[.int .i64 sh.lo, .int .i64 sh.hi]).new 43 #[.int .i64 gl, .int .i64 gh, .int .i64 cl, .int .i64 ch, .int .i64 (tn % 201), .slice none 0 0, .int .i64 0, .int .i64 0, .int .i64 0, .int .i64 0, .int .i64 0])
          simp only [World.size_alloc] at HK
          clear e2 e3 e6 e7 hp13 HT201
          obtain ⟨pV, HK⟩ := TopK.forget HK
          generalize tn % 201 = tl at *
          generalize World.alloc (World.alloc w7 _) _ = w8 at HK ⊢
          generalize w7.heap.size + 1 = p17 at HK ⊢
          generalize w7.heap.size = p15 at HK ⊢
          refine (black_way w8 _ _ c gl gh cl ch tl (curve_of H3.out) HK.out.s.tc LO.out).mono ?_
          rintro e w9 ⟨bx, bz, bg, rfl, hb1, hx⟩
          replace HK := Lib.hid (HK.out.call hb1)
          have HLX : Hid (∀ n : Int, 0 ≤ n → n ≤ 200 → (fracAt c (trueC l b ys 1 b.length) (trueC l b ys 3 b.length)).up - tl ≤ n → n ≤ (fracAt c (trueC l b ys 1 b.length) (trueC l b ys 3 b.length)).down + tl → bx ≤ n ∧ n ≤ bz ∧ bg = 0) := fun n n0 n1 a b => by
            obtain ⟨h1, h2⟩ := HLOW.out tl n hgl n0 n1 a b
            obtain ⟨rfl, rfl, rfl⟩ := hx (by omega)
            exact ⟨h1, h2, rfl⟩
          clear hb1 hx HLOW LO
          go_wp2_with fail
          replace HK := Lib.hid (HK.out.new 31 #[.int .i64 bx, .int .i64 bz])
          generalize World.alloc w9 _ = w10 at HK ⊢
          generalize w9.heap.size = p18 at HK ⊢
          go_loopw [21, 22, 23] (fun s t i wr => ∃ k : Nat, k ≤ b.length ∧ i = .int .i64 k ∧ s = .int .i64 (trueC l b ys 1 k) ∧ t = .int .i64 (trueC l b ys 3 k) ∧ Hid (TopK w A T C Y q cy l b c ys [(p18, 31, #[.int .i64 bx, .int .i64 bz]), (p17, 43, #[.int .i64 gl, .int .i64 gh, .int .i64 cl, .int .i64 ch, .int .i64 tl, .slice none 0 0, .int .i64 0, .int .i64 0, .int .i64 0, .int .i64 0, .int .i64 0]), (p15, 31, #[.int .i64 sh.lo, .int .i64 sh.hi]), (p13, 35, pV)] wr)) (fun _ _ i _ => b.length - (intOf i).toNat)
          case atStart => exact ⟨0, by omega, rfl, by rw [trueC_zero], by rw [trueC_zero], HK⟩
          case round =>
            clear HK
            obtain ⟨k, hk, rfl, rfl, rfl, HK⟩ := hrel
            by_cases hlt : k < b.length
            · as_aux_lemma =>
                have hdx := validB_take HV.out _ (List.getElem_mem hlt)
                simp only [takeOk, idxB, Bool.and_eq_true, decide_eq_true_eq, withinB_iff] at hdx
                obtain ⟨i, hi⟩ : ∃ i : Nat, b[k].s = (i : Int) := ⟨b[k].s.toNat, by omega⟩
                have hil : i < l.length := by omega
                have HTN1 := Lib.hid (trueC_next ys 1 hlt hi hil)
                have HTN3 := Lib.hid (trueC_next ys 3 hlt hi hil)
                have hbc := trueC_bd ys HV.out 1 k
                have hbd := trueC_bd ys HV.out 3 k
                obtain ⟨bA, oA, rfl, hbA, hsA⟩ := HK.out.s.sa (by intro e; subst e; simp at hil)
                obtain ⟨bT, oT, rfl, hbT, hsT⟩ := HK.out.s.ta (by intro e; subst e; simp at hlt)
                obtain ⟨c0, c1, c2, c3, c4, c5⟩ := hsA i hil
                obtain ⟨f0, f1, f2⟩ := hsT k hlt
                rw [hi] at f0
                clear hsA hsT
                have hsk := HSO.out _ (List.getElem_mem hil)
                have HTA : Hid (trueAt l ys i = ⟨pickV l[i].w.lo l[i].w.hi (ysAt ys (3 * i)), pickV l[i].c.lo l[i].c.hi (ysAt ys (3 * i + 1)), pickV l[i].l.lo l[i].l.hi (ysAt ys (3 * i + 2))⟩) := by
                  show _ = _
                  simp only [trueAt, sackAt_nat hil]
                have HTK : Hid (tookAt b ys k = pickV b[k].m.lo b[k].m.hi (ysAt ys (5 * k + 2))) := by
                  show _ = _
                  simp only [tookAt, List.getD_eq_getElem?_getD, List.getElem?_eq_getElem hlt, Option.getD_some]
                simp only [sackOk, Bool.and_eq_true, withinB_iff] at hsk
                generalize l[i] = s at c0 c1 c2 c3 c4 c5 hsk HTA
                generalize b[k].m = m at f1 f2 hdx HTK
                have h8 := HT8.out.2
                have h8' := HL8.out
                have HP0 := Lib.hid (HK.out.pick h0 hy HYS.out s.w.lo s.w.hi (3 * i) (by omega) (by omega) (by omega) (by omega) (3 * (i : Int)) (by omega))
                have HP1 := Lib.hid (HK.out.pick h0 hy HYS.out s.c.lo s.c.hi (3 * i + 1) (by omega) (by omega) (by omega) (by omega) (3 * (i : Int) + 1) (by omega))
                have HP2 := Lib.hid (HK.out.pick h0 hy HYS.out s.l.lo s.l.hi (3 * i + 2) (by omega) (by omega) (by omega) (by omega) (3 * (i : Int) + 2) (by omega))
                have HP3 := Lib.hid (HK.out.pick h0 hy HYS.out m.lo m.hi (5 * k + 2) (by omega) (by omega) (by omega) (by omega) (5 * (k : Int) + 2) (by omega))
                have b0 := pickV_bd (y := ysAt ys (3 * i)) (lo := s.w.lo) (hi := s.w.hi) (by omega)
                have b1 := pickV_bd (y := ysAt ys (3 * i + 1)) (lo := s.c.lo) (hi := s.c.hi) (by omega)
                have b2 := pickV_bd (y := ysAt ys (3 * i + 2)) (lo := s.l.lo) (hi := s.l.hi) (by omega)
                have b3 := pickV_bd (y := ysAt ys (5 * k + 2)) (lo := m.lo) (hi := m.hi) (by omega)
                have hw0 : IntKind.i64.wrap (3 * (i : Int)) = 3 * (i : Int) := wrap_in (by omega) (by omega)
                have hw1 : IntKind.i64.wrap (3 * (i : Int) + 1) = 3 * (i : Int) + 1 := wrap_in (by omega) (by omega)
                have hw2 : IntKind.i64.wrap (3 * (i : Int) + 2) = 3 * (i : Int) + 2 := wrap_in (by omega) (by omega)
                have hw3 : IntKind.i64.wrap (5 * (k : Int)) = 5 * (k : Int) := wrap_in (by omega) (by omega)
                have hw4 : IntKind.i64.wrap (5 * (k : Int) + 2) = 5 * (k : Int) + 2 := wrap_in (by omega) (by omega)
                generalize pickV s.w.lo s.w.hi (ysAt ys (3 * i)) = p0 at *
                generalize pickV s.c.lo s.c.hi (ysAt ys (3 * i + 1)) = p1 at *
                generalize pickV s.l.lo s.l.hi (ysAt ys (3 * i + 2)) = p2 at *
                generalize pickV m.lo m.hi (ysAt ys (5 * k + 2)) = p3 at *
                have HS0 : Hid (TkS wr bA oA i s bT oT k m wr) := Lib.hid ⟨Below.refl _ _, c0, c1, c2, c3, c4, c5, f1, f2⟩
                have HR := Lib.hid (round_bd (m := p3) (w := p0) (c := p1) (s := p2) (by omega) (by omega) (by omega) (by omega) (by omega) (by omega) (by omega) (by omega))
                have HRW : Hid (0 ≤ p0 ∧ p0 ≤ 900 ∧ 0 ≤ p1 ∧ p1 ≤ 1000 ∧ 0 ≤ p2 ∧ p2 ≤ 900) := Lib.hid (by omega)
                have HN1 : Hid (trueC l b ys 1 (k + 1) = trueC l b ys 1 k + p3 * (1000 - p0) * p1 * 1000) := by
                  show _ = _
                  rw [HTN1.out, HTA.out, HTK.out]
                  simp only [kindX, ofN, Int.mul_assoc]
                have HN3 : Hid (trueC l b ys 3 (k + 1) = trueC l b ys 3 k + p3 * (1000 - p0) * (1000 - p1) * (1000 - p2)) := by
                  show _ = _
                  rw [HTN3.out, HTA.out, HTK.out]
                  simp only [kindX, ofN, Int.mul_assoc]
                clear HTN1 HTN3 HTA HTK hsk hdx b0 b1 b2 b3 c1 c2 c3 c4 c5 c0 hi
                go_wp2_with fail
                clear f0 f1 f2
                have hbo : Below wr.heap.size wr wr.drew := (Below.refl _ _).drew
                go_region_held3 (fun W => Below wr.heap.size wr W ∧ W.cell? ⟨bA, oA + i * 6, none⟩ = some (.int .i64 s.w.lo) ∧ W.cell? ⟨bA, oA + i * 6 + 1, none⟩ = some (.int .i64 s.w.hi) ∧ W.cell? ⟨bA, oA + i * 6 + 2, none⟩ = some (.int .i64 s.c.lo) ∧ W.cell? ⟨bA, oA + i * 6 + 3, none⟩ = some (.int .i64 s.c.hi) ∧ W.cell? ⟨bA, oA + i * 6 + 4, none⟩ = some (.int .i64 s.l.lo) ∧ W.cell? ⟨bA, oA + i * 6 + 5, none⟩ = some (.int .i64 s.l.hi)   ∧ W.cell? ⟨bT, oT + k * 3 + 1, none⟩ = some (.int .i64 m.lo) ∧ W.cell? ⟨bT, oT + k * 3 + 2, none⟩ = some (.int .i64 m.hi))
                  (first | exact HS0.out.to hbA hbT hbo | fail "no keep")
                  (first
                    | (go_at_call 11; (with_reducible refine (HP0.out _ hbo).mono ?_); rintro e e' ⟨rfl, hb'⟩; replace hbo := hbo.trans (hb'.mono hbo.size); clear hb')
                    | (go_at_call 11; (with_reducible refine (HP1.out _ hbo).mono ?_); rintro e e' ⟨rfl, hb'⟩; replace hbo := hbo.trans (hb'.mono hbo.size); clear hb')
                    | (go_at_call 11; (with_reducible refine (HP2.out _ hbo).mono ?_); rintro e e' ⟨rfl, hb'⟩; replace hbo := hbo.trans (hb'.mono hbo.size); clear hb')
                    | (go_at_call 11; (with_reducible refine (HP3.out _ hbo).mono ?_); rintro e e' ⟨rfl, hb'⟩; replace hbo := hbo.trans (hb'.mono hbo.size); clear hb')
                    | fail "no arm")
                all_goals
                  obtain ⟨⟨a1, a2⟩, ⟨a3, a4⟩, ⟨a5, a6⟩, a7, a8⟩ := HR.out
                  obtain ⟨z0, z1, z2, z3, z4, z5⟩ := HRW.out
                  obtain ⟨hc0, hc1⟩ := hbc
                  obtain ⟨hd0, hd1⟩ := hbd
                  replace HK := Lib.hid (HK.out.call hbo)
                  clear hw0 hw1 hw2 hw3 hw4 hbo HP0 HP1 HP2 HP3 HS0
                  generalize trueC l b ys 1 k = Cs at hc0 hc1 HN1 ⊢
                  generalize trueC l b ys 3 k = Ds at hd0 hd1 HN3 ⊢
                  go_wp2_with fail
                  clear a1 a2 a3 a4 a5 a6 a7 a8
                  go_roundw
                  case rel => exact ⟨k + 1, by omega, by go_num, by rw [HN1.out], by rw [HN3.out], HK⟩
                  case measure => simp [intOf]; omega
            · as_aux_lemma =>
                obtain rfl : k = b.length := by omega
                clear hlt hk
                have hF := fracAt_bd (curve_of H3.out) HTF.out.c0 HTF.out.d0 HTF.out.pos
                have k0 := HTF.out.c0
                have k1 := HTF.out.d0
                have k2 := HTF.out.pos
                have k3 := HTF.out.c1
                have k4 := HTF.out.d1
                clear HTF
                generalize trueC l b ys 1 b.length = Ca at *
                generalize trueC l b ys 3 b.length = Da at *
                have h200 := frac_200 ⟨hF.1, hF.2.2.1, hF.2.2.2⟩
                go_wp2_with fail
                refine (rat_any wr C cc c Ca Da (curve_of H3.out) HK.out.s.tc (by omega) (by omega) (by omega) (by omega) (by omega)).mono ?_
                rintro e w11 ⟨rfl, hb1⟩
                replace HK := Lib.hid (HK.out.call hb1)
                clear hb1
                generalize fracAt c Ca Da = F at hF h200 HLX HSH ⊢
                have HUP : Hid (∀ V, Calls Try.prog 13 #[.agg #[.int .i64 F.top, .int .i64 F.under]] V (Ret (.int .i64 F.up) V)) := fun V => rup2_any F.top F.under V (by omega) (by omega) (by omega) (by omega)
                have HDN : Hid (∀ V, Calls Try.prog 14 #[.agg #[.int .i64 F.top, .int .i64 F.under]] V (Ret (.int .i64 F.down) V)) := fun V => rdown2_any F.top F.under V (by omega) (by omega) (by omega) (by omega)
                clear k0 k1 k2 k3 k4 hF
                obtain ⟨⟨u1, u2⟩, u3, u4⟩ := h200
                go_wp2_with fail
                replace HK := Lib.hid (HK.out.new 50 #[.int .i64 F.top, .int .i64 F.under])
                generalize World.alloc w11 _ = w12 at HK ⊢
                generalize w11.heap.size = p29 at HK ⊢
                go_cut [30, 31] from 186 to 196 (fun s30 s31 wx => s30 = .int .i64 (F.up - tl) ∧ s31 = .int .i64 (F.down + tl) ∧ Hid (TopK w A T C Y q cy l b c ys [(p29, 50, #[.int .i64 F.top, .int .i64 F.under]), (p18, 31, #[.int .i64 bx, .int .i64 bz]), (p17, 43, #[.int .i64 gl, .int .i64 gh, .int .i64 cl, .int .i64 ch, .int .i64 tl, .slice none 0 0, .int .i64 0, .int .i64 0, .int .i64 0, .int .i64 0, .int .i64 0]), (p15, 31, #[.int .i64 sh.lo, .int .i64 sh.hi]), (p13, 35, pV)] wx))
                case first => as_aux_lemma =>
                  have hu1 : IntKind.i64.wrap (F.up - tl) = F.up - tl := wrap_in (by omega) (by omega)
                  have hu2 : IntKind.i64.wrap (F.down + tl) = F.down + tl := wrap_in (by omega) (by omega)
                  have HS1 : Hid (FrS w12 p29 p17 F tl w12) := Lib.hid ⟨Below.refl _ _, HK.out.at0.cell 0, HK.out.at0.cell 1, HK.out.at2.cell 4⟩
                  have h29 : p29 < w12.heap.size := HK.out.at0.lt
                  have h17 : p17 < w12.heap.size := HK.out.at2.lt
                  have hbo : Below w12.heap.size w12 w12.drew := (Below.refl _ _).drew
                  go_region_held3 (fun W => Below w12.heap.size w12 W ∧ W.cell? ⟨p29, 0, none⟩ = some (.int .i64 F.top) ∧ W.cell? ⟨p29, 1, none⟩ = some (.int .i64 F.under) ∧ W.cell? ⟨p17, 4, none⟩ = some (.int .i64 tl))
                    (first | exact HS1.out.to h29 h17 hbo | fail "no keep")
                    (first
                      | (go_at_call 13; (with_reducible refine (HUP.out _).mono ?_); rintro e e' ⟨rfl, hb'⟩; replace hbo := hbo.trans (hb'.mono hbo.size); clear hb')
                      | (go_at_call 14; (with_reducible refine (HDN.out _).mono ?_); rintro e e' ⟨rfl, hb'⟩; replace hbo := hbo.trans (hb'.mono hbo.size); clear hb')
                      | fail "no arm")
                  all_goals
                    replace HK := Lib.hid (HK.out.call hbo)
                    clear hu1 hu2 hbo HS1 h29 h17
                    go_wp2_with fail
                    go_meet
                    exact ⟨rfl, rfl, HK⟩
                case rest => as_aux_lemma =>
                  obtain ⟨rfl, rfl, HK⟩ := hcut
                  generalize hwe : wc = e' at HK ⊢
                  clear hwe
                  by_cases hlh : F.up - tl ≤ F.down + tl
                  · have HYU := Lib.hid HK.out.s.yu
                    obtain ⟨bY, oY, rfl, hbY, hYc⟩ := HYU.out (by intro e; subst e; exact h0 rfl)
                    have hy0 := hYc 0 (by omega)
                    have hy1 := HYS.out _ (List.getElem_mem (show 0 < ys.length by omega))
                    have hbx := HK.out.s.box
                    have hy2 := hy0
                    rw [Nat.add_zero] at hy2
                    clear hYc
                    generalize ys[0] = y at hy0 hy1 hy2
                    obtain ⟨y0, y1⟩ := hy1
                    have hb := pickV_bd (y := y) hlh
                    unfold pickV at hb
                    obtain ⟨hb1, hb2⟩ := hb
                    by_cases hn0 : 0 ≤ F.up - tl + y % (F.down + tl - (F.up - tl) + 1)
                    · by_cases hn1 : F.up - tl + y % (F.down + tl - (F.up - tl) + 1) ≤ 200
                      · obtain ⟨g1, g2, rfl⟩ := HLX.out _ hn0 hn1 hb1 hb2
                        have x0 := HK.out.at1.cell 0
                        have x1 := HK.out.at1.cell 1
                        go_wp2_with fail
                        clear x0 x1 hy0 hy2 hbx hb1 hb2 g1 g2 hn0 hn1
                        have hs1 := HSH.out
                        unfold ShareOk at hs1
                        have hF1 := fracAt_bd (curve_of H3.out) (g := sh.lo) (y := 1000 - sh.lo) (by omega) (by omega) (by omega)
                        have hF2 := fracAt_bd (curve_of H3.out) (g := sh.hi) (y := 1000 - sh.hi) (by omega) (by omega) (by omega)
                        have HA1 : Hid (∀ V, Below e'.heap.size e' V → Calls Try.prog 12 #[.slice C c.length cc, .int .i64 sh.lo, .int .i64 (1000 - sh.lo)] V (Ret (.agg #[.int .i64 (fracAt c sh.lo (1000 - sh.lo)).top, .int .i64 (fracAt c sh.lo (1000 - sh.lo)).under]) V)) :=
                          fun V hV => rat_any V C cc c _ _ (curve_of H3.out) (HK.out.call hV).s.tc (by omega) (by omega) (by omega) (by omega) (by omega)
                        have HA2 : Hid (∀ V, Below e'.heap.size e' V → Calls Try.prog 12 #[.slice C c.length cc, .int .i64 sh.hi, .int .i64 (1000 - sh.hi)] V (Ret (.agg #[.int .i64 (fracAt c sh.hi (1000 - sh.hi)).top, .int .i64 (fracAt c sh.hi (1000 - sh.hi)).under]) V)) :=
                          fun V hV => rat_any V C cc c _ _ (curve_of H3.out) (HK.out.call hV).s.tc (by omega) (by omega) (by omega) (by omega) (by omega)
                        generalize fracAt c sh.lo (1000 - sh.lo) = F1 at hs1 hF1 HA1
                        generalize fracAt c sh.hi (1000 - sh.hi) = F2 at hs1 hF2 HA2
                        have hv1 : IntKind.i64.wrap (1000 - sh.lo) = 1000 - sh.lo := wrap_in (by omega) (by omega)
                        have hv2 : IntKind.i64.wrap (1000 - sh.hi) = 1000 - sh.hi := wrap_in (by omega) (by omega)
                        have HS2 : Hid (ShS e' p15 sh e') := Lib.hid ⟨Below.refl _ _, HK.out.at3.cell 0, HK.out.at3.cell 1⟩
                        have h15 : p15 < e'.heap.size := HK.out.at3.lt
                        go_cut [33, 34] (fun s33 s34 wx => ∃ p r : Nat, s33 = .pointer (some ⟨p, 0, none⟩) ∧ s34 = .pointer (some ⟨r, 0, none⟩) ∧ Hid (Fin e' #[.int .i64 F1.top, .int .i64 F1.under] #[.int .i64 F2.top, .int .i64 F2.under] p r wx))
                        case first => as_aux_lemma =>
                          have HBO : Hid (Below e'.heap.size e' e'.drew) := Lib.hid (Below.refl _ _).drew
                          have HP15 := Lib.hid HK.out.at3
                          clear HK HS2 h15
                          refine wp_region_held_drew (S := fun W9 => Blk W9 p15 31 #[.int .i64 sh.lo, .int .i64 sh.hi]) (by kernel_rfl) (HP15.out.below HBO.out HP15.out.lt) (fun hH0 => ?_)
                          generalize World.drew _ = V0 at *
                          simp only [List.size_toArray, List.length_cons, List.length_nil, Nat.reduceAdd, Array.replicate_succ, Array.replicate_zero, List.push_toArray, List.nil_append, List.cons_append]
                          refine wpAnyH_take (i := 0 ) (v := ?_) rfl (by kernel_rfl) (by kernel_rfl) (by kernel_rfl) (fun _ _ _ h => h) (Or.inl ⟨by rfl, ?_⟩) (by assumption) ?_; rotate_left; (· (intro w0 hSw; have a0 := hSw.cell 0; have a1 := hSw.cell 1; clear hSw; go_simp); first | done | with_reducible rfl); (try simp only [Act.put, List.getElem_toArray, List.getElem_cons_zero, List.setIfInBounds_toArray, List.set_cons_zero, List.set_cons_succ])
                          refine wpAnyH_take (i := 1 ) (v := ?_) rfl (by kernel_rfl) (by kernel_rfl) (by kernel_rfl) (fun _ _ _ h => h) (Or.inl ⟨by rfl, ?_⟩) (by assumption) ?_; rotate_left; (· (intro w0 hSw; have a0 := hSw.cell 0; have a1 := hSw.cell 1; clear hSw; go_simp); first | done | with_reducible rfl); (try simp only [Act.put, List.getElem_toArray, List.getElem_cons_succ, List.getElem_cons_zero, List.setIfInBounds_toArray, List.set_cons_zero, List.set_cons_succ])
                          refine wpAnyH_take (i := 2 ) (v := ?_) rfl (by kernel_rfl) (by kernel_rfl) (by kernel_rfl) (fun _ _ _ h => h) (Or.inl ⟨by rfl, ?_⟩) (by assumption) ?_; rotate_left; (· (intro w0 hSw; have a0 := hSw.cell 0; have a1 := hSw.cell 1; clear hSw; go_simp); first | done | with_reducible rfl); (try simp only [Act.put, List.getElem_toArray, List.getElem_cons_succ, List.getElem_cons_zero, List.setIfInBounds_toArray, List.set_cons_zero, List.set_cons_succ])
                          refine wpAnyH_take (i := 3 ) (v := ?_) rfl (by kernel_rfl) (by kernel_rfl) (by kernel_rfl) (fun _ _ _ h => h) (Or.inl ⟨by rfl, ?_⟩) (by assumption) ?_; rotate_left; (· (intro w0 hSw; have a0 := hSw.cell 0; have a1 := hSw.cell 1; clear hSw; go_simp); first | done | with_reducible rfl); (try simp only [Act.put, List.getElem_toArray, List.getElem_cons_succ, List.getElem_cons_zero, List.setIfInBounds_toArray, List.set_cons_zero, List.set_cons_succ])
                          refine wpAnyH_take (i := 4 ) (v := ?_) rfl (by kernel_rfl) (by kernel_rfl) (by kernel_rfl) (fun _ _ _ h => h) (Or.inl ⟨by rfl, ?_⟩) (by assumption) ?_; rotate_left; (· (intro w0 hSw; have a0 := hSw.cell 0; have a1 := hSw.cell 1; clear hSw; go_simp); first | done | with_reducible rfl); (try simp only [Act.put, List.getElem_toArray, List.getElem_cons_succ, List.getElem_cons_zero, List.setIfInBounds_toArray, List.set_cons_zero, List.set_cons_succ])
                          refine wpAnyH_take (i := 5 ) (v := ?_) rfl (by kernel_rfl) (by kernel_rfl) (by kernel_rfl) (fun _ _ _ h => h) (Or.inl ⟨by rfl, ?_⟩) (by assumption) ?_; rotate_left; (· (intro w0 hSw; have a0 := hSw.cell 0; have a1 := hSw.cell 1; clear hSw; go_simp); first | done | with_reducible rfl); (try simp only [Act.put, List.getElem_toArray, List.getElem_cons_succ, List.getElem_cons_zero, List.setIfInBounds_toArray, List.set_cons_zero, List.set_cons_succ])
                          refine wpAnyH_take (i := 7 ) (v := ?_) rfl (by kernel_rfl) (by kernel_rfl) (by kernel_rfl) (fun _ _ _ h => h) (Or.inl ⟨by rfl, ?_⟩) (by assumption) ?_; rotate_left; (· (intro w0 hSw; have a0 := hSw.cell 0; have a1 := hSw.cell 1; clear hSw; go_simp); first | done | with_reducible rfl); (try simp only [Act.put, List.getElem_toArray, List.getElem_cons_succ, List.getElem_cons_zero, List.setIfInBounds_toArray, List.set_cons_zero, List.set_cons_succ])
                          refine wpAnyH_take (i := 8 ) (v := ?_) rfl (by kernel_rfl) (by kernel_rfl) (by kernel_rfl) (fun _ _ _ h => h) (Or.inl ⟨by rfl, ?_⟩) (by assumption) ?_; rotate_left; (· (intro w0 hSw; have a0 := hSw.cell 0; have a1 := hSw.cell 1; clear hSw; go_simp); first | done | with_reducible rfl); (try simp only [Act.put, List.getElem_toArray, List.getElem_cons_succ, List.getElem_cons_zero, List.setIfInBounds_toArray, List.set_cons_zero, List.set_cons_succ])
                          refine wpAnyH_take (i := 9 ) (v := ?_) rfl (by kernel_rfl) (by kernel_rfl) (by kernel_rfl) (fun _ _ _ h => h) (Or.inl ⟨by rfl, ?_⟩) (by assumption) ?_; rotate_left; (· (intro w0 hSw; have a0 := hSw.cell 0; have a1 := hSw.cell 1; clear hSw; go_simp); first | done | with_reducible rfl); (try simp only [Act.put, List.getElem_toArray, List.getElem_cons_succ, List.getElem_cons_zero, List.setIfInBounds_toArray, List.set_cons_zero, List.set_cons_succ])
                          refine wpAnyH_take (i := 10 ) (v := ?_) rfl (by kernel_rfl) (by kernel_rfl) (by kernel_rfl) (fun _ _ _ h => h) (Or.inl ⟨by rfl, ?_⟩) (by assumption) ?_; rotate_left; (· (intro w0 hSw; have a0 := hSw.cell 0; have a1 := hSw.cell 1; clear hSw; go_simp); first | done | with_reducible rfl); (try simp only [Act.put, List.getElem_toArray, List.getElem_cons_succ, List.getElem_cons_zero, List.setIfInBounds_toArray, List.set_cons_zero, List.set_cons_succ])
                          refine wpAnyH_take (i := 11 ) (v := ?_) rfl (by kernel_rfl) (by kernel_rfl) (by kernel_rfl) (fun _ _ _ h => h) (Or.inl ⟨by rfl, ?_⟩) (by assumption) ?_; rotate_left; (· (intro w0 hSw; have a0 := hSw.cell 0; have a1 := hSw.cell 1; clear hSw; go_simp); first | done | with_reducible rfl); (try simp only [Act.put, List.getElem_toArray, List.getElem_cons_succ, List.getElem_cons_zero, List.setIfInBounds_toArray, List.set_cons_zero, List.set_cons_succ])
                          refine wpAnyH_take (i := 12 ) (v := ?_) rfl (by kernel_rfl) (by kernel_rfl) (by kernel_rfl) (fun _ _ _ h => h) (Or.inl ⟨by rfl, ?_⟩) (by assumption) ?_; rotate_left; (· (intro w0 hSw; have a0 := hSw.cell 0; have a1 := hSw.cell 1; clear hSw; go_simp); first | done | with_reducible rfl); (try simp only [Act.put, List.getElem_toArray, List.getElem_cons_succ, List.getElem_cons_zero, List.setIfInBounds_toArray, List.set_cons_zero, List.set_cons_succ])
                          refine wpAnyH_ready (rs := [6, 14, 15]) (by kernel_rfl) (by simp) ?_
                          refine AllReadyH.cons (by simp only [List.getElem?_toArray, List.getElem?_cons_succ, List.getElem?_cons_zero]; rfl) (fun K hK => ?_) ?_
                          · go_simp
                            refine (HA1.out _ HBO.out).mono ?_
                            rintro e X ⟨rfl, hb⟩
                            replace HBO := Lib.hid (HBO.out.trans (hb.mono HBO.out.size))
                            clear hb
                            refine hK.out _ _ (HP15.out.below HBO.out HP15.out.lt) (fun hH1 => ?_)
                            clear hK K
                            try simp only [List.setIfInBounds_toArray, List.set_cons_zero, List.set_cons_succ]
                            refine wpAnyH_ready (rs := [13, 14, 15]) (by kernel_rfl) (by simp) ?_
                            refine AllReadyH.cons (by simp only [List.getElem?_toArray, List.getElem?_cons_succ, List.getElem?_cons_zero]; rfl) (fun K hK => ?_) ?_
                            · go_simp
                              refine (HA2.out _ HBO.out).mono ?_
                              rintro e X ⟨rfl, hb⟩
                              replace HBO := Lib.hid (HBO.out.trans (hb.mono HBO.out.size))
                              clear hb
                              refine hK.out _ _ (HP15.out.below HBO.out HP15.out.lt) (fun hH2 => ?_)
                              clear hK K
                              try simp only [List.setIfInBounds_toArray, List.set_cons_zero, List.set_cons_succ]
                              refine wpAnyH_ready (rs := [14, 15]) (by kernel_rfl) (by simp) ?_
                              refine AllReadyH.cons (by simp only [List.getElem?_toArray, List.getElem?_cons_succ, List.getElem?_cons_zero]; rfl) (fun K hK => ?_) ?_
                              · go_simp
                                have hb : Below X.heap.size X (X.alloc (.cells #[.int .i64 0, .int .i64 0] 50)) := (Below.refl _ _).alloc (Nat.le_refl _) _
                                have H33 := Lib.hid (Blk.new X 50 #[.int .i64 0, .int .i64 0])
                                have hgg33 := HBO.out.size
                                replace HBO := Lib.hid (HBO.out.trans (hb.mono HBO.out.size))
                                clear hb
                                generalize X.heap.size = g33 at *
                                generalize World.alloc X _ = X at *
                                refine hK.out _ _ (HP15.out.below HBO.out HP15.out.lt) (fun hH3 => ?_)
                                clear hK K
                                try simp only [List.setIfInBounds_toArray, List.set_cons_zero, List.set_cons_succ]
                                refine wpAnyH_ready (rs := [15]) (by kernel_rfl) (by simp) ?_
                                refine AllReadyH.cons (by simp only [List.getElem?_toArray, List.getElem?_cons_succ, List.getElem?_cons_zero]; rfl) (fun K hK => ?_) AllReadyH.nil
                                go_simp
                                have hb : Below X.heap.size X (X.alloc (.cells #[.int .i64 0, .int .i64 0] 50)) := (Below.refl _ _).alloc (Nat.le_refl _) _
                                have H34 := Lib.hid (Blk.new X 50 #[.int .i64 0, .int .i64 0])
                                have hgg34 := HBO.out.size
                                have hne : g33 ≠ X.heap.size := Nat.ne_of_lt H33.out.lt
                                replace HBO := Lib.hid (HBO.out.trans (hb.mono HBO.out.size))
                                replace H33 := Lib.hid (H33.out.below hb H33.out.lt)
                                clear hb
                                generalize X.heap.size = g34 at *
                                generalize World.alloc X _ = X at *
                                refine hK.out _ _ (HP15.out.below HBO.out HP15.out.lt) (fun hH4 => ?_)
                                clear hK K
                                try simp only [List.setIfInBounds_toArray, List.set_cons_zero, List.set_cons_succ]
                                refine wpAnyH_ready (rs := [16]) (by kernel_rfl) (by simp) ?_
                                refine AllReadyH.cons (by simp only [List.getElem?_toArray, List.getElem?_cons_succ, List.getElem?_cons_zero]; rfl) (fun K hK => ?_) AllReadyH.nil
                                rw [if_pos (by rfl)]
                                refine wp_store_mid 50 (.tmp 33) (.tmp 238) (by rfl) g33 0 #[.int .i64 F1.top, .int .i64 F1.under] (by rfl) (by rfl) (thereT (o := 0) H33.out (by simp)) (by kernel_rfl) (by simp [Value.oneCell']) ?_
                                replace HBO := Lib.hid (setsT_below (x := .int .i64 F1.top) (y := .int .i64 F1.under) HBO.out hgg33)
                                replace H33 := Lib.hid (setsT_blk (x := .int .i64 F1.top) (y := .int .i64 F1.under) H33.out)
                                replace H34 := Lib.hid (setsT_far (x := .int .i64 F1.top) (y := .int .i64 F1.under) hne.symm H34.out)
                                refine hK.out _ _ (HP15.out.below HBO.out HP15.out.lt) (fun hH5 => ?_)
                                clear hK K
                                try simp only [List.setIfInBounds_toArray, List.set_cons_zero, List.set_cons_succ]
                                refine wpAnyH_ready (rs := [17]) (by kernel_rfl) (by simp) ?_
                                refine AllReadyH.cons (by simp only [List.getElem?_toArray, List.getElem?_cons_succ, List.getElem?_cons_zero]; rfl) (fun K hK => ?_) AllReadyH.nil
                                rw [if_pos (by rfl)]
                                refine wp_store_mid 50 (.tmp 34) (.tmp 245) (by rfl) g34 0 #[.int .i64 F2.top, .int .i64 F2.under] (by rfl) (by rfl) (thereT (o := 0) H34.out (by simp)) (by kernel_rfl) (by simp [Value.oneCell']) ?_
                                replace HBO := Lib.hid (setsT_below (x := .int .i64 F2.top) (y := .int .i64 F2.under) HBO.out hgg34)
                                replace H33 := Lib.hid (setsT_far (x := .int .i64 F2.top) (y := .int .i64 F2.under) hne H33.out)
                                replace H34 := Lib.hid (setsT_blk (x := .int .i64 F2.top) (y := .int .i64 F2.under) H34.out)
                                refine hK.out _ _ (HP15.out.below HBO.out HP15.out.lt) (fun hH6 => ?_)
                                clear hK K
                                try simp only [List.setIfInBounds_toArray, List.set_cons_zero, List.set_cons_succ]
                                refine wpAnyH_done (by kernel_rfl) ?_ _
                                go_wp2_with fail
                                go_meet
                                exact ⟨g33, g34, rfl, rfl, Lib.hid ⟨H33.out, H34.out, HBO.out⟩⟩
                              refine AllReadyH.cons (by simp only [List.getElem?_toArray, List.getElem?_cons_succ, List.getElem?_cons_zero]; rfl) (fun K hK => ?_) ?_
                              · go_simp
                                have hb : Below X.heap.size X (X.alloc (.cells #[.int .i64 0, .int .i64 0] 50)) := (Below.refl _ _).alloc (Nat.le_refl _) _
                                have H34 := Lib.hid (Blk.new X 50 #[.int .i64 0, .int .i64 0])
                                have hgg34 := HBO.out.size
                                replace HBO := Lib.hid (HBO.out.trans (hb.mono HBO.out.size))
                                clear hb
                                generalize X.heap.size = g34 at *
                                generalize World.alloc X _ = X at *
                                refine hK.out _ _ (HP15.out.below HBO.out HP15.out.lt) (fun hH7 => ?_)
                                clear hK K
                                try simp only [List.setIfInBounds_toArray, List.set_cons_zero, List.set_cons_succ]
                                refine wpAnyH_ready (rs := [14]) (by kernel_rfl) (by simp) ?_
                                refine AllReadyH.cons (by simp only [List.getElem?_toArray, List.getElem?_cons_succ, List.getElem?_cons_zero]; rfl) (fun K hK => ?_) AllReadyH.nil
                                go_simp
                                have hb : Below X.heap.size X (X.alloc (.cells #[.int .i64 0, .int .i64 0] 50)) := (Below.refl _ _).alloc (Nat.le_refl _) _
                                have H33 := Lib.hid (Blk.new X 50 #[.int .i64 0, .int .i64 0])
                                have hgg33 := HBO.out.size
                                have hne : X.heap.size ≠ g34 := (Nat.ne_of_lt H34.out.lt).symm
                                replace HBO := Lib.hid (HBO.out.trans (hb.mono HBO.out.size))
                                replace H34 := Lib.hid (H34.out.below hb H34.out.lt)
                                clear hb
                                generalize X.heap.size = g33 at *
                                generalize World.alloc X _ = X at *
                                refine hK.out _ _ (HP15.out.below HBO.out HP15.out.lt) (fun hH8 => ?_)
                                clear hK K
                                try simp only [List.setIfInBounds_toArray, List.set_cons_zero, List.set_cons_succ]
                                refine wpAnyH_ready (rs := [16]) (by kernel_rfl) (by simp) ?_
                                refine AllReadyH.cons (by simp only [List.getElem?_toArray, List.getElem?_cons_succ, List.getElem?_cons_zero]; rfl) (fun K hK => ?_) AllReadyH.nil
                                rw [if_pos (by rfl)]
                                refine wp_store_mid 50 (.tmp 33) (.tmp 238) (by rfl) g33 0 #[.int .i64 F1.top, .int .i64 F1.under] (by rfl) (by rfl) (thereT (o := 0) H33.out (by simp)) (by kernel_rfl) (by simp [Value.oneCell']) ?_
                                replace HBO := Lib.hid (setsT_below (x := .int .i64 F1.top) (y := .int .i64 F1.under) HBO.out hgg33)
                                replace H33 := Lib.hid (setsT_blk (x := .int .i64 F1.top) (y := .int .i64 F1.under) H33.out)
                                replace H34 := Lib.hid (setsT_far (x := .int .i64 F1.top) (y := .int .i64 F1.under) hne.symm H34.out)
                                refine hK.out _ _ (HP15.out.below HBO.out HP15.out.lt) (fun hH9 => ?_)
                                clear hK K
                                try simp only [List.setIfInBounds_toArray, List.set_cons_zero, List.set_cons_succ]
                                refine wpAnyH_ready (rs := [17]) (by kernel_rfl) (by simp) ?_
                                refine AllReadyH.cons (by simp only [List.getElem?_toArray, List.getElem?_cons_succ, List.getElem?_cons_zero]; rfl) (fun K hK => ?_) AllReadyH.nil
                                rw [if_pos (by rfl)]
                                refine wp_store_mid 50 (.tmp 34) (.tmp 245) (by rfl) g34 0 #[.int .i64 F2.top, .int .i64 F2.under] (by rfl) (by rfl) (thereT (o := 0) H34.out (by simp)) (by kernel_rfl) (by simp [Value.oneCell']) ?_
                                replace HBO := Lib.hid (setsT_below (x := .int .i64 F2.top) (y := .int .i64 F2.under) HBO.out hgg34)
                                replace H33 := Lib.hid (setsT_far (x := .int .i64 F2.top) (y := .int .i64 F2.under) hne H33.out)
                                replace H34 := Lib.hid (setsT_blk (x := .int .i64 F2.top) (y := .int .i64 F2.under) H34.out)
                                refine hK.out _ _ (HP15.out.below HBO.out HP15.out.lt) (fun hH10 => ?_)
                                clear hK K
                                try simp only [List.setIfInBounds_toArray, List.set_cons_zero, List.set_cons_succ]
                                refine wpAnyH_done (by kernel_rfl) ?_ _
                                go_wp2_with fail
                                go_meet
                                exact ⟨g33, g34, rfl, rfl, Lib.hid ⟨H33.out, H34.out, HBO.out⟩⟩
                              exact AllReadyH.nil
                            refine AllReadyH.cons (by simp only [List.getElem?_toArray, List.getElem?_cons_succ, List.getElem?_cons_zero]; rfl) (fun K hK => ?_) ?_
                            · go_simp
                              have hb : Below X.heap.size X (X.alloc (.cells #[.int .i64 0, .int .i64 0] 50)) := (Below.refl _ _).alloc (Nat.le_refl _) _
                              have H33 := Lib.hid (Blk.new X 50 #[.int .i64 0, .int .i64 0])
                              have hgg33 := HBO.out.size
                              replace HBO := Lib.hid (HBO.out.trans (hb.mono HBO.out.size))
                              clear hb
                              generalize X.heap.size = g33 at *
                              generalize World.alloc X _ = X at *
                              refine hK.out _ _ (HP15.out.below HBO.out HP15.out.lt) (fun hH11 => ?_)
                              clear hK K
                              try simp only [List.setIfInBounds_toArray, List.set_cons_zero, List.set_cons_succ]
                              refine wpAnyH_ready (rs := [13, 15]) (by kernel_rfl) (by simp) ?_
                              refine AllReadyH.cons (by simp only [List.getElem?_toArray, List.getElem?_cons_succ, List.getElem?_cons_zero]; rfl) (fun K hK => ?_) ?_
                              · go_simp
                                refine (HA2.out _ HBO.out).mono ?_
                                rintro e X ⟨rfl, hb⟩
                                replace HBO := Lib.hid (HBO.out.trans (hb.mono HBO.out.size))
                                replace H33 := Lib.hid (H33.out.below hb H33.out.lt)
                                clear hb
                                refine hK.out _ _ (HP15.out.below HBO.out HP15.out.lt) (fun hH12 => ?_)
                                clear hK K
                                try simp only [List.setIfInBounds_toArray, List.set_cons_zero, List.set_cons_succ]
                                refine wpAnyH_ready (rs := [15]) (by kernel_rfl) (by simp) ?_
                                refine AllReadyH.cons (by simp only [List.getElem?_toArray, List.getElem?_cons_succ, List.getElem?_cons_zero]; rfl) (fun K hK => ?_) AllReadyH.nil
                                go_simp
                                have hb : Below X.heap.size X (X.alloc (.cells #[.int .i64 0, .int .i64 0] 50)) := (Below.refl _ _).alloc (Nat.le_refl _) _
                                have H34 := Lib.hid (Blk.new X 50 #[.int .i64 0, .int .i64 0])
                                have hgg34 := HBO.out.size
                                have hne : g33 ≠ X.heap.size := Nat.ne_of_lt H33.out.lt
                                replace HBO := Lib.hid (HBO.out.trans (hb.mono HBO.out.size))
                                replace H33 := Lib.hid (H33.out.below hb H33.out.lt)
                                clear hb
                                generalize X.heap.size = g34 at *
                                generalize World.alloc X _ = X at *
                                refine hK.out _ _ (HP15.out.below HBO.out HP15.out.lt) (fun hH13 => ?_)
                                clear hK K
                                try simp only [List.setIfInBounds_toArray, List.set_cons_zero, List.set_cons_succ]
                                refine wpAnyH_ready (rs := [16]) (by kernel_rfl) (by simp) ?_
                                refine AllReadyH.cons (by simp only [List.getElem?_toArray, List.getElem?_cons_succ, List.getElem?_cons_zero]; rfl) (fun K hK => ?_) AllReadyH.nil
                                rw [if_pos (by rfl)]
                                refine wp_store_mid 50 (.tmp 33) (.tmp 238) (by rfl) g33 0 #[.int .i64 F1.top, .int .i64 F1.under] (by rfl) (by rfl) (thereT (o := 0) H33.out (by simp)) (by kernel_rfl) (by simp [Value.oneCell']) ?_
                                replace HBO := Lib.hid (setsT_below (x := .int .i64 F1.top) (y := .int .i64 F1.under) HBO.out hgg33)
                                replace H33 := Lib.hid (setsT_blk (x := .int .i64 F1.top) (y := .int .i64 F1.under) H33.out)
                                replace H34 := Lib.hid (setsT_far (x := .int .i64 F1.top) (y := .int .i64 F1.under) hne.symm H34.out)
                                refine hK.out _ _ (HP15.out.below HBO.out HP15.out.lt) (fun hH14 => ?_)
                                clear hK K
                                try simp only [List.setIfInBounds_toArray, List.set_cons_zero, List.set_cons_succ]
                                refine wpAnyH_ready (rs := [17]) (by kernel_rfl) (by simp) ?_
                                refine AllReadyH.cons (by simp only [List.getElem?_toArray, List.getElem?_cons_succ, List.getElem?_cons_zero]; rfl) (fun K hK => ?_) AllReadyH.nil
                                rw [if_pos (by rfl)]
                                refine wp_store_mid 50 (.tmp 34) (.tmp 245) (by rfl) g34 0 #[.int .i64 F2.top, .int .i64 F2.under] (by rfl) (by rfl) (thereT (o := 0) H34.out (by simp)) (by kernel_rfl) (by simp [Value.oneCell']) ?_
                                replace HBO := Lib.hid (setsT_below (x := .int .i64 F2.top) (y := .int .i64 F2.under) HBO.out hgg34)
                                replace H33 := Lib.hid (setsT_far (x := .int .i64 F2.top) (y := .int .i64 F2.under) hne H33.out)
                                replace H34 := Lib.hid (setsT_blk (x := .int .i64 F2.top) (y := .int .i64 F2.under) H34.out)
                                refine hK.out _ _ (HP15.out.below HBO.out HP15.out.lt) (fun hH15 => ?_)
                                clear hK K
                                try simp only [List.setIfInBounds_toArray, List.set_cons_zero, List.set_cons_succ]
                                refine wpAnyH_done (by kernel_rfl) ?_ _
                                go_wp2_with fail
                                go_meet
                                exact ⟨g33, g34, rfl, rfl, Lib.hid ⟨H33.out, H34.out, HBO.out⟩⟩
                              refine AllReadyH.cons (by simp only [List.getElem?_toArray, List.getElem?_cons_succ, List.getElem?_cons_zero]; rfl) (fun K hK => ?_) ?_
                              · go_simp
                                have hb : Below X.heap.size X (X.alloc (.cells #[.int .i64 0, .int .i64 0] 50)) := (Below.refl _ _).alloc (Nat.le_refl _) _
                                have H34 := Lib.hid (Blk.new X 50 #[.int .i64 0, .int .i64 0])
                                have hgg34 := HBO.out.size
                                have hne : g33 ≠ X.heap.size := Nat.ne_of_lt H33.out.lt
                                replace HBO := Lib.hid (HBO.out.trans (hb.mono HBO.out.size))
                                replace H33 := Lib.hid (H33.out.below hb H33.out.lt)
                                clear hb
                                generalize X.heap.size = g34 at *
                                generalize World.alloc X _ = X at *
                                refine hK.out _ _ (HP15.out.below HBO.out HP15.out.lt) (fun hH16 => ?_)
                                clear hK K
                                try simp only [List.setIfInBounds_toArray, List.set_cons_zero, List.set_cons_succ]
                                refine wpAnyH_ready (rs := [13]) (by kernel_rfl) (by simp) ?_
                                refine AllReadyH.cons (by simp only [List.getElem?_toArray, List.getElem?_cons_succ, List.getElem?_cons_zero]; rfl) (fun K hK => ?_) AllReadyH.nil
                                go_simp
                                refine (HA2.out _ HBO.out).mono ?_
                                rintro e X ⟨rfl, hb⟩
                                replace HBO := Lib.hid (HBO.out.trans (hb.mono HBO.out.size))
                                replace H33 := Lib.hid (H33.out.below hb H33.out.lt)
                                replace H34 := Lib.hid (H34.out.below hb H34.out.lt)
                                clear hb
                                refine hK.out _ _ (HP15.out.below HBO.out HP15.out.lt) (fun hH17 => ?_)
                                clear hK K
                                try simp only [List.setIfInBounds_toArray, List.set_cons_zero, List.set_cons_succ]
                                refine wpAnyH_ready (rs := [16]) (by kernel_rfl) (by simp) ?_
                                refine AllReadyH.cons (by simp only [List.getElem?_toArray, List.getElem?_cons_succ, List.getElem?_cons_zero]; rfl) (fun K hK => ?_) AllReadyH.nil
                                rw [if_pos (by rfl)]
                                refine wp_store_mid 50 (.tmp 33) (.tmp 238) (by rfl) g33 0 #[.int .i64 F1.top, .int .i64 F1.under] (by rfl) (by rfl) (thereT (o := 0) H33.out (by simp)) (by kernel_rfl) (by simp [Value.oneCell']) ?_
                                replace HBO := Lib.hid (setsT_below (x := .int .i64 F1.top) (y := .int .i64 F1.under) HBO.out hgg33)
                                replace H33 := Lib.hid (setsT_blk (x := .int .i64 F1.top) (y := .int .i64 F1.under) H33.out)
                                replace H34 := Lib.hid (setsT_far (x := .int .i64 F1.top) (y := .int .i64 F1.under) hne.symm H34.out)
                                refine hK.out _ _ (HP15.out.below HBO.out HP15.out.lt) (fun hH18 => ?_)
                                clear hK K
                                try simp only [List.setIfInBounds_toArray, List.set_cons_zero, List.set_cons_succ]
                                refine wpAnyH_ready (rs := [17]) (by kernel_rfl) (by simp) ?_
                                refine AllReadyH.cons (by simp only [List.getElem?_toArray, List.getElem?_cons_succ, List.getElem?_cons_zero]; rfl) (fun K hK => ?_) AllReadyH.nil
                                rw [if_pos (by rfl)]
                                refine wp_store_mid 50 (.tmp 34) (.tmp 245) (by rfl) g34 0 #[.int .i64 F2.top, .int .i64 F2.under] (by rfl) (by rfl) (thereT (o := 0) H34.out (by simp)) (by kernel_rfl) (by simp [Value.oneCell']) ?_
                                replace HBO := Lib.hid (setsT_below (x := .int .i64 F2.top) (y := .int .i64 F2.under) HBO.out hgg34)
                                replace H33 := Lib.hid (setsT_far (x := .int .i64 F2.top) (y := .int .i64 F2.under) hne H33.out)
                                replace H34 := Lib.hid (setsT_blk (x := .int .i64 F2.top) (y := .int .i64 F2.under) H34.out)
                                refine hK.out _ _ (HP15.out.below HBO.out HP15.out.lt) (fun hH19 => ?_)
                                clear hK K
                                try simp only [List.setIfInBounds_toArray, List.set_cons_zero, List.set_cons_succ]
                                refine wpAnyH_done (by kernel_rfl) ?_ _
                                go_wp2_with fail
                                go_meet
                                exact ⟨g33, g34, rfl, rfl, Lib.hid ⟨H33.out, H34.out, HBO.out⟩⟩
                              exact AllReadyH.nil
                            refine AllReadyH.cons (by simp only [List.getElem?_toArray, List.getElem?_cons_succ, List.getElem?_cons_zero]; rfl) (fun K hK => ?_) ?_
                            · go_simp
                              have hb : Below X.heap.size X (X.alloc (.cells #[.int .i64 0, .int .i64 0] 50)) := (Below.refl _ _).alloc (Nat.le_refl _) _
                              have H34 := Lib.hid (Blk.new X 50 #[.int .i64 0, .int .i64 0])
                              have hgg34 := HBO.out.size
                              replace HBO := Lib.hid (HBO.out.trans (hb.mono HBO.out.size))
                              clear hb
                              generalize X.heap.size = g34 at *
                              generalize World.alloc X _ = X at *
                              refine hK.out _ _ (HP15.out.below HBO.out HP15.out.lt) (fun hH20 => ?_)
                              clear hK K
                              try simp only [List.setIfInBounds_toArray, List.set_cons_zero, List.set_cons_succ]
                              refine wpAnyH_ready (rs := [13, 14]) (by kernel_rfl) (by simp) ?_
                              refine AllReadyH.cons (by simp only [List.getElem?_toArray, List.getElem?_cons_succ, List.getElem?_cons_zero]; rfl) (fun K hK => ?_) ?_
                              · go_simp
                                refine (HA2.out _ HBO.out).mono ?_
                                rintro e X ⟨rfl, hb⟩
                                replace HBO := Lib.hid (HBO.out.trans (hb.mono HBO.out.size))
                                replace H34 := Lib.hid (H34.out.below hb H34.out.lt)
                                clear hb
                                refine hK.out _ _ (HP15.out.below HBO.out HP15.out.lt) (fun hH21 => ?_)
                                clear hK K
                                try simp only [List.setIfInBounds_toArray, List.set_cons_zero, List.set_cons_succ]
                                refine wpAnyH_ready (rs := [14]) (by kernel_rfl) (by simp) ?_
                                refine AllReadyH.cons (by simp only [List.getElem?_toArray, List.getElem?_cons_succ, List.getElem?_cons_zero]; rfl) (fun K hK => ?_) AllReadyH.nil
                                go_simp
                                have hb : Below X.heap.size X (X.alloc (.cells #[.int .i64 0, .int .i64 0] 50)) := (Below.refl _ _).alloc (Nat.le_refl _) _
                                have H33 := Lib.hid (Blk.new X 50 #[.int .i64 0, .int .i64 0])
                                have hgg33 := HBO.out.size
                                have hne : X.heap.size ≠ g34 := (Nat.ne_of_lt H34.out.lt).symm
                                replace HBO := Lib.hid (HBO.out.trans (hb.mono HBO.out.size))
                                replace H34 := Lib.hid (H34.out.below hb H34.out.lt)
                                clear hb
                                generalize X.heap.size = g33 at *
                                generalize World.alloc X _ = X at *
                                refine hK.out _ _ (HP15.out.below HBO.out HP15.out.lt) (fun hH22 => ?_)
                                clear hK K
                                try simp only [List.setIfInBounds_toArray, List.set_cons_zero, List.set_cons_succ]
                                refine wpAnyH_ready (rs := [16]) (by kernel_rfl) (by simp) ?_
                                refine AllReadyH.cons (by simp only [List.getElem?_toArray, List.getElem?_cons_succ, List.getElem?_cons_zero]; rfl) (fun K hK => ?_) AllReadyH.nil
                                rw [if_pos (by rfl)]
                                refine wp_store_mid 50 (.tmp 33) (.tmp 238) (by rfl) g33 0 #[.int .i64 F1.top, .int .i64 F1.under] (by rfl) (by rfl) (thereT (o := 0) H33.out (by simp)) (by kernel_rfl) (by simp [Value.oneCell']) ?_
                                replace HBO := Lib.hid (setsT_below (x := .int .i64 F1.top) (y := .int .i64 F1.under) HBO.out hgg33)
                                replace H33 := Lib.hid (setsT_blk (x := .int .i64 F1.top) (y := .int .i64 F1.under) H33.out)
                                replace H34 := Lib.hid (setsT_far (x := .int .i64 F1.top) (y := .int .i64 F1.under) hne.symm H34.out)
                                refine hK.out _ _ (HP15.out.below HBO.out HP15.out.lt) (fun hH23 => ?_)
                                clear hK K
                                try simp only [List.setIfInBounds_toArray, List.set_cons_zero, List.set_cons_succ]
                                refine wpAnyH_ready (rs := [17]) (by kernel_rfl) (by simp) ?_
                                refine AllReadyH.cons (by simp only [List.getElem?_toArray, List.getElem?_cons_succ, List.getElem?_cons_zero]; rfl) (fun K hK => ?_) AllReadyH.nil
                                rw [if_pos (by rfl)]
                                refine wp_store_mid 50 (.tmp 34) (.tmp 245) (by rfl) g34 0 #[.int .i64 F2.top, .int .i64 F2.under] (by rfl) (by rfl) (thereT (o := 0) H34.out (by simp)) (by kernel_rfl) (by simp [Value.oneCell']) ?_
                                replace HBO := Lib.hid (setsT_below (x := .int .i64 F2.top) (y := .int .i64 F2.under) HBO.out hgg34)
                                replace H33 := Lib.hid (setsT_far (x := .int .i64 F2.top) (y := .int .i64 F2.under) hne H33.out)
                                replace H34 := Lib.hid (setsT_blk (x := .int .i64 F2.top) (y := .int .i64 F2.under) H34.out)
                                refine hK.out _ _ (HP15.out.below HBO.out HP15.out.lt) (fun hH24 => ?_)
                                clear hK K
                                try simp only [List.setIfInBounds_toArray, List.set_cons_zero, List.set_cons_succ]
                                refine wpAnyH_done (by kernel_rfl) ?_ _
                                go_wp2_with fail
                                go_meet
                                exact ⟨g33, g34, rfl, rfl, Lib.hid ⟨H33.out, H34.out, HBO.out⟩⟩
                              refine AllReadyH.cons (by simp only [List.getElem?_toArray, List.getElem?_cons_succ, List.getElem?_cons_zero]; rfl) (fun K hK => ?_) ?_
                              · go_simp
                                have hb : Below X.heap.size X (X.alloc (.cells #[.int .i64 0, .int .i64 0] 50)) := (Below.refl _ _).alloc (Nat.le_refl _) _
                                have H33 := Lib.hid (Blk.new X 50 #[.int .i64 0, .int .i64 0])
                                have hgg33 := HBO.out.size
                                have hne : X.heap.size ≠ g34 := (Nat.ne_of_lt H34.out.lt).symm
                                replace HBO := Lib.hid (HBO.out.trans (hb.mono HBO.out.size))
                                replace H34 := Lib.hid (H34.out.below hb H34.out.lt)
                                clear hb
                                generalize X.heap.size = g33 at *
                                generalize World.alloc X _ = X at *
                                refine hK.out _ _ (HP15.out.below HBO.out HP15.out.lt) (fun hH25 => ?_)
                                clear hK K
                                try simp only [List.setIfInBounds_toArray, List.set_cons_zero, List.set_cons_succ]
                                refine wpAnyH_ready (rs := [13]) (by kernel_rfl) (by simp) ?_
                                refine AllReadyH.cons (by simp only [List.getElem?_toArray, List.getElem?_cons_succ, List.getElem?_cons_zero]; rfl) (fun K hK => ?_) AllReadyH.nil
                                go_simp
                                refine (HA2.out _ HBO.out).mono ?_
                                rintro e X ⟨rfl, hb⟩
                                replace HBO := Lib.hid (HBO.out.trans (hb.mono HBO.out.size))
                                replace H33 := Lib.hid (H33.out.below hb H33.out.lt)
                                replace H34 := Lib.hid (H34.out.below hb H34.out.lt)
                                clear hb
                                refine hK.out _ _ (HP15.out.below HBO.out HP15.out.lt) (fun hH26 => ?_)
                                clear hK K
                                try simp only [List.setIfInBounds_toArray, List.set_cons_zero, List.set_cons_succ]
                                refine wpAnyH_ready (rs := [16]) (by kernel_rfl) (by simp) ?_
                                refine AllReadyH.cons (by simp only [List.getElem?_toArray, List.getElem?_cons_succ, List.getElem?_cons_zero]; rfl) (fun K hK => ?_) AllReadyH.nil
                                rw [if_pos (by rfl)]
                                refine wp_store_mid 50 (.tmp 33) (.tmp 238) (by rfl) g33 0 #[.int .i64 F1.top, .int .i64 F1.under] (by rfl) (by rfl) (thereT (o := 0) H33.out (by simp)) (by kernel_rfl) (by simp [Value.oneCell']) ?_
                                replace HBO := Lib.hid (setsT_below (x := .int .i64 F1.top) (y := .int .i64 F1.under) HBO.out hgg33)
                                replace H33 := Lib.hid (setsT_blk (x := .int .i64 F1.top) (y := .int .i64 F1.under) H33.out)
                                replace H34 := Lib.hid (setsT_far (x := .int .i64 F1.top) (y := .int .i64 F1.under) hne.symm H34.out)
                                refine hK.out _ _ (HP15.out.below HBO.out HP15.out.lt) (fun hH27 => ?_)
                                clear hK K
                                try simp only [List.setIfInBounds_toArray, List.set_cons_zero, List.set_cons_succ]
                                refine wpAnyH_ready (rs := [17]) (by kernel_rfl) (by simp) ?_
                                refine AllReadyH.cons (by simp only [List.getElem?_toArray, List.getElem?_cons_succ, List.getElem?_cons_zero]; rfl) (fun K hK => ?_) AllReadyH.nil
                                rw [if_pos (by rfl)]
                                refine wp_store_mid 50 (.tmp 34) (.tmp 245) (by rfl) g34 0 #[.int .i64 F2.top, .int .i64 F2.under] (by rfl) (by rfl) (thereT (o := 0) H34.out (by simp)) (by kernel_rfl) (by simp [Value.oneCell']) ?_
                                replace HBO := Lib.hid (setsT_below (x := .int .i64 F2.top) (y := .int .i64 F2.under) HBO.out hgg34)
                                replace H33 := Lib.hid (setsT_far (x := .int .i64 F2.top) (y := .int .i64 F2.under) hne H33.out)
                                replace H34 := Lib.hid (setsT_blk (x := .int .i64 F2.top) (y := .int .i64 F2.under) H34.out)
                                refine hK.out _ _ (HP15.out.below HBO.out HP15.out.lt) (fun hH28 => ?_)
                                clear hK K
                                try simp only [List.setIfInBounds_toArray, List.set_cons_zero, List.set_cons_succ]
                                refine wpAnyH_done (by kernel_rfl) ?_ _
                                go_wp2_with fail
                                go_meet
                                exact ⟨g33, g34, rfl, rfl, Lib.hid ⟨H33.out, H34.out, HBO.out⟩⟩
                              exact AllReadyH.nil
                            exact AllReadyH.nil
                          refine AllReadyH.cons (by simp only [List.getElem?_toArray, List.getElem?_cons_succ, List.getElem?_cons_zero]; rfl) (fun K hK => ?_) ?_
                          · go_simp
                            have hb : Below V0.heap.size V0 (V0.alloc (.cells #[.int .i64 0, .int .i64 0] 50)) := (Below.refl _ _).alloc (Nat.le_refl _) _
                            have H33 := Lib.hid (Blk.new V0 50 #[.int .i64 0, .int .i64 0])
                            have hgg33 := HBO.out.size
                            replace HBO := Lib.hid (HBO.out.trans (hb.mono HBO.out.size))
                            clear hb
                            generalize V0.heap.size = g33 at *
                            generalize World.alloc V0 _ = X at *
                            refine hK.out _ _ (HP15.out.below HBO.out HP15.out.lt) (fun hH29 => ?_)
                            clear hK K
                            try simp only [List.setIfInBounds_toArray, List.set_cons_zero, List.set_cons_succ]
                            refine wpAnyH_ready (rs := [6, 15]) (by kernel_rfl) (by simp) ?_
                            refine AllReadyH.cons (by simp only [List.getElem?_toArray, List.getElem?_cons_succ, List.getElem?_cons_zero]; rfl) (fun K hK => ?_) ?_
                            · go_simp
                              refine (HA1.out _ HBO.out).mono ?_
                              rintro e X ⟨rfl, hb⟩
                              replace HBO := Lib.hid (HBO.out.trans (hb.mono HBO.out.size))
                              replace H33 := Lib.hid (H33.out.below hb H33.out.lt)
                              clear hb
                              refine hK.out _ _ (HP15.out.below HBO.out HP15.out.lt) (fun hH30 => ?_)
                              clear hK K
                              try simp only [List.setIfInBounds_toArray, List.set_cons_zero, List.set_cons_succ]
                              refine wpAnyH_ready (rs := [13, 15]) (by kernel_rfl) (by simp) ?_
                              refine AllReadyH.cons (by simp only [List.getElem?_toArray, List.getElem?_cons_succ, List.getElem?_cons_zero]; rfl) (fun K hK => ?_) ?_
                              · go_simp
                                refine (HA2.out _ HBO.out).mono ?_
                                rintro e X ⟨rfl, hb⟩
                                replace HBO := Lib.hid (HBO.out.trans (hb.mono HBO.out.size))
                                replace H33 := Lib.hid (H33.out.below hb H33.out.lt)
                                clear hb
                                refine hK.out _ _ (HP15.out.below HBO.out HP15.out.lt) (fun hH31 => ?_)
                                clear hK K
                                try simp only [List.setIfInBounds_toArray, List.set_cons_zero, List.set_cons_succ]
                                refine wpAnyH_ready (rs := [15]) (by kernel_rfl) (by simp) ?_
                                refine AllReadyH.cons (by simp only [List.getElem?_toArray, List.getElem?_cons_succ, List.getElem?_cons_zero]; rfl) (fun K hK => ?_) AllReadyH.nil
                                go_simp
                                have hb : Below X.heap.size X (X.alloc (.cells #[.int .i64 0, .int .i64 0] 50)) := (Below.refl _ _).alloc (Nat.le_refl _) _
                                have H34 := Lib.hid (Blk.new X 50 #[.int .i64 0, .int .i64 0])
                                have hgg34 := HBO.out.size
                                have hne : g33 ≠ X.heap.size := Nat.ne_of_lt H33.out.lt
                                replace HBO := Lib.hid (HBO.out.trans (hb.mono HBO.out.size))
                                replace H33 := Lib.hid (H33.out.below hb H33.out.lt)
                                clear hb
                                generalize X.heap.size = g34 at *
                                generalize World.alloc X _ = X at *
                                refine hK.out _ _ (HP15.out.below HBO.out HP15.out.lt) (fun hH32 => ?_)
                                clear hK K
                                try simp only [List.setIfInBounds_toArray, List.set_cons_zero, List.set_cons_succ]
                                refine wpAnyH_ready (rs := [16]) (by kernel_rfl) (by simp) ?_
                                refine AllReadyH.cons (by simp only [List.getElem?_toArray, List.getElem?_cons_succ, List.getElem?_cons_zero]; rfl) (fun K hK => ?_) AllReadyH.nil
                                rw [if_pos (by rfl)]
                                refine wp_store_mid 50 (.tmp 33) (.tmp 238) (by rfl) g33 0 #[.int .i64 F1.top, .int .i64 F1.under] (by rfl) (by rfl) (thereT (o := 0) H33.out (by simp)) (by kernel_rfl) (by simp [Value.oneCell']) ?_
                                replace HBO := Lib.hid (setsT_below (x := .int .i64 F1.top) (y := .int .i64 F1.under) HBO.out hgg33)
                                replace H33 := Lib.hid (setsT_blk (x := .int .i64 F1.top) (y := .int .i64 F1.under) H33.out)
                                replace H34 := Lib.hid (setsT_far (x := .int .i64 F1.top) (y := .int .i64 F1.under) hne.symm H34.out)
                                refine hK.out _ _ (HP15.out.below HBO.out HP15.out.lt) (fun hH33 => ?_)
                                clear hK K
                                try simp only [List.setIfInBounds_toArray, List.set_cons_zero, List.set_cons_succ]
                                refine wpAnyH_ready (rs := [17]) (by kernel_rfl) (by simp) ?_
                                refine AllReadyH.cons (by simp only [List.getElem?_toArray, List.getElem?_cons_succ, List.getElem?_cons_zero]; rfl) (fun K hK => ?_) AllReadyH.nil
                                rw [if_pos (by rfl)]
                                refine wp_store_mid 50 (.tmp 34) (.tmp 245) (by rfl) g34 0 #[.int .i64 F2.top, .int .i64 F2.under] (by rfl) (by rfl) (thereT (o := 0) H34.out (by simp)) (by kernel_rfl) (by simp [Value.oneCell']) ?_
                                replace HBO := Lib.hid (setsT_below (x := .int .i64 F2.top) (y := .int .i64 F2.under) HBO.out hgg34)
                                replace H33 := Lib.hid (setsT_far (x := .int .i64 F2.top) (y := .int .i64 F2.under) hne H33.out)
                                replace H34 := Lib.hid (setsT_blk (x := .int .i64 F2.top) (y := .int .i64 F2.under) H34.out)
                                refine hK.out _ _ (HP15.out.below HBO.out HP15.out.lt) (fun hH34 => ?_)
                                clear hK K
                                try simp only [List.setIfInBounds_toArray, List.set_cons_zero, List.set_cons_succ]
                                refine wpAnyH_done (by kernel_rfl) ?_ _
                                go_wp2_with fail
                                go_meet
                                exact ⟨g33, g34, rfl, rfl, Lib.hid ⟨H33.out, H34.out, HBO.out⟩⟩
                              refine AllReadyH.cons (by simp only [List.getElem?_toArray, List.getElem?_cons_succ, List.getElem?_cons_zero]; rfl) (fun K hK => ?_) ?_
                              · go_simp
                                have hb : Below X.heap.size X (X.alloc (.cells #[.int .i64 0, .int .i64 0] 50)) := (Below.refl _ _).alloc (Nat.le_refl _) _
                                have H34 := Lib.hid (Blk.new X 50 #[.int .i64 0, .int .i64 0])
                                have hgg34 := HBO.out.size
                                have hne : g33 ≠ X.heap.size := Nat.ne_of_lt H33.out.lt
                                replace HBO := Lib.hid (HBO.out.trans (hb.mono HBO.out.size))
                                replace H33 := Lib.hid (H33.out.below hb H33.out.lt)
                                clear hb
                                generalize X.heap.size = g34 at *
                                generalize World.alloc X _ = X at *
                                refine hK.out _ _ (HP15.out.below HBO.out HP15.out.lt) (fun hH35 => ?_)
                                clear hK K
                                try simp only [List.setIfInBounds_toArray, List.set_cons_zero, List.set_cons_succ]
                                refine wpAnyH_ready (rs := [13]) (by kernel_rfl) (by simp) ?_
                                refine AllReadyH.cons (by simp only [List.getElem?_toArray, List.getElem?_cons_succ, List.getElem?_cons_zero]; rfl) (fun K hK => ?_) AllReadyH.nil
                                go_simp
                                refine (HA2.out _ HBO.out).mono ?_
                                rintro e X ⟨rfl, hb⟩
                                replace HBO := Lib.hid (HBO.out.trans (hb.mono HBO.out.size))
                                replace H33 := Lib.hid (H33.out.below hb H33.out.lt)
                                replace H34 := Lib.hid (H34.out.below hb H34.out.lt)
                                clear hb
                                refine hK.out _ _ (HP15.out.below HBO.out HP15.out.lt) (fun hH36 => ?_)
                                clear hK K
                                try simp only [List.setIfInBounds_toArray, List.set_cons_zero, List.set_cons_succ]
                                refine wpAnyH_ready (rs := [16]) (by kernel_rfl) (by simp) ?_
                                refine AllReadyH.cons (by simp only [List.getElem?_toArray, List.getElem?_cons_succ, List.getElem?_cons_zero]; rfl) (fun K hK => ?_) AllReadyH.nil
                                rw [if_pos (by rfl)]
                                refine wp_store_mid 50 (.tmp 33) (.tmp 238) (by rfl) g33 0 #[.int .i64 F1.top, .int .i64 F1.under] (by rfl) (by rfl) (thereT (o := 0) H33.out (by simp)) (by kernel_rfl) (by simp [Value.oneCell']) ?_
                                replace HBO := Lib.hid (setsT_below (x := .int .i64 F1.top) (y := .int .i64 F1.under) HBO.out hgg33)
                                replace H33 := Lib.hid (setsT_blk (x := .int .i64 F1.top) (y := .int .i64 F1.under) H33.out)
                                replace H34 := Lib.hid (setsT_far (x := .int .i64 F1.top) (y := .int .i64 F1.under) hne.symm H34.out)
                                refine hK.out _ _ (HP15.out.below HBO.out HP15.out.lt) (fun hH37 => ?_)
                                clear hK K
                                try simp only [List.setIfInBounds_toArray, List.set_cons_zero, List.set_cons_succ]
                                refine wpAnyH_ready (rs := [17]) (by kernel_rfl) (by simp) ?_
                                refine AllReadyH.cons (by simp only [List.getElem?_toArray, List.getElem?_cons_succ, List.getElem?_cons_zero]; rfl) (fun K hK => ?_) AllReadyH.nil
                                rw [if_pos (by rfl)]
                                refine wp_store_mid 50 (.tmp 34) (.tmp 245) (by rfl) g34 0 #[.int .i64 F2.top, .int .i64 F2.under] (by rfl) (by rfl) (thereT (o := 0) H34.out (by simp)) (by kernel_rfl) (by simp [Value.oneCell']) ?_
                                replace HBO := Lib.hid (setsT_below (x := .int .i64 F2.top) (y := .int .i64 F2.under) HBO.out hgg34)
                                replace H33 := Lib.hid (setsT_far (x := .int .i64 F2.top) (y := .int .i64 F2.under) hne H33.out)
                                replace H34 := Lib.hid (setsT_blk (x := .int .i64 F2.top) (y := .int .i64 F2.under) H34.out)
                                refine hK.out _ _ (HP15.out.below HBO.out HP15.out.lt) (fun hH38 => ?_)
                                clear hK K
                                try simp only [List.setIfInBounds_toArray, List.set_cons_zero, List.set_cons_succ]
                                refine wpAnyH_done (by kernel_rfl) ?_ _
                                go_wp2_with fail
                                go_meet
                                exact ⟨g33, g34, rfl, rfl, Lib.hid ⟨H33.out, H34.out, HBO.out⟩⟩
                              exact AllReadyH.nil
                            refine AllReadyH.cons (by simp only [List.getElem?_toArray, List.getElem?_cons_succ, List.getElem?_cons_zero]; rfl) (fun K hK => ?_) ?_
                            · go_simp
                              have hb : Below X.heap.size X (X.alloc (.cells #[.int .i64 0, .int .i64 0] 50)) := (Below.refl _ _).alloc (Nat.le_refl _) _
                              have H34 := Lib.hid (Blk.new X 50 #[.int .i64 0, .int .i64 0])
                              have hgg34 := HBO.out.size
                              have hne : g33 ≠ X.heap.size := Nat.ne_of_lt H33.out.lt
                              replace HBO := Lib.hid (HBO.out.trans (hb.mono HBO.out.size))
                              replace H33 := Lib.hid (H33.out.below hb H33.out.lt)
                              clear hb
                              generalize X.heap.size = g34 at *
                              generalize World.alloc X _ = X at *
                              refine hK.out _ _ (HP15.out.below HBO.out HP15.out.lt) (fun hH39 => ?_)
                              clear hK K
                              try simp only [List.setIfInBounds_toArray, List.set_cons_zero, List.set_cons_succ]
                              refine wpAnyH_ready (rs := [6]) (by kernel_rfl) (by simp) ?_
                              refine AllReadyH.cons (by simp only [List.getElem?_toArray, List.getElem?_cons_succ, List.getElem?_cons_zero]; rfl) (fun K hK => ?_) AllReadyH.nil
                              go_simp
                              refine (HA1.out _ HBO.out).mono ?_
                              rintro e X ⟨rfl, hb⟩
                              replace HBO := Lib.hid (HBO.out.trans (hb.mono HBO.out.size))
                              replace H33 := Lib.hid (H33.out.below hb H33.out.lt)
                              replace H34 := Lib.hid (H34.out.below hb H34.out.lt)
                              clear hb
                              refine hK.out _ _ (HP15.out.below HBO.out HP15.out.lt) (fun hH40 => ?_)
                              clear hK K
                              try simp only [List.setIfInBounds_toArray, List.set_cons_zero, List.set_cons_succ]
                              refine wpAnyH_ready (rs := [13]) (by kernel_rfl) (by simp) ?_
                              refine AllReadyH.cons (by simp only [List.getElem?_toArray, List.getElem?_cons_succ, List.getElem?_cons_zero]; rfl) (fun K hK => ?_) AllReadyH.nil
                              go_simp
                              refine (HA2.out _ HBO.out).mono ?_
                              rintro e X ⟨rfl, hb⟩
                              replace HBO := Lib.hid (HBO.out.trans (hb.mono HBO.out.size))
                              replace H33 := Lib.hid (H33.out.below hb H33.out.lt)
                              replace H34 := Lib.hid (H34.out.below hb H34.out.lt)
                              clear hb
                              refine hK.out _ _ (HP15.out.below HBO.out HP15.out.lt) (fun hH41 => ?_)
                              clear hK K
                              try simp only [List.setIfInBounds_toArray, List.set_cons_zero, List.set_cons_succ]
                              refine wpAnyH_ready (rs := [16]) (by kernel_rfl) (by simp) ?_
                              refine AllReadyH.cons (by simp only [List.getElem?_toArray, List.getElem?_cons_succ, List.getElem?_cons_zero]; rfl) (fun K hK => ?_) AllReadyH.nil
                              rw [if_pos (by rfl)]
                              refine wp_store_mid 50 (.tmp 33) (.tmp 238) (by rfl) g33 0 #[.int .i64 F1.top, .int .i64 F1.under] (by rfl) (by rfl) (thereT (o := 0) H33.out (by simp)) (by kernel_rfl) (by simp [Value.oneCell']) ?_
                              replace HBO := Lib.hid (setsT_below (x := .int .i64 F1.top) (y := .int .i64 F1.under) HBO.out hgg33)
                              replace H33 := Lib.hid (setsT_blk (x := .int .i64 F1.top) (y := .int .i64 F1.under) H33.out)
                              replace H34 := Lib.hid (setsT_far (x := .int .i64 F1.top) (y := .int .i64 F1.under) hne.symm H34.out)
                              refine hK.out _ _ (HP15.out.below HBO.out HP15.out.lt) (fun hH42 => ?_)
                              clear hK K
                              try simp only [List.setIfInBounds_toArray, List.set_cons_zero, List.set_cons_succ]
                              refine wpAnyH_ready (rs := [17]) (by kernel_rfl) (by simp) ?_
                              refine AllReadyH.cons (by simp only [List.getElem?_toArray, List.getElem?_cons_succ, List.getElem?_cons_zero]; rfl) (fun K hK => ?_) AllReadyH.nil
                              rw [if_pos (by rfl)]
                              refine wp_store_mid 50 (.tmp 34) (.tmp 245) (by rfl) g34 0 #[.int .i64 F2.top, .int .i64 F2.under] (by rfl) (by rfl) (thereT (o := 0) H34.out (by simp)) (by kernel_rfl) (by simp [Value.oneCell']) ?_
                              replace HBO := Lib.hid (setsT_below (x := .int .i64 F2.top) (y := .int .i64 F2.under) HBO.out hgg34)
                              replace H33 := Lib.hid (setsT_far (x := .int .i64 F2.top) (y := .int .i64 F2.under) hne H33.out)
                              replace H34 := Lib.hid (setsT_blk (x := .int .i64 F2.top) (y := .int .i64 F2.under) H34.out)
                              refine hK.out _ _ (HP15.out.below HBO.out HP15.out.lt) (fun hH43 => ?_)
                              clear hK K
                              try simp only [List.setIfInBounds_toArray, List.set_cons_zero, List.set_cons_succ]
                              refine wpAnyH_done (by kernel_rfl) ?_ _
                              go_wp2_with fail
                              go_meet
                              exact ⟨g33, g34, rfl, rfl, Lib.hid ⟨H33.out, H34.out, HBO.out⟩⟩
                            exact AllReadyH.nil
                          refine AllReadyH.cons (by simp only [List.getElem?_toArray, List.getElem?_cons_succ, List.getElem?_cons_zero]; rfl) (fun K hK => ?_) ?_
                          · go_simp
                            have hb : Below V0.heap.size V0 (V0.alloc (.cells #[.int .i64 0, .int .i64 0] 50)) := (Below.refl _ _).alloc (Nat.le_refl _) _
                            have H34 := Lib.hid (Blk.new V0 50 #[.int .i64 0, .int .i64 0])
                            have hgg34 := HBO.out.size
                            replace HBO := Lib.hid (HBO.out.trans (hb.mono HBO.out.size))
                            clear hb
                            generalize V0.heap.size = g34 at *
                            generalize World.alloc V0 _ = X at *
                            refine hK.out _ _ (HP15.out.below HBO.out HP15.out.lt) (fun hH44 => ?_)
                            clear hK K
                            try simp only [List.setIfInBounds_toArray, List.set_cons_zero, List.set_cons_succ]
                            refine wpAnyH_ready (rs := [6, 14]) (by kernel_rfl) (by simp) ?_
                            refine AllReadyH.cons (by simp only [List.getElem?_toArray, List.getElem?_cons_succ, List.getElem?_cons_zero]; rfl) (fun K hK => ?_) ?_
                            · go_simp
                              refine (HA1.out _ HBO.out).mono ?_
                              rintro e X ⟨rfl, hb⟩
                              replace HBO := Lib.hid (HBO.out.trans (hb.mono HBO.out.size))
                              replace H34 := Lib.hid (H34.out.below hb H34.out.lt)
                              clear hb
                              refine hK.out _ _ (HP15.out.below HBO.out HP15.out.lt) (fun hH45 => ?_)
                              clear hK K
                              try simp only [List.setIfInBounds_toArray, List.set_cons_zero, List.set_cons_succ]
                              refine wpAnyH_ready (rs := [13, 14]) (by kernel_rfl) (by simp) ?_
                              refine AllReadyH.cons (by simp only [List.getElem?_toArray, List.getElem?_cons_succ, List.getElem?_cons_zero]; rfl) (fun K hK => ?_) ?_
                              · go_simp
                                refine (HA2.out _ HBO.out).mono ?_
                                rintro e X ⟨rfl, hb⟩
                                replace HBO := Lib.hid (HBO.out.trans (hb.mono HBO.out.size))
                                replace H34 := Lib.hid (H34.out.below hb H34.out.lt)
                                clear hb
                                refine hK.out _ _ (HP15.out.below HBO.out HP15.out.lt) (fun hH46 => ?_)
                                clear hK K
                                try simp only [List.setIfInBounds_toArray, List.set_cons_zero, List.set_cons_succ]
                                refine wpAnyH_ready (rs := [14]) (by kernel_rfl) (by simp) ?_
                                refine AllReadyH.cons (by simp only [List.getElem?_toArray, List.getElem?_cons_succ, List.getElem?_cons_zero]; rfl) (fun K hK => ?_) AllReadyH.nil
                                go_simp
                                have hb : Below X.heap.size X (X.alloc (.cells #[.int .i64 0, .int .i64 0] 50)) := (Below.refl _ _).alloc (Nat.le_refl _) _
                                have H33 := Lib.hid (Blk.new X 50 #[.int .i64 0, .int .i64 0])
                                have hgg33 := HBO.out.size
                                have hne : X.heap.size ≠ g34 := (Nat.ne_of_lt H34.out.lt).symm
                                replace HBO := Lib.hid (HBO.out.trans (hb.mono HBO.out.size))
                                replace H34 := Lib.hid (H34.out.below hb H34.out.lt)
                                clear hb
                                generalize X.heap.size = g33 at *
                                generalize World.alloc X _ = X at *
                                refine hK.out _ _ (HP15.out.below HBO.out HP15.out.lt) (fun hH47 => ?_)
                                clear hK K
                                try simp only [List.setIfInBounds_toArray, List.set_cons_zero, List.set_cons_succ]
                                refine wpAnyH_ready (rs := [16]) (by kernel_rfl) (by simp) ?_
                                refine AllReadyH.cons (by simp only [List.getElem?_toArray, List.getElem?_cons_succ, List.getElem?_cons_zero]; rfl) (fun K hK => ?_) AllReadyH.nil
                                rw [if_pos (by rfl)]
                                refine wp_store_mid 50 (.tmp 33) (.tmp 238) (by rfl) g33 0 #[.int .i64 F1.top, .int .i64 F1.under] (by rfl) (by rfl) (thereT (o := 0) H33.out (by simp)) (by kernel_rfl) (by simp [Value.oneCell']) ?_
                                replace HBO := Lib.hid (setsT_below (x := .int .i64 F1.top) (y := .int .i64 F1.under) HBO.out hgg33)
                                replace H33 := Lib.hid (setsT_blk (x := .int .i64 F1.top) (y := .int .i64 F1.under) H33.out)
                                replace H34 := Lib.hid (setsT_far (x := .int .i64 F1.top) (y := .int .i64 F1.under) hne.symm H34.out)
                                refine hK.out _ _ (HP15.out.below HBO.out HP15.out.lt) (fun hH48 => ?_)
                                clear hK K
                                try simp only [List.setIfInBounds_toArray, List.set_cons_zero, List.set_cons_succ]
                                refine wpAnyH_ready (rs := [17]) (by kernel_rfl) (by simp) ?_
                                refine AllReadyH.cons (by simp only [List.getElem?_toArray, List.getElem?_cons_succ, List.getElem?_cons_zero]; rfl) (fun K hK => ?_) AllReadyH.nil
                                rw [if_pos (by rfl)]
                                refine wp_store_mid 50 (.tmp 34) (.tmp 245) (by rfl) g34 0 #[.int .i64 F2.top, .int .i64 F2.under] (by rfl) (by rfl) (thereT (o := 0) H34.out (by simp)) (by kernel_rfl) (by simp [Value.oneCell']) ?_
                                replace HBO := Lib.hid (setsT_below (x := .int .i64 F2.top) (y := .int .i64 F2.under) HBO.out hgg34)
                                replace H33 := Lib.hid (setsT_far (x := .int .i64 F2.top) (y := .int .i64 F2.under) hne H33.out)
                                replace H34 := Lib.hid (setsT_blk (x := .int .i64 F2.top) (y := .int .i64 F2.under) H34.out)
                                refine hK.out _ _ (HP15.out.below HBO.out HP15.out.lt) (fun hH49 => ?_)
                                clear hK K
                                try simp only [List.setIfInBounds_toArray, List.set_cons_zero, List.set_cons_succ]
                                refine wpAnyH_done (by kernel_rfl) ?_ _
                                go_wp2_with fail
                                go_meet
                                exact ⟨g33, g34, rfl, rfl, Lib.hid ⟨H33.out, H34.out, HBO.out⟩⟩
                              refine AllReadyH.cons (by simp only [List.getElem?_toArray, List.getElem?_cons_succ, List.getElem?_cons_zero]; rfl) (fun K hK => ?_) ?_
                              · go_simp
                                have hb : Below X.heap.size X (X.alloc (.cells #[.int .i64 0, .int .i64 0] 50)) := (Below.refl _ _).alloc (Nat.le_refl _) _
                                have H33 := Lib.hid (Blk.new X 50 #[.int .i64 0, .int .i64 0])
                                have hgg33 := HBO.out.size
                                have hne : X.heap.size ≠ g34 := (Nat.ne_of_lt H34.out.lt).symm
                                replace HBO := Lib.hid (HBO.out.trans (hb.mono HBO.out.size))
                                replace H34 := Lib.hid (H34.out.below hb H34.out.lt)
                                clear hb
                                generalize X.heap.size = g33 at *
                                generalize World.alloc X _ = X at *
                                refine hK.out _ _ (HP15.out.below HBO.out HP15.out.lt) (fun hH50 => ?_)
                                clear hK K
                                try simp only [List.setIfInBounds_toArray, List.set_cons_zero, List.set_cons_succ]
                                refine wpAnyH_ready (rs := [13]) (by kernel_rfl) (by simp) ?_
                                refine AllReadyH.cons (by simp only [List.getElem?_toArray, List.getElem?_cons_succ, List.getElem?_cons_zero]; rfl) (fun K hK => ?_) AllReadyH.nil
                                go_simp
                                refine (HA2.out _ HBO.out).mono ?_
                                rintro e X ⟨rfl, hb⟩
                                replace HBO := Lib.hid (HBO.out.trans (hb.mono HBO.out.size))
                                replace H33 := Lib.hid (H33.out.below hb H33.out.lt)
                                replace H34 := Lib.hid (H34.out.below hb H34.out.lt)
                                clear hb
                                refine hK.out _ _ (HP15.out.below HBO.out HP15.out.lt) (fun hH51 => ?_)
                                clear hK K
                                try simp only [List.setIfInBounds_toArray, List.set_cons_zero, List.set_cons_succ]
                                refine wpAnyH_ready (rs := [16]) (by kernel_rfl) (by simp) ?_
                                refine AllReadyH.cons (by simp only [List.getElem?_toArray, List.getElem?_cons_succ, List.getElem?_cons_zero]; rfl) (fun K hK => ?_) AllReadyH.nil
                                rw [if_pos (by rfl)]
                                refine wp_store_mid 50 (.tmp 33) (.tmp 238) (by rfl) g33 0 #[.int .i64 F1.top, .int .i64 F1.under] (by rfl) (by rfl) (thereT (o := 0) H33.out (by simp)) (by kernel_rfl) (by simp [Value.oneCell']) ?_
                                replace HBO := Lib.hid (setsT_below (x := .int .i64 F1.top) (y := .int .i64 F1.under) HBO.out hgg33)
                                replace H33 := Lib.hid (setsT_blk (x := .int .i64 F1.top) (y := .int .i64 F1.under) H33.out)
                                replace H34 := Lib.hid (setsT_far (x := .int .i64 F1.top) (y := .int .i64 F1.under) hne.symm H34.out)
                                refine hK.out _ _ (HP15.out.below HBO.out HP15.out.lt) (fun hH52 => ?_)
                                clear hK K
                                try simp only [List.setIfInBounds_toArray, List.set_cons_zero, List.set_cons_succ]
                                refine wpAnyH_ready (rs := [17]) (by kernel_rfl) (by simp) ?_
                                refine AllReadyH.cons (by simp only [List.getElem?_toArray, List.getElem?_cons_succ, List.getElem?_cons_zero]; rfl) (fun K hK => ?_) AllReadyH.nil
                                rw [if_pos (by rfl)]
                                refine wp_store_mid 50 (.tmp 34) (.tmp 245) (by rfl) g34 0 #[.int .i64 F2.top, .int .i64 F2.under] (by rfl) (by rfl) (thereT (o := 0) H34.out (by simp)) (by kernel_rfl) (by simp [Value.oneCell']) ?_
                                replace HBO := Lib.hid (setsT_below (x := .int .i64 F2.top) (y := .int .i64 F2.under) HBO.out hgg34)
                                replace H33 := Lib.hid (setsT_far (x := .int .i64 F2.top) (y := .int .i64 F2.under) hne H33.out)
                                replace H34 := Lib.hid (setsT_blk (x := .int .i64 F2.top) (y := .int .i64 F2.under) H34.out)
                                refine hK.out _ _ (HP15.out.below HBO.out HP15.out.lt) (fun hH53 => ?_)
                                clear hK K
                                try simp only [List.setIfInBounds_toArray, List.set_cons_zero, List.set_cons_succ]
                                refine wpAnyH_done (by kernel_rfl) ?_ _
                                go_wp2_with fail
                                go_meet
                                exact ⟨g33, g34, rfl, rfl, Lib.hid ⟨H33.out, H34.out, HBO.out⟩⟩
                              exact AllReadyH.nil
                            refine AllReadyH.cons (by simp only [List.getElem?_toArray, List.getElem?_cons_succ, List.getElem?_cons_zero]; rfl) (fun K hK => ?_) ?_
                            · go_simp
                              have hb : Below X.heap.size X (X.alloc (.cells #[.int .i64 0, .int .i64 0] 50)) := (Below.refl _ _).alloc (Nat.le_refl _) _
                              have H33 := Lib.hid (Blk.new X 50 #[.int .i64 0, .int .i64 0])
                              have hgg33 := HBO.out.size
                              have hne : X.heap.size ≠ g34 := (Nat.ne_of_lt H34.out.lt).symm
                              replace HBO := Lib.hid (HBO.out.trans (hb.mono HBO.out.size))
                              replace H34 := Lib.hid (H34.out.below hb H34.out.lt)
                              clear hb
                              generalize X.heap.size = g33 at *
                              generalize World.alloc X _ = X at *
                              refine hK.out _ _ (HP15.out.below HBO.out HP15.out.lt) (fun hH54 => ?_)
                              clear hK K
                              try simp only [List.setIfInBounds_toArray, List.set_cons_zero, List.set_cons_succ]
                              refine wpAnyH_ready (rs := [6]) (by kernel_rfl) (by simp) ?_
                              refine AllReadyH.cons (by simp only [List.getElem?_toArray, List.getElem?_cons_succ, List.getElem?_cons_zero]; rfl) (fun K hK => ?_) AllReadyH.nil
                              go_simp
                              refine (HA1.out _ HBO.out).mono ?_
                              rintro e X ⟨rfl, hb⟩
                              replace HBO := Lib.hid (HBO.out.trans (hb.mono HBO.out.size))
                              replace H33 := Lib.hid (H33.out.below hb H33.out.lt)
                              replace H34 := Lib.hid (H34.out.below hb H34.out.lt)
                              clear hb
                              refine hK.out _ _ (HP15.out.below HBO.out HP15.out.lt) (fun hH55 => ?_)
                              clear hK K
                              try simp only [List.setIfInBounds_toArray, List.set_cons_zero, List.set_cons_succ]
                              refine wpAnyH_ready (rs := [13]) (by kernel_rfl) (by simp) ?_
                              refine AllReadyH.cons (by simp only [List.getElem?_toArray, List.getElem?_cons_succ, List.getElem?_cons_zero]; rfl) (fun K hK => ?_) AllReadyH.nil
                              go_simp
                              refine (HA2.out _ HBO.out).mono ?_
                              rintro e X ⟨rfl, hb⟩
                              replace HBO := Lib.hid (HBO.out.trans (hb.mono HBO.out.size))
                              replace H33 := Lib.hid (H33.out.below hb H33.out.lt)
                              replace H34 := Lib.hid (H34.out.below hb H34.out.lt)
                              clear hb
                              refine hK.out _ _ (HP15.out.below HBO.out HP15.out.lt) (fun hH56 => ?_)
                              clear hK K
                              try simp only [List.setIfInBounds_toArray, List.set_cons_zero, List.set_cons_succ]
                              refine wpAnyH_ready (rs := [16]) (by kernel_rfl) (by simp) ?_
                              refine AllReadyH.cons (by simp only [List.getElem?_toArray, List.getElem?_cons_succ, List.getElem?_cons_zero]; rfl) (fun K hK => ?_) AllReadyH.nil
                              rw [if_pos (by rfl)]
                              refine wp_store_mid 50 (.tmp 33) (.tmp 238) (by rfl) g33 0 #[.int .i64 F1.top, .int .i64 F1.under] (by rfl) (by rfl) (thereT (o := 0) H33.out (by simp)) (by kernel_rfl) (by simp [Value.oneCell']) ?_
                              replace HBO := Lib.hid (setsT_below (x := .int .i64 F1.top) (y := .int .i64 F1.under) HBO.out hgg33)
                              replace H33 := Lib.hid (setsT_blk (x := .int .i64 F1.top) (y := .int .i64 F1.under) H33.out)
                              replace H34 := Lib.hid (setsT_far (x := .int .i64 F1.top) (y := .int .i64 F1.under) hne.symm H34.out)
                              refine hK.out _ _ (HP15.out.below HBO.out HP15.out.lt) (fun hH57 => ?_)
                              clear hK K
                              try simp only [List.setIfInBounds_toArray, List.set_cons_zero, List.set_cons_succ]
                              refine wpAnyH_ready (rs := [17]) (by kernel_rfl) (by simp) ?_
                              refine AllReadyH.cons (by simp only [List.getElem?_toArray, List.getElem?_cons_succ, List.getElem?_cons_zero]; rfl) (fun K hK => ?_) AllReadyH.nil
                              rw [if_pos (by rfl)]
                              refine wp_store_mid 50 (.tmp 34) (.tmp 245) (by rfl) g34 0 #[.int .i64 F2.top, .int .i64 F2.under] (by rfl) (by rfl) (thereT (o := 0) H34.out (by simp)) (by kernel_rfl) (by simp [Value.oneCell']) ?_
                              replace HBO := Lib.hid (setsT_below (x := .int .i64 F2.top) (y := .int .i64 F2.under) HBO.out hgg34)
                              replace H33 := Lib.hid (setsT_far (x := .int .i64 F2.top) (y := .int .i64 F2.under) hne H33.out)
                              replace H34 := Lib.hid (setsT_blk (x := .int .i64 F2.top) (y := .int .i64 F2.under) H34.out)
                              refine hK.out _ _ (HP15.out.below HBO.out HP15.out.lt) (fun hH58 => ?_)
                              clear hK K
                              try simp only [List.setIfInBounds_toArray, List.set_cons_zero, List.set_cons_succ]
                              refine wpAnyH_done (by kernel_rfl) ?_ _
                              go_wp2_with fail
                              go_meet
                              exact ⟨g33, g34, rfl, rfl, Lib.hid ⟨H33.out, H34.out, HBO.out⟩⟩
                            exact AllReadyH.nil
                          exact AllReadyH.nil
                        case rest => as_aux_lemma =>
                          obtain ⟨p33, p34, rfl, rfl, hs⟩ := hcut
                          obtain ⟨hs3, hs4, hs5⟩ := hs.out
                          replace HK := Lib.hid (HK.out.call hs5)
                          have HBA := Lib.hid hs3
                          have HBB := Lib.hid hs4
                          clear hs hs3 hs4 hs5 HS2 h15 HA1 HA2 hv1 hv2
                          have HD1 : Hid (∀ V, Calls Try.prog 14 #[.agg #[.int .i64 F1.top, .int .i64 F1.under]] V (Ret (.int .i64 F1.down) V)) := fun V => rdown2_any F1.top F1.under V (by omega) (by omega) (by omega) (by omega)
                          have HU2 : Hid (∀ V, Calls Try.prog 13 #[.agg #[.int .i64 F2.top, .int .i64 F2.under]] V (Ret (.int .i64 F2.up) V)) := fun V => rup2_any F2.top F2.under V (by omega) (by omega) (by omega) (by omega)
                          have q1 : decide (F1.down ≤ F.up) = true := decide_eq_true hs1.1
                          have q2 : decide (F.down ≤ F2.up) = true := decide_eq_true hs1.2
                          obtain ⟨hs1, hs2⟩ := hs1
                          clear hF1 hF2
                          generalize hwv : wc = wv at HK HBA HBB ⊢
                          clear hwv
                          go_wp2_with fail
                          have HS3 : Hid (EnS wv p29 p33 p34 F F1 F2 wv) := Lib.hid ⟨Below.refl _ _, HK.out.at0.cell 0, HK.out.at0.cell 1, HBA.out.cell 0, HBA.out.cell 1, HBB.out.cell 0, HBB.out.cell 1⟩
                          have h29 : p29 < wv.heap.size := HK.out.at0.lt
                          have h33 : p33 < wv.heap.size := HBA.out.lt
                          have h34 : p34 < wv.heap.size := HBB.out.lt
                          have hbo : Below wv.heap.size wv wv.drew := (Below.refl _ _).drew
                          go_region_held3 (fun W => Below wv.heap.size wv W ∧ W.cell? ⟨p29, 0, none⟩ = some (.int .i64 F.top) ∧ W.cell? ⟨p29, 1, none⟩ = some (.int .i64 F.under) ∧ W.cell? ⟨p33, 0, none⟩ = some (.int .i64 F1.top) ∧ W.cell? ⟨p33, 1, none⟩ = some (.int .i64 F1.under) ∧ W.cell? ⟨p34, 0, none⟩ = some (.int .i64 F2.top) ∧ W.cell? ⟨p34, 1, none⟩ = some (.int .i64 F2.under))
                            (first | exact HS3.out.to h29 h33 h34 hbo | fail "no keep")
                            (first
                              | (go_at_call 14; (with_reducible refine (HD1.out _).mono ?_); rintro e w3' ⟨rfl, hb'⟩; replace hbo := hbo.trans (hb'.mono hbo.size); clear hb')
                              | (go_at_call 13; (with_reducible refine (HUP.out _).mono ?_); rintro e w3' ⟨rfl, hb'⟩; replace hbo := hbo.trans (hb'.mono hbo.size); clear hb')
                              | (go_at_call 13; (with_reducible refine (HU2.out _).mono ?_); rintro e w3' ⟨rfl, hb'⟩; replace hbo := hbo.trans (hb'.mono hbo.size); clear hb')
                              | (go_at_call 14; (with_reducible refine (HDN.out _).mono ?_); rintro e w3' ⟨rfl, hb'⟩; replace hbo := hbo.trans (hb'.mono hbo.size); clear hb')
                              | (go_at_call 7; (with_reducible refine (awake02_any _).mono ?_); rintro e w3' ⟨rfl, hb'⟩; replace hbo := hbo.trans (hb'.mono hbo.size); clear hb')
                              | fail "no arm")
                          all_goals
                            have hB := (HK.out.call hbo).s.below
                            clear HK hbo
                            go_wp2_with fail
                            go_ret
                            exact ⟨rfl, hB⟩
                      · go_wp2_with fail
                        refine (awake02_any _).mono ?_
                        rintro e w14 ⟨rfl, hb9⟩
                        have hB := (HK.out.call hb9).s.below
                        clear HK hb9
                        go_wp2_with fail
                        go_ret
                        exact ⟨rfl, hB⟩
                    · go_wp2_with fail
                      refine (awake02_any _).mono ?_
                      rintro e w14 ⟨rfl, hb9⟩
                      have hB := (HK.out.call hb9).s.below
                      clear HK hb9
                      go_wp2_with fail
                      go_ret
                      exact ⟨rfl, hB⟩
                  · go_wp2_with fail
                    refine (awake02_any _).mono ?_
                    rintro e w14 ⟨rfl, hb9⟩
                    have hB := (HK.out.call hb9).s.below
                    clear HK hb9
                    go_wp2_with fail
                    go_ret
                    exact ⟨rfl, hB⟩
        · go_wp2_with fail
          replace HK := Lib.hid (HK.out.new 31 #[.int .i64 sh.lo, .int .i64 sh.hi]); refine (awake02_any _).mono ?_; rintro e w9 ⟨rfl, hb9⟩; have hB := (HK.out.call hb9).s.below; clear HK hb9; go_wp2_with fail; go_ret; exact ⟨rfl, hB⟩
      · go_wp2_with fail
        replace HK := Lib.hid (HK.out.new 31 #[.int .i64 sh.lo, .int .i64 sh.hi]); refine (awake02_any _).mono ?_; rintro e w9 ⟨rfl, hb9⟩; have hB := (HK.out.call hb9).s.below; clear HK hb9; go_wp2_with fail; go_ret; exact ⟨rfl, hB⟩
end Go.Proofs.Ytffglhnmgapndaa
