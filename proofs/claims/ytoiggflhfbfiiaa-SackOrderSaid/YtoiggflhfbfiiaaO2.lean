/- The law SackOrder where the batch is valid. -/
import Derived.Test.YtoiggflhfbfiiaaO3
import Derived.Test.YtoiggflhfbfiiaaT6
import Derived.Deep.CutBlock
import Derived.Deep.DeepCutAuto
namespace Go.Proofs.Ytoiggflhfbfiiaa
open Go.RowKit Go.Shelf

/-- What is in hand once the batch was weighed: all of it lies below block B. -/
structure OrS (w : World) (A T : Option Addr) (l : List Sack) (b : List Take) (wl wh : Int) (p1 p2 p3 : Nat) (p : Nat → Span) (s x : Span) (B : Nat) (W : World) : Prop where
  b0 : Blk W w.heap.size 25 #[.int .i64 wl, .int .i64 wh]
  sa : SackSl W B A l
  ta : TakeSl W B T b
  below : Below w.heap.size w W
  a1 : Blk W p1 29 (spansTo p 5)
  a2 : Blk W p2 25 #[.int .i64 s.lo, .int .i64 s.hi]
  a3 : Blk W p3 25 #[.int .i64 x.lo, .int .i64 x.hi]
  l0 : w.heap.size < B
  l1 : p1 < B
  l2 : p2 < B
  l3 : p3 < B
theorem OrS.keep {w : World} {A T : Option Addr} {l : List Sack} {b : List Take} {wl wh : Int} {p1 p2 p3 : Nat} {p : Nat → Span} {s x : Span} {B : Nat} {W W' : World} (h : OrS w A T l b wl wh p1 p2 p3 p s x B W) (hb : Below B W W') : OrS w A T l b wl wh p1 p2 p3 p s x B W' :=
  ⟨h.b0.below hb h.l0, h.sa.below hb, h.ta.below hb, h.below.trans (hb.mono (Nat.le_of_lt h.l0)), h.a1.below hb h.l1, h.a2.below hb h.l2, h.a3.below hb h.l3, h.l0, h.l1, h.l2, h.l3⟩
theorem OrS.call {w : World} {A T : Option Addr} {l : List Sack} {b : List Take} {wl wh : Int} {p1 p2 p3 : Nat} {p : Nat → Span} {s x : Span} {B : Nat} {W W' : World} (h : OrS w A T l b wl wh p1 p2 p3 p s x B W) (hB : B ≤ W.heap.size) (hb : Below W.heap.size W W') : OrS w A T l b wl wh p1 p2 p3 p s x B W' := h.keep (hb.mono hB)

/-- What is in hand once the list of sacks of which more is known is made. -/
structure LeS (w : World) (A T : Option Addr) (l : List Sack) (b : List Take) (wl wh : Int) (p1 p2 p3 : Nat) (p : Nat → Span) (s x : Span) (l' : List Sack) (g B : Nat) (W : World) : Prop where
  o : OrS w A T l b wl wh p1 p2 p3 p s x B W
  less : SackSl W B (some ⟨g, 0, none⟩) l'
  hb : B ≤ W.heap.size
theorem LeS.call {w : World} {A T : Option Addr} {l : List Sack} {b : List Take} {wl wh : Int} {p1 p2 p3 : Nat} {p : Nat → Span} {s x : Span} {l' : List Sack} {g B : Nat} {W W' : World} (h : LeS w A T l b wl wh p1 p2 p3 p s x l' g B W) (hb : Below W.heap.size W W') : LeS w A T l b wl wh p1 p2 p3 p s x l' g B W' :=
  ⟨h.o.call h.hb hb, h.less.below (hb.mono h.hb), Nat.le_trans h.hb hb.size⟩
/-- What the last tests read. -/
structure LesT (w : World) (p1 p2 p3 : Nat) (p : Nat → Span) (s x : Span) (z1 z2 z3 : Nat) (p' : Nat → Span) (s' x' : Span) (W : World) : Prop where
  a1 : Blk W p1 29 (spansTo p 5)
  a2 : Blk W p2 25 #[.int .i64 s.lo, .int .i64 s.hi]
  a3 : Blk W p3 25 #[.int .i64 x.lo, .int .i64 x.hi]
  b1 : Blk W z1 29 (spansTo p' 5)
  b2 : Blk W z2 25 #[.int .i64 s'.lo, .int .i64 s'.hi]
  b3 : Blk W z3 25 #[.int .i64 x'.lo, .int .i64 x'.hi]
  below : Below w.heap.size w W
theorem LesT.of {w : World} {A T : Option Addr} {l : List Sack} {b : List Take} {wl wh : Int} {p1 p2 p3 : Nat} {p : Nat → Span} {s x : Span} {l' : List Sack} {g B z1 z2 z3 : Nat} {p' : Nat → Span} {s' x' : Span} {W : World} (h : LeS w A T l b wl wh p1 p2 p3 p s x l' g B W) (h1 : Blk W z1 29 (spansTo p' 5)) (h2 : Blk W z2 25 #[.int .i64 s'.lo, .int .i64 s'.hi]) (h3 : Blk W z3 25 #[.int .i64 x'.lo, .int .i64 x'.hi]) : Hid (LesT w p1 p2 p3 p s x z1 z2 z3 p' s' x' W) :=
  Lib.hid ⟨h.o.a1, h.o.a2, h.o.a3, h1, h2, h3, h.o.below⟩
theorem LesT.call {w : World} {p1 p2 p3 : Nat} {p : Nat → Span} {s x : Span} {z1 z2 z3 : Nat} {p' : Nat → Span} {s' x' : Span} {W W' : World} (h : LesT w p1 p2 p3 p s x z1 z2 z3 p' s' x' W) (hb : Below W.heap.size W W') : LesT w p1 p2 p3 p s x z1 z2 z3 p' s' x' W' :=
  ⟨h.a1.below hb h.a1.lt, h.a2.below hb h.a2.lt, h.a3.below hb h.a3.lt, h.b1.below hb h.b1.lt, h.b2.below hb h.b2.lt, h.b3.below hb h.b3.lt, h.below.trans (hb.mono h.below.size)⟩
/-- The batch with one take for each sack: nothing, or a batch of the same weights. -/
def OneR (l : List Sack) (b : List Take) (B : Nat) (v : Value) (xs : List Take) (W : World) : Prop :=
  (v = .slice none 0 0 ∧ xs = []) ∨ (W.ownsRow B 51 3 v xs.length (takeVs xs) ∧ (xs = [] ∨ (validB l xs = true ∧ ∀ i : Nat, i < l.length → weightR xs i = weightR b i)))
theorem takeVs_snoc (b : List Take) (t : Take) : takeVs (b ++ [t]) = takeVs b ++ [.int .i64 t.s, .int .i64 t.m.lo, .int .i64 t.m.hi] := by simp [takeVs]
theorem one_len (b : List Take) : ∀ n, (oneUpto b n).length ≤ n
  | 0 => by simp [oneUpto]
  | n + 1 => by
    have := one_len b n
    simp only [oneUpto, oneAt, List.length_append]
    split <;> simp <;> omega
set_option maxRecDepth 100000 in
set_option maxHeartbeats 16000000 in
theorem order_main (w : World) (A T : Option Addr) (c d : Nat) (l : List Sack) (b : List Take) (wl wh tn y : Int) (hl : l.length ≤ 12) (hcap : b.length ≤ d) (hA : SackSl w w.heap.size A l) (hT : TakeSl w w.heap.size T b) (hv : validB l b = true) (ht0 : 0 ≤ tn) (ht1 : tn ≤ 255) (hy0 : 0 ≤ y) (hy1 : y ≤ 255) :
    Calls Try.prog 7 #[.slice A l.length c, .slice T b.length d, .agg #[.int .i64 wl, .int .i64 wh], .int .u8 tn, .int .u8 y] w (Ret (.bool true) w) := by
  obtain ⟨q1, q2, q3, q4, q5, q6, q7⟩ := valid_parts hv
  have HV := Lib.hid hv
  have HS := Lib.hid q1
  have HS2 := Lib.hid q2
  have HT4 := Lib.hid q4
  clear hv q1 q2 q3 q4
  have HL := Lib.hid (LawS.new w A T l b wl wh hA hT); clear hA hT; go_enter Try.func7, Try.ntmps7; go_wp2_with fail
  refine (large_no A none _ 0 c 0 _ hl (by omega)).mono ?_
  rintro e w' ⟨rfl, rfl⟩
  go_wp2_with fail
  refine (rsacks_any _ A c l (by omega) HL.out.sa).mono ?_
  rw [HS.out]
  rintro e w1 ⟨rfl, hb'⟩
  replace HL := Lib.hid (HL.out.call hb')
  clear hb'
  go_wp2_with fail
  refine (rbatch_any _ A T c d l b (by omega) (by omega) HL.out.ta).mono ?_
  rw [HS2.out]
  rintro e w2 ⟨rfl, hb'⟩
  replace HL := Lib.hid (HL.out.call hb')
  clear hb'
  go_wp2_with fail
  have hW := weigh_yes w2 A T c d l b (by omega) (by omega) HL.out.sa HL.out.ta HV.out
  rw [spansTo5] at hW
  refine hW.mono ?_
  clear hW
  rintro e w3 ⟨rfl, hb'⟩
  replace HL := Lib.hid (HL.out.call hb')
  clear hb'
  generalize hp : partOf l b = p
  have HP := Lib.hid hp
  clear hp
  go_wp2_with fail
  have P3 := Lib.hid (Blk.new w3 29 (spansTo p 5))
  have hb3 : Below w3.heap.size w3 (w3.alloc (.cells (spansTo p 5) 29)) := (Below.refl _ _).alloc (Nat.le_refl _) _
  replace HL := Lib.hid (HL.out.call hb3)
  rw [spansTo5] at hb3
  have HC := share_yes _ A T c d l b (by omega) (by omega) HL.out.sa HL.out.ta HV.out
  refine HC.mono ?_
  clear HC hb3
  rintro e w4 ⟨rfl, hb'⟩
  replace HL := Lib.hid (HL.out.call hb')
  replace P3 := Lib.hid (P3.out.below hb' P3.out.lt)
  clear hb'
  generalize hs : shareOf (heldsOf l b) = sh
  have HSH := Lib.hid hs
  clear hs
  have o0 := HL.out.b0.cell 0
  have o1 := HL.out.b0.cell 1
  have ol := HL.out.b0.lt
  go_wp2_with fail
  have X4 := Lib.hid (Blk.new w4 25 #[.int .i64 sh.lo, .int .i64 sh.hi])
  have hb4 : Below w4.heap.size w4 (w4.alloc (.cells #[.int .i64 sh.lo, .int .i64 sh.hi] 25)) := (Below.refl _ _).alloc (Nat.le_refl _) _
  replace HL := Lib.hid (HL.out.call hb4)
  replace P3 := Lib.hid (P3.out.below hb4 P3.out.lt)
  clear o0 o1 ol hb4
  refine (water_ans _ A T c d l b wl wh (by omega) (by omega) HL.out.sa HL.out.ta HV.out).mono ?_
  rintro e w5 ⟨rfl, hb'⟩
  replace HL := Lib.hid (HL.out.call hb')
  replace P3 := Lib.hid (P3.out.below hb' P3.out.lt)
  replace X4 := Lib.hid (X4.out.below hb' X4.out.lt)
  clear hb'
  generalize hx : (watAns l b wl wh).1 = x
  generalize he : (watAns l b wl wh).2 = xe
  have HXA := Lib.hid hx
  have HXE := Lib.hid he
  clear hx he
  go_wp2_with fail
  have X5 := Lib.hid (Blk.new w5 25 #[.int .i64 x.lo, .int .i64 x.hi])
  have hb5 : Below w5.heap.size w5 (w5.alloc (.cells #[.int .i64 x.lo, .int .i64 x.hi] 25)) := (Below.refl _ _).alloc (Nat.le_refl _) _
  replace HL := Lib.hid (HL.out.call hb5)
  have HO : Hid (OrS w A T l b wl wh w3.heap.size w4.heap.size w5.heap.size p sh x (w5.alloc (.cells #[.int .i64 x.lo, .int .i64 x.hi] 25)).heap.size (w5.alloc (.cells #[.int .i64 x.lo, .int .i64 x.hi] 25))) :=
    ⟨HL.out.b0, HL.out.sa, HL.out.ta, HL.out.below, P3.out.below hb5 P3.out.lt, X4.out.below hb5 X4.out.lt, X5.out, HL.out.b0.lt, (P3.out.below hb5 P3.out.lt).lt, (X4.out.below hb5 X4.out.lt).lt, X5.out.lt⟩
  have hBB : (w5.alloc (.cells #[.int .i64 x.lo, .int .i64 x.hi] 25)).heap.size ≤ (w5.alloc (.cells #[.int .i64 x.lo, .int .i64 x.hi] 25)).heap.size := Nat.le_refl _
  clear X4 X5 P3 hb5 HL
  generalize World.alloc w5 _ = V0 at HO hBB ⊢
  clear hBB
  generalize hB0 : V0.heap.size = B at HO ⊢
  have hBB : B ≤ V0.heap.size := by omega
  clear hB0
  generalize w3.heap.size = p1 at HO ⊢
  generalize w4.heap.size = p2 at HO ⊢
  generalize w5.heap.size = p3 at HO ⊢
  obtain ⟨r, rfl⟩ : ∃ r : Nat, tn = r := ⟨tn.toNat, by omega⟩
  obtain ⟨i0, hi, hz0, hz1, hz2⟩ := info_parts takeInfo
  go_loopw [17, 19] (fun v i wr => ∃ k : Nat, k ≤ b.length ∧ i = .int .i64 k ∧ Hid (wr.ownsRow B 51 3 v k (takeVs (turned b r k))) ∧ Hid (OrS w A T l b wl wh p1 p2 p3 p sh x B wr) ∧ B ≤ wr.heap.size) (fun _ i _ => b.length - (intOf i).toNat)
  case atStart => exact ⟨0, by omega, rfl, World.ownsRow_nil _ _ _ _, HO, hBB⟩
  case round =>
    clear HO hBB
    obtain ⟨k, hk, rfl, HW, HO, hBB⟩ := hrel
    by_cases hlt : k < b.length
    · as_aux_lemma =>
        obtain ⟨bT, oT, rfl, hbT, hs⟩ := HO.out.ta (by intro e; subst e; simp at hlt)
        have hj := Nat.mod_lt (k + r) (show 0 < b.length by omega)
        obtain ⟨c0, c1, c2⟩ := hs _ hj
        clear hs
        have hbT2 : bT < wr.heap.size := by omega
        have r0 : ((k : Int) + (r : Int)).tmod (b.length : Int) = (((k + r) % b.length : Nat) : Int) := rem_nat (k + r) b.length
        have r1 : ((k : Int) + (r : Int)) % (b.length : Int) = (((k + r) % b.length : Nat) : Int) := rfl
        have hnz : b.length ≠ 0 := by omega
        have HTN : Hid (turnAt b r k = b[(k + r) % b.length]) := by
          show _ = _
          simp [turnAt, hj]
        have HNX := Lib.hid (turned_next b r k)
        rw [HTN.out] at HNX
        generalize b[(k + r) % b.length] = u at c0 c1 c2 HNX
        clear HTN
        generalize (k + r) % b.length = j0 at hj c0 c1 c2 r0 r1
        have v0 : (0 : Int) ≤ (j0 : Int) := by omega
        have u0' : (j0 : Int) < (b.length : Int) := by omega
        go_wp2_with (at_builtin; refine wpList_append_own _ rfl _ _ 23 rfl B 51 i0 _ 3 24 taksSl hi hz0 hz1 hz2 rfl (by decide) u17 k _ rfl (own_call HW.out (by repeat (first | exact Below.refl _ _ | assumption | refine Below.drew ?_ | refine Below.alloc ?_ (by first | omega | (simp only [World.size_alloc]; omega) | simp) _ | refine Below.setCell ?_ (by first | omega | (simp only [World.size_alloc]; omega) | simp) _))) ⟨wr.heap.size, 0, none⟩ 1 1 [.int .i64 u.s, .int .i64 u.m.lo, .int .i64 u.m.hi] rfl rfl (World.news_of_block (cs := #[.int .i64 u.s, .int .i64 u.m.lo, .int .i64 u.m.hi]) (t := 51) (fr := (0, 0)) (alloc_new_at (by simp))) (by simp [Value.oneCell']) (by unfold maxLen; omega) (by omega) (by simp; omega) ?_; intro v' v1 hown1 hg1 _; have HO1 := Lib.hid hown1; have HG1 := Lib.hid hg1; clear hown1 hg1)
        have hbz := Below.grown (B := B) ((Below.refl B wr).alloc hBB (.cells #[.int .i64 u.s, .int .i64 u.m.lo, .int .i64 u.m.hi] 51)) HG1.out (by simp; omega) (own_ge HW.out)
        have HO2 := Lib.hid (HO.out.keep hbz)
        have hBB2 := Nat.le_trans hBB hbz.size
        have HN1 : Hid (v1.ownsRow B 51 3 v' (k + 1) (takeVs (turned b r (k + 1)))) := by rw [HNX.out]; exact HO1.out
        clear c0 c1 c2 r0 r1 hbz HO1 HG1 HO HW
        go_roundw
        case rel => exact ⟨k + 1, by omega, by go_num, HN1, HO2, hBB2⟩
        case measure => simp [intOf]; omega
    · obtain rfl : k = b.length := by omega
      clear hk hlt
      go_upto_block 2 with fail
      have HTU : Hid (∃ A' c', u17 = .slice A' b.length c' ∧ A'.isSome = true ∧ TakeSl wr wr.heap.size A' (turned b r b.length)) := by
        obtain ⟨A', c', h1, h2⟩ := TakeSl.of_own (w := wr) (B := B) (v := u17) (xs := turned b r b.length) (by have := HW.out; unfold TaksAt; rw [turned_len]; exact this)
        rw [turned_len] at h1
        obtain ⟨_, _, e, _⟩ := h2 (by intro h; have := turned_len b r b.length; rw [h] at this; simp at this; omega)
        exact ⟨A', c', h1, by rw [e]; rfl, h2⟩
      obtain ⟨A', c', rfl, -, hTU⟩ := HTU.out
      have HTX := Lib.hid hTU
      clear hTU HW HTU
      have hB2 : wr.heap.size ≤ wr.heap.size := Nat.le_refl _
      have HO3 : Hid (OrS w A T l b wl wh p1 p2 p3 p sh x wr.heap.size wr) := ⟨HO.out.b0, HO.out.sa.more hBB, HO.out.ta.more hBB, HO.out.below, HO.out.a1, HO.out.a2, HO.out.a3, Nat.lt_of_lt_of_le HO.out.l0 hBB, Nat.lt_of_lt_of_le HO.out.l1 hBB, Nat.lt_of_lt_of_le HO.out.l2 hBB, Nat.lt_of_lt_of_le HO.out.l3 hBB⟩
      clear HO hBB
      generalize hB0 : wr.heap.size = B2 at HO3 HTX hB2
      have hBB : B2 ≤ wr.heap.size := by omega
      clear hB0 hB2
      go_cut [18] (fun s18 wx => ∃ xs : List Take, Hid (OneR l b B2 s18 xs wx) ∧ Hid (OrS w A T l b wl wh p1 p2 p3 p sh x B2 wx) ∧ Hid (TakeSl wx B2 A' (turned b r b.length)) ∧ B2 ≤ wx.heap.size)
      case first => as_aux_lemma =>
        go_wp2_with fail
        go_loopw [18, 20] (fun v i wr => ∃ q : Nat, q ≤ l.length ∧ i = .int .i64 q ∧ Hid (wr.ownsRow B2 51 3 v (oneUpto b q).length (takeVs (oneUpto b q))) ∧ Hid (∀ i : Nat, i < q → (weightR b i).hi ≤ 100000) ∧ Hid (OrS w A T l b wl wh p1 p2 p3 p sh x B2 wr) ∧ Hid (TakeSl wr B2 A' (turned b r b.length)) ∧ B2 ≤ wr.heap.size) (fun _ i _ => l.length - (intOf i).toNat)
        case atStart => exact ⟨0, by omega, rfl, World.ownsRow_nil _ _ _ _, (fun i hi => by omega), HO3, HTX, hBB⟩
        case round =>
          clear HO3 HTX hBB
          obtain ⟨q, hq, rfl, HW, HH, HO, HTX, hBB⟩ := hrel
          by_cases hlt : q < l.length
          · have HWT := Lib.hid (weight_any wr T d b q (by omega) (HO.out.ta.more hBB) HT4.out)
            have hwb := weightR_bd q b HT4.out
            have HWZ := Lib.hid (weightR_one.weight_zero b q HT4.out)
            have HNO : Hid (oneUpto b (q + 1) = oneUpto b q ++ oneAt b q) := rfl
            unfold oneAt at HNO
            have hol : (oneUpto b q).length ≤ q := one_len b q
            have HHN := Lib.hid (fun (h : (weightR b q).hi ≤ 100000) (i : Nat) (hi : i < q + 1) => (show (weightR b i).hi ≤ 100000 by
              by_cases e : i = q
              · rw [e]; exact h
              · exact HH.out i (by omega)))
            generalize weightR b q = m at HWT hwb HWZ HNO HHN
            obtain ⟨g1, g2, g3⟩ := hwb
            have g4 : m.hi ≤ 800000 := by omega
            go_wp2_with fail
            refine HWT.out.mono ?_
            rintro e v1 ⟨rfl, hb1⟩
            have hbx : Below wr.heap.size wr (v1.alloc (.cells #[.int .i64 m.lo, .int .i64 m.hi] 25)) := hb1.alloc hb1.size _
            have HO1 := Lib.hid (HO.out.call hBB hbx)
            have HTX1 := Lib.hid (HTX.out.below (hbx.mono hBB))
            have HW1 := Lib.hid (own_call HW.out hbx)
            have hBB1 := Nat.le_trans hBB hbx.size
            clear hbx hb1 HO HTX HW hBB HWT
            by_cases h1 : 0 < m.lo
            · by_cases h2 : m.hi ≤ 100000
              · rw [if_pos h1] at HNO
                have HH1 := Lib.hid (HHN.out h2)
                have HNO2 := Lib.hid HNO.out
                clear HNO HHN HWZ
                go_wp2_with (at_builtin; refine wpList_append_own _ rfl _ _ 23 rfl B2 51 i0 _ 3 24 taksSl hi hz0 hz1 hz2 rfl (by decide) u18 (oneUpto b q).length _ rfl (own_call HW1.out (by repeat (first | exact Below.refl _ _ | assumption | refine Below.drew ?_ | refine Below.alloc ?_ (by first | omega | (simp only [World.size_alloc]; omega) | simp) _ | refine Below.setCell ?_ (by first | omega | (simp only [World.size_alloc]; omega) | simp) _))) ⟨v1.heap.size + 1, 0, none⟩ 1 1 [.int .i64 q, .int .i64 m.lo, .int .i64 m.hi] rfl rfl (World.news_of_block (cs := #[.int .i64 q, .int .i64 m.lo, .int .i64 m.hi]) (t := 51) (fr := (0, 0)) (alloc_new_at (by simp))) (by simp [Value.oneCell']) (by unfold maxLen; omega) (by omega) (by simp at hBB1 ⊢; omega) ?_; intro v' v2 hown1 hg1 _; have HN1 := Lib.hid hown1; have HG1 := Lib.hid hg1; clear hown1 hg1)
                have hbz := Below.grown (B := B2) ((Below.refl B2 _).alloc hBB1 (.cells #[.int .i64 q, .int .i64 m.lo, .int .i64 m.hi] 51)) HG1.out (by simp at hBB1 ⊢; omega) (own_ge HW1.out)
                have HO2 := Lib.hid (HO1.out.keep hbz)
                have HTX2 := Lib.hid (HTX1.out.below hbz)
                have hBB2 := Nat.le_trans hBB1 hbz.size
                have HN2 : Hid (v2.ownsRow B2 51 3 v' (oneUpto b (q + 1)).length (takeVs (oneUpto b (q + 1)))) := by
                  rw [HNO2.out, takeVs_snoc, List.length_append]
                  exact HN1.out
                clear hbz HN1 HG1 HO1 HW1 HTX1
                go_roundw
                case rel => exact ⟨q + 1, by omega, by go_num, HN2, HH1, HO2, HTX2, hBB2⟩
                case measure => simp [intOf]; omega
              · go_wp2_with fail
                go_meet
                exact ⟨[], .inl ⟨rfl, rfl⟩, HO1, HTX1, hBB1⟩
            · have hz := HWZ.out (by omega)
              have h3 : m.hi ≤ 100000 := by rw [hz]; simp
              rw [if_neg h1, List.append_nil] at HNO
              have HH1 := Lib.hid (HHN.out h3)
              have HNO2 := HNO.out
              clear hz HWZ
              go_wp2_with fail
              go_roundw
              case rel => exact ⟨q + 1, by omega, by go_num, by rw [HNO2]; exact HW1, HH1, HO1, HTX1, hBB1⟩
              case measure => simp [intOf]; omega
          · obtain rfl : q = l.length := by omega
            have HR : Hid (OneR l b B2 u18 (oneUpto b l.length) wr) := by
              by_cases e : oneUpto b l.length = []
              · have h := HW.out
                rw [e] at h ⊢
                exact .inr ⟨h, .inl rfl⟩
              · exact .inr ⟨HW.out, .inr ⟨valid_one HV.out HH.out e, fun i hi => one_same HV.out i hi⟩⟩
            clear HW HH
            go_wp2_with fail
            go_meet
            exact ⟨_, HR, HO, HTX, hBB⟩
      case rest => as_aux_lemma =>
        obtain ⟨xs, HX1, HO, HTX, hBB⟩ := hcut
        clear HO3
        obtain ⟨A1, c1, e1, h1⟩ : ∃ A1 c1, u18 = .slice A1 xs.length c1 ∧ TakeSl wc wc.heap.size A1 xs ∧ (xs = [] ∨ (validB l xs = true ∧ ∀ i : Nat, i < l.length → weightR xs i = weightR b i)) := by
          rcases HX1.out with ⟨h1, h2⟩ | ⟨h1, h2⟩
          · subst h2
            exact ⟨none, 0, h1, (fun h => absurd rfl h), .inl rfl⟩
          · obtain ⟨A1, c1, h3, h4⟩ := TakeSl.of_own (show TaksAt wc B2 u18 xs from h1)
            exact ⟨A1, c1, h3, h4, h2⟩
        have HT1 := Lib.hid h1.1
        have HV1 := Lib.hid h1.2
        subst e1
        clear h1 HX1
        have HO3 : Hid (OrS w A T l b wl wh p1 p2 p3 p sh x wc.heap.size wc) := ⟨HO.out.b0, HO.out.sa.more hBB, HO.out.ta.more hBB, HO.out.below, HO.out.a1, HO.out.a2, HO.out.a3, Nat.lt_of_lt_of_le HO.out.l0 hBB, Nat.lt_of_lt_of_le HO.out.l1 hBB, Nat.lt_of_lt_of_le HO.out.l2 hBB, Nat.lt_of_lt_of_le HO.out.l3 hBB⟩
        replace HTX := Lib.hid (HTX.out.more hBB)
        clear HO hBB
        generalize hB0 : wc.heap.size = B3 at HO3 HTX HT1
        have hBB : B3 ≤ wc.heap.size := by omega
        clear hB0
        have HTV : Hid (validB l (turned b r b.length) = true) := valid_perm (turned_perm b r (by omega)) HV.out
        have HTW : Hid (∀ i : Nat, i < l.length → weightR (turned b r b.length) i = weightR b i) := fun i _ => weightR_perm (turned_perm b r (by omega)) i
        go_wp2_with fail
        have HC0 := Lib.hid (xc_of HV.out HTV.out HTW.out wl wh A A' c c' b.length (turned_len b r b.length) p sh x xe HP.out HSH.out HXA.out HXE.out)
        have HC0W := Lib.hid HC0.out.weigh
        rw [spansTo5] at HC0W
        go_loopw [22] (fun i wr => ∃ k : Nat, k ≤ 2 ∧ i = .int .i64 k ∧ Hid (OrS w A T l b wl wh p1 p2 p3 p sh x B3 wr) ∧ Hid (TakeSl wr B3 A' (turned b r b.length)) ∧ Hid (TakeSl wr B3 A1 xs) ∧ B3 ≤ wr.heap.size) (fun i _ => 2 - (intOf i).toNat)
        case atStart => exact ⟨0, by omega, rfl, HO3, HTX, HT1, hBB⟩
        case round =>
          clear HO3 HTX HT1 hBB
          obtain ⟨k, hk, rfl, HO, HX, HY, hBB⟩ := hrel
          by_cases hk0 : k = 0
          · as_aux_lemma =>
              subst hk0
              have hbl : b.length ≠ 0 := by omega
              go_wp2_with fail
              refine (HC0W.out _ (HO.out.sa.more hBB) (HX.out.more hBB)).mono ?_
              rintro e v1 ⟨rfl, hb1⟩
              have HO1 := Lib.hid (HO.out.call hBB hb1)
              have HX1 := Lib.hid (HX.out.below (hb1.mono hBB))
              have HY1 := Lib.hid (HY.out.below (hb1.mono hBB))
              have hBB1 := Nat.le_trans hBB hb1.size
              clear hb1 HO HX HY hBB
              go_wp2_with fail
              have hbx : Below v1.heap.size v1 (v1.alloc (.cells (spansTo p 5) 29)) := (Below.refl _ _).alloc (Nat.le_refl _) _
              have Z1 := Lib.hid (Blk.new v1 29 (spansTo p 5))
              have HO2 := Lib.hid (HO1.out.call hBB1 hbx)
              have HX2 := Lib.hid (HX1.out.below (hbx.mono hBB1))
              have HY2 := Lib.hid (HY1.out.below (hbx.mono hBB1))
              have hBB2 := Nat.le_trans hBB1 hbx.size
              rw [spansTo5] at Z1 HO2 HX2 HY2 hBB2
              clear hbx HO1 HX1 HY1
              refine (HC0.out.share _ (HO2.out.sa.more hBB2) (HX2.out.more hBB2)).mono ?_
              rintro e v2 ⟨rfl, hb1⟩
              have HO3 := Lib.hid (HO2.out.call hBB2 hb1)
              have HX3 := Lib.hid (HX2.out.below (hb1.mono hBB2))
              have HY3 := Lib.hid (HY2.out.below (hb1.mono hBB2))
              have hBB3 := Nat.le_trans hBB2 hb1.size
              replace Z1 := Lib.hid (Z1.out.below hb1 Z1.out.lt)
              clear hb1 HO2 HX2 HY2 hBB2
              have o0 := HO3.out.b0.cell 0
              have o1 := HO3.out.b0.cell 1
              have ol : w.heap.size < v2.heap.size := Nat.lt_of_lt_of_le HO3.out.l0 hBB3
              go_wp2_with fail
              have hbx : Below v2.heap.size v2 (v2.alloc (.cells #[.int .i64 sh.lo, .int .i64 sh.hi] 25)) := (Below.refl _ _).alloc (Nat.le_refl _) _
              have Z2 := Lib.hid (Blk.new v2 25 #[.int .i64 sh.lo, .int .i64 sh.hi])
              have HO4 := Lib.hid (HO3.out.call hBB3 hbx)
              have HX4 := Lib.hid (HX3.out.below (hbx.mono hBB3))
              have HY4 := Lib.hid (HY3.out.below (hbx.mono hBB3))
              have hBB4 := Nat.le_trans hBB3 hbx.size
              replace Z1 := Lib.hid (Z1.out.below hbx Z1.out.lt)
              clear hbx HO3 HX3 HY3 o0 o1 ol
              refine (HC0.out.water _ (HO4.out.sa.more hBB4) (HX4.out.more hBB4)).mono ?_
              rintro e v3 ⟨rfl, hb1⟩
              have HO5 := Lib.hid (HO4.out.call hBB4 hb1)
              have HX5 := Lib.hid (HX4.out.below (hb1.mono hBB4))
              have HY5 := Lib.hid (HY4.out.below (hb1.mono hBB4))
              have hBB5 := Nat.le_trans hBB4 hb1.size
              replace Z1 := Lib.hid (Z1.out.below hb1 Z1.out.lt)
              replace Z2 := Lib.hid (Z2.out.below hb1 Z2.out.lt)
              clear hb1 HO4 HX4 HY4
              have hbx : Below v3.heap.size v3 (v3.alloc (.cells #[.int .i64 x.lo, .int .i64 x.hi] 25)) := (Below.refl _ _).alloc (Nat.le_refl _) _
              have HO6 := Lib.hid (HO5.out.call hBB5 hbx)
              have HX6 := Lib.hid (HX5.out.below (hbx.mono hBB5))
              have HY6 := Lib.hid (HY5.out.below (hbx.mono hBB5))
              have hBB6 := Nat.le_trans hBB5 hbx.size
              clear hbx HX5 HY5
              have y1 := Nat.lt_of_lt_of_le HO5.out.l1 hBB5
              have y2 := Nat.lt_of_lt_of_le HO5.out.l2 hBB5
              have y3 := Nat.lt_of_lt_of_le HO5.out.l3 hBB5
              have y4 := Z1.out.lt
              have y5 := Z2.out.lt
              (have e0 := (HO5.out.a1.cell 0).trans (show _ = some (Value.int .i64 (p 0).lo) from rfl)); (have e1 := (HO5.out.a1.cell 1).trans (show _ = some (Value.int .i64 (p 0).hi) from rfl)); (have e2 := (HO5.out.a1.cell 2).trans (show _ = some (Value.int .i64 (p 1).lo) from rfl)); (have e3 := (HO5.out.a1.cell 3).trans (show _ = some (Value.int .i64 (p 1).hi) from rfl)); (have e4 := (HO5.out.a1.cell 4).trans (show _ = some (Value.int .i64 (p 2).lo) from rfl)); (have e5 := (HO5.out.a1.cell 5).trans (show _ = some (Value.int .i64 (p 2).hi) from rfl)); (have e6 := (HO5.out.a1.cell 6).trans (show _ = some (Value.int .i64 (p 3).lo) from rfl)); (have e7 := (HO5.out.a1.cell 7).trans (show _ = some (Value.int .i64 (p 3).hi) from rfl)); (have e8 := (HO5.out.a1.cell 8).trans (show _ = some (Value.int .i64 (p 4).lo) from rfl)); (have e9 := (HO5.out.a1.cell 9).trans (show _ = some (Value.int .i64 (p 4).hi) from rfl)); (have f0 := Z1.out.cell 0); (have f1 := Z1.out.cell 1); (have f2 := Z1.out.cell 2); (have f3 := Z1.out.cell 3); (have f4 := Z1.out.cell 4); (have f5 := Z1.out.cell 5); (have f6 := Z1.out.cell 6); (have f7 := Z1.out.cell 7); (have f8 := Z1.out.cell 8); (have f9 := Z1.out.cell 9); (have m0 := HO5.out.a2.cell 0); (have m1 := HO5.out.a2.cell 1); (have n0 := HO5.out.a3.cell 0); (have n1 := HO5.out.a3.cell 1); (have m2 := Z2.out.cell 0); (have m3 := Z2.out.cell 1)
              clear HO5 Z1 Z2
              go_wp2_with fail
              go_roundw
              case rel => exact ⟨1, by omega, rfl, HO6, HX6, HY6, hBB6⟩
              case measure => simp [intOf]
          · by_cases hk1 : k = 1
            · as_aux_lemma =>
                subst hk1
                by_cases hx0 : xs.length = 0
                · go_wp2_with fail
                  go_roundw
                  case rel => exact ⟨2, by omega, rfl, HO, HX, HY, hBB⟩
                  case measure => simp [intOf]
                · have hvx : validB l xs = true ∧ ∀ i : Nat, i < l.length → weightR xs i = weightR b i := by
                    rcases HV1.out with h | h
                    · exact absurd (by rw [h]; rfl) hx0
                    · exact h
                  have HC1 := Lib.hid (xc_of HV.out hvx.1 hvx.2 wl wh A A1 c c1 xs.length rfl p sh x xe HP.out HSH.out HXA.out HXE.out)
                  have HC1W := Lib.hid HC1.out.weigh
                  rw [spansTo5] at HC1W
                  clear hvx
                  go_wp2_with fail
                  refine (HC1W.out _ (HO.out.sa.more hBB) (HY.out.more hBB)).mono ?_
                  rintro e v1 ⟨rfl, hb1⟩
                  have HO1 := Lib.hid (HO.out.call hBB hb1)
                  have HX1 := Lib.hid (HX.out.below (hb1.mono hBB))
                  have HY1 := Lib.hid (HY.out.below (hb1.mono hBB))
                  have hBB1 := Nat.le_trans hBB hb1.size
                  clear hb1 HO HX HY hBB
                  go_wp2_with fail
                  have hbx : Below v1.heap.size v1 (v1.alloc (.cells (spansTo p 5) 29)) := (Below.refl _ _).alloc (Nat.le_refl _) _
                  have Z1 := Lib.hid (Blk.new v1 29 (spansTo p 5))
                  have HO2 := Lib.hid (HO1.out.call hBB1 hbx)
                  have HX2 := Lib.hid (HX1.out.below (hbx.mono hBB1))
                  have HY2 := Lib.hid (HY1.out.below (hbx.mono hBB1))
                  have hBB2 := Nat.le_trans hBB1 hbx.size
                  rw [spansTo5] at Z1 HO2 HX2 HY2 hBB2
                  clear hbx HO1 HX1 HY1
                  refine (HC1.out.share _ (HO2.out.sa.more hBB2) (HY2.out.more hBB2)).mono ?_
                  rintro e v2 ⟨rfl, hb1⟩
                  have HO3 := Lib.hid (HO2.out.call hBB2 hb1)
                  have HX3 := Lib.hid (HX2.out.below (hb1.mono hBB2))
                  have HY3 := Lib.hid (HY2.out.below (hb1.mono hBB2))
                  have hBB3 := Nat.le_trans hBB2 hb1.size
                  replace Z1 := Lib.hid (Z1.out.below hb1 Z1.out.lt)
                  clear hb1 HO2 HX2 HY2 hBB2
                  have o0 := HO3.out.b0.cell 0
                  have o1 := HO3.out.b0.cell 1
                  have ol : w.heap.size < v2.heap.size := Nat.lt_of_lt_of_le HO3.out.l0 hBB3
                  go_wp2_with fail
                  have hbx : Below v2.heap.size v2 (v2.alloc (.cells #[.int .i64 sh.lo, .int .i64 sh.hi] 25)) := (Below.refl _ _).alloc (Nat.le_refl _) _
                  have Z2 := Lib.hid (Blk.new v2 25 #[.int .i64 sh.lo, .int .i64 sh.hi])
                  have HO4 := Lib.hid (HO3.out.call hBB3 hbx)
                  have HX4 := Lib.hid (HX3.out.below (hbx.mono hBB3))
                  have HY4 := Lib.hid (HY3.out.below (hbx.mono hBB3))
                  have hBB4 := Nat.le_trans hBB3 hbx.size
                  replace Z1 := Lib.hid (Z1.out.below hbx Z1.out.lt)
                  clear hbx HO3 HX3 HY3 o0 o1 ol
                  refine (HC1.out.water _ (HO4.out.sa.more hBB4) (HY4.out.more hBB4)).mono ?_
                  rintro e v3 ⟨rfl, hb1⟩
                  have HO5 := Lib.hid (HO4.out.call hBB4 hb1)
                  have HX5 := Lib.hid (HX4.out.below (hb1.mono hBB4))
                  have HY5 := Lib.hid (HY4.out.below (hb1.mono hBB4))
                  have hBB5 := Nat.le_trans hBB4 hb1.size
                  replace Z1 := Lib.hid (Z1.out.below hb1 Z1.out.lt)
                  replace Z2 := Lib.hid (Z2.out.below hb1 Z2.out.lt)
                  clear hb1 HO4 HX4 HY4
                  have hbx : Below v3.heap.size v3 (v3.alloc (.cells #[.int .i64 x.lo, .int .i64 x.hi] 25)) := (Below.refl _ _).alloc (Nat.le_refl _) _
                  have HO6 := Lib.hid (HO5.out.call hBB5 hbx)
                  have HX6 := Lib.hid (HX5.out.below (hbx.mono hBB5))
                  have HY6 := Lib.hid (HY5.out.below (hbx.mono hBB5))
                  have hBB6 := Nat.le_trans hBB5 hbx.size
                  clear hbx HX5 HY5
                  have y1 := Nat.lt_of_lt_of_le HO5.out.l1 hBB5
                  have y2 := Nat.lt_of_lt_of_le HO5.out.l2 hBB5
                  have y3 := Nat.lt_of_lt_of_le HO5.out.l3 hBB5
                  have y4 := Z1.out.lt
                  have y5 := Z2.out.lt
                  (have e0 := (HO5.out.a1.cell 0).trans (show _ = some (Value.int .i64 (p 0).lo) from rfl)); (have e1 := (HO5.out.a1.cell 1).trans (show _ = some (Value.int .i64 (p 0).hi) from rfl)); (have e2 := (HO5.out.a1.cell 2).trans (show _ = some (Value.int .i64 (p 1).lo) from rfl)); (have e3 := (HO5.out.a1.cell 3).trans (show _ = some (Value.int .i64 (p 1).hi) from rfl)); (have e4 := (HO5.out.a1.cell 4).trans (show _ = some (Value.int .i64 (p 2).lo) from rfl)); (have e5 := (HO5.out.a1.cell 5).trans (show _ = some (Value.int .i64 (p 2).hi) from rfl)); (have e6 := (HO5.out.a1.cell 6).trans (show _ = some (Value.int .i64 (p 3).lo) from rfl)); (have e7 := (HO5.out.a1.cell 7).trans (show _ = some (Value.int .i64 (p 3).hi) from rfl)); (have e8 := (HO5.out.a1.cell 8).trans (show _ = some (Value.int .i64 (p 4).lo) from rfl)); (have e9 := (HO5.out.a1.cell 9).trans (show _ = some (Value.int .i64 (p 4).hi) from rfl)); (have f0 := Z1.out.cell 0); (have f1 := Z1.out.cell 1); (have f2 := Z1.out.cell 2); (have f3 := Z1.out.cell 3); (have f4 := Z1.out.cell 4); (have f5 := Z1.out.cell 5); (have f6 := Z1.out.cell 6); (have f7 := Z1.out.cell 7); (have f8 := Z1.out.cell 8); (have f9 := Z1.out.cell 9); (have m0 := HO5.out.a2.cell 0); (have m1 := HO5.out.a2.cell 1); (have n0 := HO5.out.a3.cell 0); (have n1 := HO5.out.a3.cell 1); (have m2 := Z2.out.cell 0); (have m3 := Z2.out.cell 1)
                  clear HO5 Z1 Z2
                  go_wp2_with fail
                  go_roundw
                  case rel => exact ⟨2, by omega, rfl, HO6, HX6, HY6, hBB6⟩
                  case measure => simp [intOf]
            · obtain rfl : k = 2 := by omega
              clear hk hk0 hk1 HX HY HC0 HC0W HV1 HTV HTW
              go_upto_if 187 with fail
              obtain ⟨yn, rfl⟩ : ∃ n : Nat, y = n := ⟨y.toNat, by omega⟩
              go_cut [] (fun wx => Hid (OrS w A T l b wl wh p1 p2 p3 p sh x B3 wx) ∧ B3 ≤ wx.heap.size)
              case first => as_aux_lemma =>
                by_cases hl1 : 1 < b.length
                · obtain ⟨bT, oT, rfl, hbT, -⟩ := HO.out.ta (by intro e; subst e; simp at hl1)
                  have hm := Nat.mod_lt yn (show 0 < b.length - 1 by omega)
                  have hcm : (yn : Int) % ((b.length : Int) - 1) = ((yn % (b.length - 1) : Nat) : Int) := by
                    have : ((b.length : Int) - 1) = ((b.length - 1 : Nat) : Int) := by omega
                    rw [this]; rfl
                  generalize yn % (b.length - 1) = m0 at hm hcm
                  have hvt := valid_take HV.out (1 + m0) (by omega) (by omega)
                  have hsp := split_part hvt.1 hvt.2 (by rw [List.take_append_drop]; exact HV.out) 0
                  rw [List.take_append_drop, HP.out] at hsp
                  have hb1 := partOf_bd hvt.1 0
                  have hb2 := partOf_bd hvt.2 0
                  have hb3 := partOf_bd HV.out 0
                  rw [HP.out] at hb3
                  generalize hpa : partOf l (b.take (1 + m0)) = pa at hsp hb1
                  generalize hpb : partOf l (b.drop (1 + m0)) = pb at hsp hb2
                  have HWA := Lib.hid (weigh_n l (b.take (1 + m0)) A (some ⟨bT, oT, none⟩) c d (1 + m0) hvt.1 (by simp; omega) pa hpa)
                  have HWB := Lib.hid (weigh_n l (b.drop (1 + m0)) A (some ⟨bT, oT + (1 + m0) * 3, none⟩) c (d - (1 + m0)) (b.length - (1 + m0)) hvt.2 (by simp) pb hpb)
                  rw [spansTo5] at HWA HWB
                  clear hpa hpb hvt
                  have HTS := Lib.hid (fun (W : World) (h : TakeSl W B3 (some ⟨bT, oT, none⟩) b) => take_sl h (by intro e; subst e; simp at hl1) (1 + m0))
                  have hc1 : (0 : Int) ≤ (1 + m0 : Int) := by omega
                  have hc2 : (1 + m0 : Int) ≤ (d : Int) := by omega
                  have hc3 : (1 + m0 : Int) ≤ (b.length : Int) := by omega
                  go_wp2_with fail
                  refine (HWA.out _ (HO.out.sa.more hBB) ((HTS.out _ HO.out.ta).1.more hBB)).mono ?_
                  rintro e v1 ⟨rfl, hb1'⟩
                  have HO1 := Lib.hid (HO.out.call hBB hb1')
                  have hBB1 := Nat.le_trans hBB hb1'.size
                  clear hb1' HO hBB HWA
                  go_wp2_with fail
                  have hbx : Below v1.heap.size v1 (v1.alloc (.cells (spansTo pa 5) 29)) := (Below.refl _ _).alloc (Nat.le_refl _) _
                  have Z1 := Lib.hid (Blk.new v1 29 (spansTo pa 5))
                  have HO2 := Lib.hid (HO1.out.call hBB1 hbx)
                  have hBB2 := Nat.le_trans hBB1 hbx.size
                  rw [spansTo5] at Z1 HO2 hBB2
                  clear hbx HO1
                  refine (HWB.out _ (HO2.out.sa.more hBB2) ((HTS.out _ HO2.out.ta).2.more hBB2)).mono ?_
                  rintro e v2 ⟨rfl, hb1'⟩
                  have HO3 := Lib.hid (HO2.out.call hBB2 hb1')
                  have hBB3 := Nat.le_trans hBB2 hb1'.size
                  replace Z1 := Lib.hid (Z1.out.below hb1' Z1.out.lt)
                  clear hb1' HO2 hBB2 HWB
                  have hbx : Below v2.heap.size v2 (v2.alloc (.cells (spansTo pb 5) 29)) := (Below.refl _ _).alloc (Nat.le_refl _) _
                  have HO4 := Lib.hid (HO3.out.call hBB3 hbx)
                  have hBB4 := Nat.le_trans hBB3 hbx.size
                  rw [spansTo5] at HO4 hBB4
                  clear hbx
                  have y1 := Nat.lt_of_lt_of_le HO3.out.l1 hBB3
                  have y4 := Z1.out.lt
                  have e0 := (HO3.out.a1.cell 0).trans (show _ = some (Value.int .i64 (p 0).lo) from rfl)
                  have e1 := (HO3.out.a1.cell 1).trans (show _ = some (Value.int .i64 (p 0).hi) from rfl)
                  have f0 := Z1.out.cell 0
                  have f1 := Z1.out.cell 1
                  obtain ⟨⟨s1, s2⟩, s3, s4⟩ := hsp
                  obtain ⟨k1, k2, k3, k4⟩ := hb1
                  obtain ⟨k5, k6, k7, k8⟩ := hb2
                  obtain ⟨k9, k10, k11, k12⟩ := hb3
                  have g1 : decide ((p 0).lo < (pa 0).lo + (pb 0).lo) = false := by simp; omega
                  have g2 : decide ((pa 0).lo + (pb 0).lo < (p 0).lo - 1) = false := by simp; omega
                  have g3 : decide ((pa 0).hi + (pb 0).hi < (p 0).hi) = false := by simp; omega
                  have g4 : decide ((p 0).hi + 1 < (pa 0).hi + (pb 0).hi) = false := by simp; omega
                  clear HO3 Z1 HTS hc1 hc2 hc3 s1 s2 s3 s4
                  go_wp2_with fail
                  go_meet
                  exact ⟨HO4, hBB4⟩
                · go_wp2_with fail
                  go_meet
                  exact ⟨HO, hBB⟩
              case rest => as_aux_lemma =>
                obtain ⟨HO, hBB⟩ := hcut
                have hl0 := valid_pos HV.out
                obtain ⟨bA, oA, rfl, hbA, hsA⟩ := HO.out.sa (by intro e; subst e; simp at hl0)
                have hb0 : Below wc.heap.size wc (wc.alloc (.cells #[] 57)) := (Below.refl _ _).alloc (Nat.le_refl _) _
                have HSA1 := Lib.hid (hsA.below (hb0.mono hBB) hbA)
                clear hsA hb0
                have hkm := Nat.mod_lt r hl0
                have r0 : (r : Int).tmod (l.length : Int) = ((r % l.length : Nat) : Int) := rem_nat r l.length
                have r1 : (r : Int) % (l.length : Int) = ((r % l.length : Nat) : Int) := rfl
                have hnz : l.length ≠ 0 := by omega
                generalize r % l.length = k at hkm r0 r1
                obtain ⟨p', sh', x', xe', HXL'⟩ := xl_of HV.out k (y := (yn : Int)) (by omega) wl wh T d p sh x xe HP.out HSH.out HXA.out HXE.out
                have HXL := Lib.hid HXL'
                clear HXL'
                obtain ⟨i1, hi1, hz10, hz11, hz12⟩ := info_parts sackInfo6
                go_wp2_with (at_builtin; refine wpList_append_own _ rfl _ _ 22 rfl B3 57 i1 _ 6 48 sacksSl6 hi1 hz10 hz11 hz12 rfl (by decide) (.slice (some ⟨wc.heap.size, 0, none⟩) 0 0) 0 [] rfl (own_empty wc B3 hBB) ⟨bA, oA, none⟩ l.length c (sackVs l) rfl (sackVs_len l) (sackVs_cells HSA1.out) (sackVs_one l) (by unfold maxLen; omega) (by omega) (by simp; omega) ?_; intro v' v1 hown1 hg1 hzz; clear hzz; have HO1 := Lib.hid hown1; have HG1 := Lib.hid hg1; clear hown1 hg1)
                have hbz := Below.grown (B := B3) ((Below.refl B3 wc).alloc hBB (.cells #[] 57)) HG1.out (by simp; omega) (own_ge (own_empty wc B3 hBB))
                have HO2 := Lib.hid (HO.out.keep hbz)
                have hBB2 := Nat.le_trans hBB hbz.size
                have HW1 : Hid (v1.ownsRow B3 57 6 v' l.length (sackVs l)) := by
                  have h := HO1.out
                  rw [Nat.zero_add, List.nil_append] at h
                  exact h
                obtain ⟨g, cap, cs, rfl, hBg, hblk, hcs⟩ := own_blk HW1.out hl0
                have HK0 := Lib.hid hblk
                have HC0 := Lib.hid hcs
                obtain ⟨bA2, oA2, eA2, hbA2, hsA2⟩ := HO2.out.sa (by intro e; subst e; simp at hl0)
                cases eA2
                have HSA2 := Lib.hid hsA2
                clear hblk hcs hsA2 HO HO1 HG1 HW1 hbz HSA1 hbA2 hi1 hz10 hz11 hz12
                have hsk := (valid_parts HV.out).2.2.1 _ (List.getElem_mem hkm)
                obtain ⟨d0, d1, d2, d3, d4, d5⟩ := HC0.out k hkm
                have HR := Lib.hid (less_cs HC0.out hkm (s := l[k]) rfl (yn : Int))
                obtain ⟨s, hs⟩ : ∃ s, l[k] = s := ⟨_, rfl⟩
                have HSK := Lib.hid hs
                rw [hs] at hsk HR d0 d1 d2 d3 d4 d5
                clear hs d1 d2 d5
                have D0 := Lib.hid d0
                have D3 := Lib.hid d3
                have D4 := Lib.hid d4
                clear d0 d3 d4
                simp only [sackOk, Bool.and_eq_true, withinB_iff] at hsk
                obtain ⟨⟨⟨k1, k2, k3⟩, k4, k5, k6⟩, k7, k8, k9⟩ := hsk
                have m9 := Nat.mod_lt yn (show 0 < 9 by omega)
                have m7 := Nat.mod_lt yn (show 0 < 7 by omega)
                have m5 := Nat.mod_lt yn (show 0 < 5 by omega)
                have e9 : (yn : Int).tmod 9 = ((yn % 9 : Nat) : Int) := rem_nat yn 9
                have e7 : (yn : Int).tmod 7 = ((yn % 7 : Nat) : Int) := rem_nat yn 7
                have e5 : (yn : Int).tmod 5 = ((yn % 5 : Nat) : Int) := rem_nat yn 5
                have f9 : (yn : Int) % 9 = ((yn % 9 : Nat) : Int) := rfl
                have f7 : (yn : Int) % 7 = ((yn % 7 : Nat) : Int) := rfl
                have f5 : (yn : Int) % 5 = ((yn % 5 : Nat) : Int) := rfl
                have hyn : IntKind.i64.wrap (yn : Int) = (yn : Int) := wrap_in (by omega) (by omega)
                rw [f9, f7, f5] at HR
                generalize yn % 9 = y9 at m9 e9 f9 HR
                generalize yn % 7 = y7 at m7 e7 f7 HR
                generalize yn % 5 = y5 at m5 e5 f5 HR
                have hw9 : IntKind.i64.wrap (s.w.lo + (y9 : Int)) = s.w.lo + (y9 : Int) := wrap_in (by omega) (by omega)
                have hw7 : IntKind.i64.wrap (s.c.hi - (y7 : Int)) = s.c.hi - (y7 : Int) := wrap_in (by omega) (by omega)
                have hw5 : IntKind.i64.wrap (s.l.lo + (y5 : Int)) = s.l.lo + (y5 : Int) := wrap_in (by omega) (by omega)
                have HYN := Lib.hid hyn
                have HE9 := Lib.hid e9
                have HE7 := Lib.hid e7
                have HE5 := Lib.hid e5
                have HW9 := Lib.hid hw9
                have HW7 := Lib.hid hw7
                have HW5 := Lib.hid hw5
                clear hyn e9 e7 e5 hw9 hw7 hw5
                clear HSA2 r0 r1 hl0 f9 f7 f5 k1 k2 k3 k4 k5 k6 k7 k8 k9 m9 m7 m5
                generalize hz : min s.w.hi (s.w.lo + (y9 : Int)) = z1 at HR
                have HM1 : Hid ((if s.w.lo + (y9 : Int) < s.w.hi then s.w.lo + (y9 : Int) else s.w.hi) = z1) := Lib.hid (by rw [← hz]; split <;> omega)
                clear hz
                generalize hz : max s.c.lo (s.c.hi - (y7 : Int)) = z2 at HR
                have HM2 : Hid ((if s.c.lo < s.c.hi - (y7 : Int) then s.c.hi - (y7 : Int) else s.c.lo) = z2) := Lib.hid (by rw [← hz]; split <;> omega)
                clear hz
                generalize hz : min s.l.hi (s.l.lo + (y5 : Int)) = z3 at HR
                have HM3 : Hid ((if s.l.lo + (y5 : Int) < s.l.hi then s.l.lo + (y5 : Int) else s.l.hi) = z3) := Lib.hid (by rw [← hz]; split <;> omega)
                clear hz
                obtain ⟨c0, c1', c2, c3, c4, c5⟩ := sack_cells HO2.out.sa hkm HSK.out
                clear c2 c3 c4 c5
                go_still_tail 22, (by kernel_rfl)
                change wpList _ _ _ _ _ v1.drew
                have HP11 := Lib.hid (HO2.out.keep (Below.refl B3 v1).drew)
                have HQ11 : Hid (Blk v1.drew g 57 cs) := HK0
                have hb11' : B3 ≤ v1.drew.heap.size := hBB2
                clear HO2 HK0 hBB2
                clear c0 c1'
                generalize v1.drew = W11 at *
                rw [HYN.out, HE9.out, HW9.out, HM1.out]
                have x0 := (HQ11.out.cell (k * 6)).trans D0.out
                have y0 := HQ11.out.frozen (k * 6)
                go_wp2_with fail
                have HO11 := Lib.hid (HP11.out.keep (Below.setCell (p := ⟨g, k * 6, none⟩) (Below.refl B3 W11) hBg (Value.int .i64 z1)))
                have HK11 := Lib.hid (HQ11.out.set_ (k * 6) (Value.int .i64 z1))
                have hbb11 : B3 ≤ (World.setCell W11 ⟨g, k * 6, none⟩ (Value.int .i64 z1)).heap.size := by simpa using hb11'
                clear x0 y0 HP11 HQ11 hb11'
                generalize World.setCell W11 _ _ = V1 at HO11 HK11 hbb11 ⊢
                obtain ⟨c0, c1', c2, c3, c4, c5⟩ := sack_cells HO11.out.sa hkm HSK.out
                clear c0 c1' c4 c5
                go_still_tail 22, (by kernel_rfl)
                change wpList _ _ _ _ _ V1.drew
                have HP12 := Lib.hid (HO11.out.keep (Below.refl B3 V1).drew)
                have HQ12 : Hid (Blk V1.drew g 57 (cs.setIfInBounds (k * 6) (.int .i64 z1))) := HK11
                have hb12' : B3 ≤ V1.drew.heap.size := hbb11
                clear HO11 HK11 hbb11
                clear c2 c3
                generalize V1.drew = W12 at *
                rw [HYN.out, HE7.out, HW7.out, HM2.out]
                have x0 := (HQ12.out.cell (k * 6 + 3)).trans ((set_far (by omega)).trans D3.out)
                have y0 := HQ12.out.frozen (k * 6 + 3)
                go_wp2_with fail
                have HO12 := Lib.hid (HP12.out.keep (Below.setCell (p := ⟨g, k * 6 + 3, none⟩) (Below.refl B3 W12) hBg (Value.int .i64 z2)))
                have HK12 := Lib.hid (HQ12.out.set_ (k * 6 + 3) (Value.int .i64 z2))
                have hbb12 : B3 ≤ (World.setCell W12 ⟨g, k * 6 + 3, none⟩ (Value.int .i64 z2)).heap.size := by simpa using hb12'
                clear x0 y0 HP12 HQ12 hb12'
                generalize World.setCell W12 _ _ = V2 at HO12 HK12 hbb12 ⊢
                obtain ⟨c0, c1', c2, c3, c4, c5⟩ := sack_cells HO12.out.sa hkm HSK.out
                clear c0 c1' c2 c3
                go_still_tail 22, (by kernel_rfl)
                change wpList _ _ _ _ _ V2.drew
                have HP13 := Lib.hid (HO12.out.keep (Below.refl B3 V2).drew)
                have HQ13 : Hid (Blk V2.drew g 57 ((cs.setIfInBounds (k * 6) (.int .i64 z1)).setIfInBounds (k * 6 + 3) (.int .i64 z2))) := HK12
                have hb13' : B3 ≤ V2.drew.heap.size := hbb12
                clear HO12 HK12 hbb12
                clear c4 c5
                generalize V2.drew = W13 at *
                rw [HYN.out, HE5.out, HW5.out, HM3.out]
                have x0 := (HQ13.out.cell (k * 6 + 4)).trans ((set_far (by omega)).trans ((set_far (by omega)).trans D4.out))
                have y0 := HQ13.out.frozen (k * 6 + 4)
                go_wp2_with fail
                have HO13 := Lib.hid (HP13.out.keep (Below.setCell (p := ⟨g, k * 6 + 4, none⟩) (Below.refl B3 W13) hBg (Value.int .i64 z3)))
                have HK13 := Lib.hid (HQ13.out.set_ (k * 6 + 4) (Value.int .i64 z3))
                have hbb13 : B3 ≤ (World.setCell W13 ⟨g, k * 6 + 4, none⟩ (Value.int .i64 z3)).heap.size := by simpa using hb13'
                clear x0 y0 HP13 HQ13 hb13'
                generalize World.setCell W13 _ _ = V3 at HO13 HK13 hbb13 ⊢
                have HLS := Lib.hid (HR.out.sl HK13.out HK13.out.lt)
                have HQ : Hid (LeS w (some ⟨bA, oA, none⟩) T l b wl wh p1 p2 p3 p sh x (lessOf l k yn) g V3.heap.size V3) := ⟨⟨HO13.out.b0, HO13.out.sa.more hbb13, HO13.out.ta.more hbb13, HO13.out.below, HO13.out.a1, HO13.out.a2, HO13.out.a3, Nat.lt_of_lt_of_le HO13.out.l0 hbb13, Nat.lt_of_lt_of_le HO13.out.l1 hbb13, Nat.lt_of_lt_of_le HO13.out.l2 hbb13, Nat.lt_of_lt_of_le HO13.out.l3 hbb13⟩, HLS.out, Nat.le_refl _⟩
                clear HO13 HK13 hbb13 HLS HR hBg HSK D0 D3 D4 HYN HE9 HE7 HE5 HW9 HW7 HW5 HM1 HM2 HM3 HC0
                generalize V3.heap.size = B4 at HQ
                generalize lessOf l k yn = l' at HXL HQ
                have HXW := Lib.hid HXL.out.weigh
                rw [spansTo5] at HXW
                refine (HXW.out _ _ _ (HQ.out.less.more HQ.out.hb) (HQ.out.o.ta.more HQ.out.hb)).mono ?_
                rintro e w1' ⟨rfl, hb1⟩
                replace HQ := Lib.hid (HQ.out.call hb1)
                clear hb1
                go_wp2_with fail
                have hbx : Below w1'.heap.size w1' (w1'.alloc (.cells (spansTo p' 5) 29)) := (Below.refl _ _).alloc (Nat.le_refl _) _
                have Z1 := Lib.hid (Blk.new w1' 29 (spansTo p' 5))
                replace HQ := Lib.hid (HQ.out.call hbx)
                rw [spansTo5] at Z1 HQ
                clear hbx
                refine (HXL.out.share _ _ _ (HQ.out.less.more HQ.out.hb) (HQ.out.o.ta.more HQ.out.hb)).mono ?_
                rintro e w2' ⟨rfl, hb1⟩
                replace HQ := Lib.hid (HQ.out.call hb1)
                replace Z1 := Lib.hid (Z1.out.below hb1 Z1.out.lt)
                clear hb1
                have o0 := HQ.out.o.b0.cell 0
                have o1 := HQ.out.o.b0.cell 1
                have ol : w.heap.size < w2'.heap.size := Nat.lt_of_lt_of_le HQ.out.o.l0 HQ.out.hb
                go_wp2_with fail
                have hbx : Below w2'.heap.size w2' (w2'.alloc (.cells #[.int .i64 sh'.lo, .int .i64 sh'.hi] 25)) := (Below.refl _ _).alloc (Nat.le_refl _) _
                have Z2 := Lib.hid (Blk.new w2' 25 #[.int .i64 sh'.lo, .int .i64 sh'.hi])
                replace HQ := Lib.hid (HQ.out.call hbx)
                replace Z1 := Lib.hid (Z1.out.below hbx Z1.out.lt)
                clear hbx o0 o1 ol
                refine (HXL.out.water _ _ _ (HQ.out.less.more HQ.out.hb) (HQ.out.o.ta.more HQ.out.hb)).mono ?_
                rintro e w3' ⟨rfl, hb1⟩
                replace HQ := Lib.hid (HQ.out.call hb1)
                replace Z1 := Lib.hid (Z1.out.below hb1 Z1.out.lt)
                replace Z2 := Lib.hid (Z2.out.below hb1 Z2.out.lt)
                clear hb1
                have hbx : Below w3'.heap.size w3' (w3'.alloc (.cells #[.int .i64 x'.lo, .int .i64 x'.hi] 25)) := (Below.refl _ _).alloc (Nat.le_refl _) _
                have Z3 := Lib.hid (Blk.new w3' 25 #[.int .i64 x'.lo, .int .i64 x'.hi])
                have HU : Hid (LesT w p1 p2 p3 p sh x w1'.heap.size w2'.heap.size w3'.heap.size p' sh' x' (w3'.alloc (.cells #[.int .i64 x'.lo, .int .i64 x'.hi] 25))) := LesT.of (HQ.out.call hbx) (Z1.out.below hbx Z1.out.lt) (Z2.out.below hbx Z2.out.lt) Z3.out
                have y1 := Nat.lt_of_lt_of_le HQ.out.o.l1 HQ.out.hb
                have y2 := Nat.lt_of_lt_of_le HQ.out.o.l2 HQ.out.hb
                have y3 := Nat.lt_of_lt_of_le HQ.out.o.l3 HQ.out.hb
                have y4 := Z1.out.lt
                have y5 := Z2.out.lt
                have HQ3 := HQ
                (have e0 := (HQ3.out.o.a1.cell 0).trans (show _ = some (Value.int .i64 (p 0).lo) from rfl)); (have e1 := (HQ3.out.o.a1.cell 1).trans (show _ = some (Value.int .i64 (p 0).hi) from rfl)); (have e2 := (HQ3.out.o.a1.cell 2).trans (show _ = some (Value.int .i64 (p 1).lo) from rfl)); (have e3 := (HQ3.out.o.a1.cell 3).trans (show _ = some (Value.int .i64 (p 1).hi) from rfl)); (have e4 := (HQ3.out.o.a1.cell 4).trans (show _ = some (Value.int .i64 (p 2).lo) from rfl)); (have e5 := (HQ3.out.o.a1.cell 5).trans (show _ = some (Value.int .i64 (p 2).hi) from rfl)); (have e6 := (HQ3.out.o.a1.cell 6).trans (show _ = some (Value.int .i64 (p 3).lo) from rfl)); (have e7 := (HQ3.out.o.a1.cell 7).trans (show _ = some (Value.int .i64 (p 3).hi) from rfl)); (have e8 := (HQ3.out.o.a1.cell 8).trans (show _ = some (Value.int .i64 (p 4).lo) from rfl)); (have e9 := (HQ3.out.o.a1.cell 9).trans (show _ = some (Value.int .i64 (p 4).hi) from rfl));  (have f0 := Z1.out.cell 0); (have f1 := Z1.out.cell 1); (have f2 := Z1.out.cell 2); (have f3 := Z1.out.cell 3); (have f4 := Z1.out.cell 4); (have f5 := Z1.out.cell 5); (have f6 := Z1.out.cell 6); (have f7 := Z1.out.cell 7); (have f8 := Z1.out.cell 8); (have f9 := Z1.out.cell 9); (have m0 := HQ3.out.o.a2.cell 0); (have m1 := HQ3.out.o.a2.cell 1); (have n0 := HQ3.out.o.a3.cell 0); (have n1 := HQ3.out.o.a3.cell 1); (have q0 := Z2.out.cell 0); (have q1 := Z2.out.cell 1); (have r0 : True := trivial); (have r1 : True := trivial)
                clear HQ Z1 Z2 Z3 hbx
                go_wp2_with fail
                refine (in_yes _ _ _ _ _ (HXL.out.parts 0)).mono ?_
                rintro e v9 ⟨rfl, hb1⟩; replace HU := Lib.hid (HU.out.call hb1); clear hb1 e0 e1 e2 e3 e4 e5 e6 e7 e8 e9 f0 f1 f2 f3 f4 f5 f6 f7 f8 f9 m0 m1 n0 n1 q0 q1 r0 r1; (have e0 := (HU.out.a1.cell 0).trans (show _ = some (Value.int .i64 (p 0).lo) from rfl)); (have e1 := (HU.out.a1.cell 1).trans (show _ = some (Value.int .i64 (p 0).hi) from rfl)); (have e2 := (HU.out.a1.cell 2).trans (show _ = some (Value.int .i64 (p 1).lo) from rfl)); (have e3 := (HU.out.a1.cell 3).trans (show _ = some (Value.int .i64 (p 1).hi) from rfl)); (have e4 := (HU.out.a1.cell 4).trans (show _ = some (Value.int .i64 (p 2).lo) from rfl)); (have e5 := (HU.out.a1.cell 5).trans (show _ = some (Value.int .i64 (p 2).hi) from rfl)); (have e6 := (HU.out.a1.cell 6).trans (show _ = some (Value.int .i64 (p 3).lo) from rfl)); (have e7 := (HU.out.a1.cell 7).trans (show _ = some (Value.int .i64 (p 3).hi) from rfl)); (have e8 := (HU.out.a1.cell 8).trans (show _ = some (Value.int .i64 (p 4).lo) from rfl)); (have e9 := (HU.out.a1.cell 9).trans (show _ = some (Value.int .i64 (p 4).hi) from rfl));  (have f0 := (HU.out.b1.cell 0).trans (show _ = some (Value.int .i64 (p' 0).lo) from rfl)); (have f1 := (HU.out.b1.cell 1).trans (show _ = some (Value.int .i64 (p' 0).hi) from rfl)); (have f2 := (HU.out.b1.cell 2).trans (show _ = some (Value.int .i64 (p' 1).lo) from rfl)); (have f3 := (HU.out.b1.cell 3).trans (show _ = some (Value.int .i64 (p' 1).hi) from rfl)); (have f4 := (HU.out.b1.cell 4).trans (show _ = some (Value.int .i64 (p' 2).lo) from rfl)); (have f5 := (HU.out.b1.cell 5).trans (show _ = some (Value.int .i64 (p' 2).hi) from rfl)); (have f6 := (HU.out.b1.cell 6).trans (show _ = some (Value.int .i64 (p' 3).lo) from rfl)); (have f7 := (HU.out.b1.cell 7).trans (show _ = some (Value.int .i64 (p' 3).hi) from rfl)); (have f8 := (HU.out.b1.cell 8).trans (show _ = some (Value.int .i64 (p' 4).lo) from rfl)); (have f9 := (HU.out.b1.cell 9).trans (show _ = some (Value.int .i64 (p' 4).hi) from rfl));  (have m0 := HU.out.a2.cell 0); (have m1 := HU.out.a2.cell 1); (have n0 := HU.out.a3.cell 0); (have n1 := HU.out.a3.cell 1); (have q0 := HU.out.b2.cell 0); (have q1 := HU.out.b2.cell 1); (have r0 := HU.out.b3.cell 0); (have r1 := HU.out.b3.cell 1); go_wp2_with fail
                refine (in_yes _ _ _ _ _ (HXL.out.parts 1)).mono ?_
                rintro e v9 ⟨rfl, hb1⟩; replace HU := Lib.hid (HU.out.call hb1); clear hb1 e0 e1 e2 e3 e4 e5 e6 e7 e8 e9 f0 f1 f2 f3 f4 f5 f6 f7 f8 f9 m0 m1 n0 n1 q0 q1 r0 r1; (have e0 := (HU.out.a1.cell 0).trans (show _ = some (Value.int .i64 (p 0).lo) from rfl)); (have e1 := (HU.out.a1.cell 1).trans (show _ = some (Value.int .i64 (p 0).hi) from rfl)); (have e2 := (HU.out.a1.cell 2).trans (show _ = some (Value.int .i64 (p 1).lo) from rfl)); (have e3 := (HU.out.a1.cell 3).trans (show _ = some (Value.int .i64 (p 1).hi) from rfl)); (have e4 := (HU.out.a1.cell 4).trans (show _ = some (Value.int .i64 (p 2).lo) from rfl)); (have e5 := (HU.out.a1.cell 5).trans (show _ = some (Value.int .i64 (p 2).hi) from rfl)); (have e6 := (HU.out.a1.cell 6).trans (show _ = some (Value.int .i64 (p 3).lo) from rfl)); (have e7 := (HU.out.a1.cell 7).trans (show _ = some (Value.int .i64 (p 3).hi) from rfl)); (have e8 := (HU.out.a1.cell 8).trans (show _ = some (Value.int .i64 (p 4).lo) from rfl)); (have e9 := (HU.out.a1.cell 9).trans (show _ = some (Value.int .i64 (p 4).hi) from rfl));  (have f0 := (HU.out.b1.cell 0).trans (show _ = some (Value.int .i64 (p' 0).lo) from rfl)); (have f1 := (HU.out.b1.cell 1).trans (show _ = some (Value.int .i64 (p' 0).hi) from rfl)); (have f2 := (HU.out.b1.cell 2).trans (show _ = some (Value.int .i64 (p' 1).lo) from rfl)); (have f3 := (HU.out.b1.cell 3).trans (show _ = some (Value.int .i64 (p' 1).hi) from rfl)); (have f4 := (HU.out.b1.cell 4).trans (show _ = some (Value.int .i64 (p' 2).lo) from rfl)); (have f5 := (HU.out.b1.cell 5).trans (show _ = some (Value.int .i64 (p' 2).hi) from rfl)); (have f6 := (HU.out.b1.cell 6).trans (show _ = some (Value.int .i64 (p' 3).lo) from rfl)); (have f7 := (HU.out.b1.cell 7).trans (show _ = some (Value.int .i64 (p' 3).hi) from rfl)); (have f8 := (HU.out.b1.cell 8).trans (show _ = some (Value.int .i64 (p' 4).lo) from rfl)); (have f9 := (HU.out.b1.cell 9).trans (show _ = some (Value.int .i64 (p' 4).hi) from rfl));  (have m0 := HU.out.a2.cell 0); (have m1 := HU.out.a2.cell 1); (have n0 := HU.out.a3.cell 0); (have n1 := HU.out.a3.cell 1); (have q0 := HU.out.b2.cell 0); (have q1 := HU.out.b2.cell 1); (have r0 := HU.out.b3.cell 0); (have r1 := HU.out.b3.cell 1); go_wp2_with fail
                refine (in_yes _ _ _ _ _ (HXL.out.parts 2)).mono ?_
                rintro e v9 ⟨rfl, hb1⟩; replace HU := Lib.hid (HU.out.call hb1); clear hb1 e0 e1 e2 e3 e4 e5 e6 e7 e8 e9 f0 f1 f2 f3 f4 f5 f6 f7 f8 f9 m0 m1 n0 n1 q0 q1 r0 r1; (have e0 := (HU.out.a1.cell 0).trans (show _ = some (Value.int .i64 (p 0).lo) from rfl)); (have e1 := (HU.out.a1.cell 1).trans (show _ = some (Value.int .i64 (p 0).hi) from rfl)); (have e2 := (HU.out.a1.cell 2).trans (show _ = some (Value.int .i64 (p 1).lo) from rfl)); (have e3 := (HU.out.a1.cell 3).trans (show _ = some (Value.int .i64 (p 1).hi) from rfl)); (have e4 := (HU.out.a1.cell 4).trans (show _ = some (Value.int .i64 (p 2).lo) from rfl)); (have e5 := (HU.out.a1.cell 5).trans (show _ = some (Value.int .i64 (p 2).hi) from rfl)); (have e6 := (HU.out.a1.cell 6).trans (show _ = some (Value.int .i64 (p 3).lo) from rfl)); (have e7 := (HU.out.a1.cell 7).trans (show _ = some (Value.int .i64 (p 3).hi) from rfl)); (have e8 := (HU.out.a1.cell 8).trans (show _ = some (Value.int .i64 (p 4).lo) from rfl)); (have e9 := (HU.out.a1.cell 9).trans (show _ = some (Value.int .i64 (p 4).hi) from rfl));  (have f0 := (HU.out.b1.cell 0).trans (show _ = some (Value.int .i64 (p' 0).lo) from rfl)); (have f1 := (HU.out.b1.cell 1).trans (show _ = some (Value.int .i64 (p' 0).hi) from rfl)); (have f2 := (HU.out.b1.cell 2).trans (show _ = some (Value.int .i64 (p' 1).lo) from rfl)); (have f3 := (HU.out.b1.cell 3).trans (show _ = some (Value.int .i64 (p' 1).hi) from rfl)); (have f4 := (HU.out.b1.cell 4).trans (show _ = some (Value.int .i64 (p' 2).lo) from rfl)); (have f5 := (HU.out.b1.cell 5).trans (show _ = some (Value.int .i64 (p' 2).hi) from rfl)); (have f6 := (HU.out.b1.cell 6).trans (show _ = some (Value.int .i64 (p' 3).lo) from rfl)); (have f7 := (HU.out.b1.cell 7).trans (show _ = some (Value.int .i64 (p' 3).hi) from rfl)); (have f8 := (HU.out.b1.cell 8).trans (show _ = some (Value.int .i64 (p' 4).lo) from rfl)); (have f9 := (HU.out.b1.cell 9).trans (show _ = some (Value.int .i64 (p' 4).hi) from rfl));  (have m0 := HU.out.a2.cell 0); (have m1 := HU.out.a2.cell 1); (have n0 := HU.out.a3.cell 0); (have n1 := HU.out.a3.cell 1); (have q0 := HU.out.b2.cell 0); (have q1 := HU.out.b2.cell 1); (have r0 := HU.out.b3.cell 0); (have r1 := HU.out.b3.cell 1); go_wp2_with fail
                refine (in_yes _ _ _ _ _ (HXL.out.parts 3)).mono ?_
                rintro e v9 ⟨rfl, hb1⟩; replace HU := Lib.hid (HU.out.call hb1); clear hb1 e0 e1 e2 e3 e4 e5 e6 e7 e8 e9 f0 f1 f2 f3 f4 f5 f6 f7 f8 f9 m0 m1 n0 n1 q0 q1 r0 r1; (have e0 := (HU.out.a1.cell 0).trans (show _ = some (Value.int .i64 (p 0).lo) from rfl)); (have e1 := (HU.out.a1.cell 1).trans (show _ = some (Value.int .i64 (p 0).hi) from rfl)); (have e2 := (HU.out.a1.cell 2).trans (show _ = some (Value.int .i64 (p 1).lo) from rfl)); (have e3 := (HU.out.a1.cell 3).trans (show _ = some (Value.int .i64 (p 1).hi) from rfl)); (have e4 := (HU.out.a1.cell 4).trans (show _ = some (Value.int .i64 (p 2).lo) from rfl)); (have e5 := (HU.out.a1.cell 5).trans (show _ = some (Value.int .i64 (p 2).hi) from rfl)); (have e6 := (HU.out.a1.cell 6).trans (show _ = some (Value.int .i64 (p 3).lo) from rfl)); (have e7 := (HU.out.a1.cell 7).trans (show _ = some (Value.int .i64 (p 3).hi) from rfl)); (have e8 := (HU.out.a1.cell 8).trans (show _ = some (Value.int .i64 (p 4).lo) from rfl)); (have e9 := (HU.out.a1.cell 9).trans (show _ = some (Value.int .i64 (p 4).hi) from rfl));  (have f0 := (HU.out.b1.cell 0).trans (show _ = some (Value.int .i64 (p' 0).lo) from rfl)); (have f1 := (HU.out.b1.cell 1).trans (show _ = some (Value.int .i64 (p' 0).hi) from rfl)); (have f2 := (HU.out.b1.cell 2).trans (show _ = some (Value.int .i64 (p' 1).lo) from rfl)); (have f3 := (HU.out.b1.cell 3).trans (show _ = some (Value.int .i64 (p' 1).hi) from rfl)); (have f4 := (HU.out.b1.cell 4).trans (show _ = some (Value.int .i64 (p' 2).lo) from rfl)); (have f5 := (HU.out.b1.cell 5).trans (show _ = some (Value.int .i64 (p' 2).hi) from rfl)); (have f6 := (HU.out.b1.cell 6).trans (show _ = some (Value.int .i64 (p' 3).lo) from rfl)); (have f7 := (HU.out.b1.cell 7).trans (show _ = some (Value.int .i64 (p' 3).hi) from rfl)); (have f8 := (HU.out.b1.cell 8).trans (show _ = some (Value.int .i64 (p' 4).lo) from rfl)); (have f9 := (HU.out.b1.cell 9).trans (show _ = some (Value.int .i64 (p' 4).hi) from rfl));  (have m0 := HU.out.a2.cell 0); (have m1 := HU.out.a2.cell 1); (have n0 := HU.out.a3.cell 0); (have n1 := HU.out.a3.cell 1); (have q0 := HU.out.b2.cell 0); (have q1 := HU.out.b2.cell 1); (have r0 := HU.out.b3.cell 0); (have r1 := HU.out.b3.cell 1); go_wp2_with fail
                refine (in_yes _ _ _ _ _ (HXL.out.parts 4)).mono ?_
                rintro e v9 ⟨rfl, hb1⟩; replace HU := Lib.hid (HU.out.call hb1); clear hb1 e0 e1 e2 e3 e4 e5 e6 e7 e8 e9 f0 f1 f2 f3 f4 f5 f6 f7 f8 f9 m0 m1 n0 n1 q0 q1 r0 r1; (have e0 := (HU.out.a1.cell 0).trans (show _ = some (Value.int .i64 (p 0).lo) from rfl)); (have e1 := (HU.out.a1.cell 1).trans (show _ = some (Value.int .i64 (p 0).hi) from rfl)); (have e2 := (HU.out.a1.cell 2).trans (show _ = some (Value.int .i64 (p 1).lo) from rfl)); (have e3 := (HU.out.a1.cell 3).trans (show _ = some (Value.int .i64 (p 1).hi) from rfl)); (have e4 := (HU.out.a1.cell 4).trans (show _ = some (Value.int .i64 (p 2).lo) from rfl)); (have e5 := (HU.out.a1.cell 5).trans (show _ = some (Value.int .i64 (p 2).hi) from rfl)); (have e6 := (HU.out.a1.cell 6).trans (show _ = some (Value.int .i64 (p 3).lo) from rfl)); (have e7 := (HU.out.a1.cell 7).trans (show _ = some (Value.int .i64 (p 3).hi) from rfl)); (have e8 := (HU.out.a1.cell 8).trans (show _ = some (Value.int .i64 (p 4).lo) from rfl)); (have e9 := (HU.out.a1.cell 9).trans (show _ = some (Value.int .i64 (p 4).hi) from rfl));  (have f0 := (HU.out.b1.cell 0).trans (show _ = some (Value.int .i64 (p' 0).lo) from rfl)); (have f1 := (HU.out.b1.cell 1).trans (show _ = some (Value.int .i64 (p' 0).hi) from rfl)); (have f2 := (HU.out.b1.cell 2).trans (show _ = some (Value.int .i64 (p' 1).lo) from rfl)); (have f3 := (HU.out.b1.cell 3).trans (show _ = some (Value.int .i64 (p' 1).hi) from rfl)); (have f4 := (HU.out.b1.cell 4).trans (show _ = some (Value.int .i64 (p' 2).lo) from rfl)); (have f5 := (HU.out.b1.cell 5).trans (show _ = some (Value.int .i64 (p' 2).hi) from rfl)); (have f6 := (HU.out.b1.cell 6).trans (show _ = some (Value.int .i64 (p' 3).lo) from rfl)); (have f7 := (HU.out.b1.cell 7).trans (show _ = some (Value.int .i64 (p' 3).hi) from rfl)); (have f8 := (HU.out.b1.cell 8).trans (show _ = some (Value.int .i64 (p' 4).lo) from rfl)); (have f9 := (HU.out.b1.cell 9).trans (show _ = some (Value.int .i64 (p' 4).hi) from rfl));  (have m0 := HU.out.a2.cell 0); (have m1 := HU.out.a2.cell 1); (have n0 := HU.out.a3.cell 0); (have n1 := HU.out.a3.cell 1); (have q0 := HU.out.b2.cell 0); (have q1 := HU.out.b2.cell 1); (have r0 := HU.out.b3.cell 0); (have r1 := HU.out.b3.cell 1); go_wp2_with fail
                refine (in_yes _ _ _ _ _ HXL.out.shares).mono ?_
                rintro e v9 ⟨rfl, hb1⟩
                replace HU := Lib.hid (HU.out.call hb1)
                clear hb1 e0 e1 e2 e3 e4 e5 e6 e7 e8 e9 f0 f1 f2 f3 f4 f5 f6 f7 f8 f9 m0 m1 n0 n1 q0 q1 r0 r1
                (have e0 := (HU.out.a1.cell 0).trans (show _ = some (Value.int .i64 (p 0).lo) from rfl)); (have e1 := (HU.out.a1.cell 1).trans (show _ = some (Value.int .i64 (p 0).hi) from rfl)); (have e2 := (HU.out.a1.cell 2).trans (show _ = some (Value.int .i64 (p 1).lo) from rfl)); (have e3 := (HU.out.a1.cell 3).trans (show _ = some (Value.int .i64 (p 1).hi) from rfl)); (have e4 := (HU.out.a1.cell 4).trans (show _ = some (Value.int .i64 (p 2).lo) from rfl)); (have e5 := (HU.out.a1.cell 5).trans (show _ = some (Value.int .i64 (p 2).hi) from rfl)); (have e6 := (HU.out.a1.cell 6).trans (show _ = some (Value.int .i64 (p 3).lo) from rfl)); (have e7 := (HU.out.a1.cell 7).trans (show _ = some (Value.int .i64 (p 3).hi) from rfl)); (have e8 := (HU.out.a1.cell 8).trans (show _ = some (Value.int .i64 (p 4).lo) from rfl)); (have e9 := (HU.out.a1.cell 9).trans (show _ = some (Value.int .i64 (p 4).hi) from rfl));  (have f0 := (HU.out.b1.cell 0).trans (show _ = some (Value.int .i64 (p' 0).lo) from rfl)); (have f1 := (HU.out.b1.cell 1).trans (show _ = some (Value.int .i64 (p' 0).hi) from rfl)); (have f2 := (HU.out.b1.cell 2).trans (show _ = some (Value.int .i64 (p' 1).lo) from rfl)); (have f3 := (HU.out.b1.cell 3).trans (show _ = some (Value.int .i64 (p' 1).hi) from rfl)); (have f4 := (HU.out.b1.cell 4).trans (show _ = some (Value.int .i64 (p' 2).lo) from rfl)); (have f5 := (HU.out.b1.cell 5).trans (show _ = some (Value.int .i64 (p' 2).hi) from rfl)); (have f6 := (HU.out.b1.cell 6).trans (show _ = some (Value.int .i64 (p' 3).lo) from rfl)); (have f7 := (HU.out.b1.cell 7).trans (show _ = some (Value.int .i64 (p' 3).hi) from rfl)); (have f8 := (HU.out.b1.cell 8).trans (show _ = some (Value.int .i64 (p' 4).lo) from rfl)); (have f9 := (HU.out.b1.cell 9).trans (show _ = some (Value.int .i64 (p' 4).hi) from rfl));  (have m0 := HU.out.a2.cell 0); (have m1 := HU.out.a2.cell 1); (have n0 := HU.out.a3.cell 0); (have n1 := HU.out.a3.cell 1); (have q0 := HU.out.b2.cell 0); (have q1 := HU.out.b2.cell 1); (have r0 := HU.out.b3.cell 0); (have r1 := HU.out.b3.cell 1)
                have HXT := Lib.hid HXL.out.wat
                by_cases hxe : xe = 0
                · have hwt : xe' = 0 ∧ x'.lo ≤ x.lo ∧ x.hi ≤ x'.hi := by
                    rcases HXT.out with h | h
                    · exact absurd hxe h
                    · exact h
                  have HWT := Lib.hid hwt.2
                  have hxe2 := hwt.1
                  clear hwt HXT
                  subst hxe hxe2
                  go_wp2_with fail
                  refine (in_yes _ _ _ _ _ HWT.out).mono ?_
                  rintro e v9 ⟨rfl, hb1⟩
                  replace HU := Lib.hid (HU.out.call hb1)
                  clear hb1 e0 e1 e2 e3 e4 e5 e6 e7 e8 e9 f0 f1 f2 f3 f4 f5 f6 f7 f8 f9 m0 m1 n0 n1 q0 q1 r0 r1
                  go_wp2_with fail
                  refine (awake_any _).mono ?_
                  rintro e w9 ⟨rfl, hb1⟩
                  have hB := (HU.out.call hb1).below
                  clear HU hb1
                  go_wp2_with fail
                  go_ret
                  exact ⟨rfl, hB⟩
                · have g1 : (xe != 0) = true := by simpa using hxe
                  have g2 : (xe == 0) = false := by simpa using hxe
                  clear hxe HXT
                  go_wp2_with fail
                  refine (awake_any _).mono ?_
                  rintro e w9 ⟨rfl, hb1⟩
                  have hB := (HU.out.call hb1).below
                  clear HU hb1
                  go_wp2_with fail
                  go_ret
                  exact ⟨rfl, hB⟩
end Go.Proofs.Ytoiggflhfbfiiaa
