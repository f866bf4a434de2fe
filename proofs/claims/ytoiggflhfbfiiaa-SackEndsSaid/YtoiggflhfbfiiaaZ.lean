/- The results that the document fixes: sample and awake. -/
import Derived.Test.YtoiggflhfbfiiaaY
namespace Go.Proofs.Ytoiggflhfbfiiaa
open Go.RowKit Go.Shelf

def sampleL : List Sack := [⟨⟨10, 20⟩, ⟨900, 950⟩, ⟨0, 0⟩⟩, ⟨⟨100, 150⟩, ⟨0, 0⟩, ⟨100, 120⟩⟩]
def sampleB : List Take := [⟨0, ⟨600, 600⟩⟩, ⟨1, ⟨500, 510⟩⟩]
def RetSample (w : World) (e : Ending) (w' : World) : Prop := ∃ A T ca cb, e = .returned (.tuple #[.slice A 2 ca, .slice T 2 cb]) ∧ SackSl w' w'.heap.size A sampleL ∧ TakeSl w' w'.heap.size T sampleB ∧ Below w.heap.size w w'

theorem large_any (A T : Option Addr) (n m c d : Nat) (w : World) (hn : n ≤ 9223372036854775807) (hm : m ≤ 9223372036854775807) :
    Calls Try.prog 9 #[.slice A n c, .slice T m d] w fun e w' => e = .returned (.bool (decide (12 < n ∨ 12 < m))) ∧ w = w' := by
  go_enter Try.func9, Try.ntmps9
  go_wp2
  all_goals go_ret
  all_goals exact ⟨ret_bool (by rw [Bool.eq_iff_iff]; simp; omega), rfl⟩

set_option maxRecDepth 100000 in
set_option maxHeartbeats 2000000 in
theorem sample_any (w : World) : Calls Try.prog 29 #[] w (RetSample w) := by
  go_enter Try.func29, Try.ntmps29
  go_wp2_with fail
  refine (span_any _ _ _).mono ?_
  rintro e u1 ⟨rfl, b1⟩
  have B1 : Below w.heap.size w u1 := b1
  clear b1
  go_wp2_with fail
  refine (span_any _ _ _).mono ?_
  rintro e u2 ⟨rfl, b2⟩
  have B2 : Below w.heap.size w u2 := B1.trans (b2.mono B1.size)
  clear b2 B1
  go_wp2_with fail
  refine (span_any _ _ _).mono ?_
  rintro e u3 ⟨rfl, b3⟩
  have B3 : Below w.heap.size w u3 := B2.trans (b3.mono B2.size)
  clear b3 B2
  go_wp2_with fail
  refine (span_any _ _ _).mono ?_
  rintro e u4 ⟨rfl, b4⟩
  have B4 : Below w.heap.size w u4 := B3.trans (b4.mono B3.size)
  clear b4 B3
  go_wp2_with fail
  have S4 := Lib.hid (Blk.new u4 57 #[.int .i64 10, .int .i64 20, .int .i64 900, .int .i64 950, .int .i64 0, .int .i64 0, .int .i64 100, .int .i64 150, .int .i64 0, .int .i64 0, .int .i64 100, .int .i64 120])
  have B4a := B4.alloc B4.size (.cells #[.int .i64 10, .int .i64 20, .int .i64 900, .int .i64 950, .int .i64 0, .int .i64 0, .int .i64 100, .int .i64 150, .int .i64 0, .int .i64 0, .int .i64 100, .int .i64 120] 57)
  refine (span_any _ _ _).mono ?_
  rintro e u5 ⟨rfl, b5⟩
  have S5 := Lib.hid (S4.out.below b5 S4.out.lt)
  have B5 : Below w.heap.size w u5 := B4a.trans (b5.mono B4a.size)
  clear b5 B4a S4
  go_wp2_with fail
  refine (span_any _ _ _).mono ?_
  rintro e u6 ⟨rfl, b6⟩
  have S6 := Lib.hid (S5.out.below b6 S5.out.lt)
  have B6 : Below w.heap.size w u6 := B5.trans (b6.mono B5.size)
  clear b6 B5 S5
  go_wp2_with fail
  have S7 := S6.out.alloc (.cells #[.int .i64 0, .int .i64 600, .int .i64 600, .int .i64 1, .int .i64 500, .int .i64 510] 51)
  have T7 := Blk.new u6 51 #[.int .i64 0, .int .i64 600, .int .i64 600, .int .i64 1, .int .i64 500, .int .i64 510]
  have B7 := B6.alloc B6.size (.cells #[.int .i64 0, .int .i64 600, .int .i64 600, .int .i64 1, .int .i64 500, .int .i64 510] 51)
  go_ret2
  refine ⟨_, _, 2, 2, rfl, fun _ => ⟨_, 0, rfl, S7.lt, fun i hi => ?_⟩, fun _ => ⟨_, 0, rfl, T7.lt, fun i hi => ?_⟩, B7⟩
  · have : i = 0 ∨ i = 1 := by simp [sampleL] at hi; omega
    rcases this with rfl | rfl
    · exact ⟨S7.cell 0, S7.cell 1, S7.cell 2, S7.cell 3, S7.cell 4, S7.cell 5⟩
    · exact ⟨S7.cell 6, S7.cell 7, S7.cell 8, S7.cell 9, S7.cell 10, S7.cell 11⟩
  · have : i = 0 ∨ i = 1 := by simp [sampleB] at hi; omega
    rcases this with rfl | rfl
    · exact ⟨T7.cell 0, T7.cell 1, T7.cell 2⟩
    · exact ⟨T7.cell 3, T7.cell 4, T7.cell 5⟩

def AwC (w : World) (p3 p5 p7 p9 : Nat) (W : World) : Prop := Below w.heap.size w W ∧ (p3 < W.heap.size ∧ p5 < W.heap.size ∧ p7 < W.heap.size ∧ p9 < W.heap.size) ∧ W.cell? ⟨p3, 0, none⟩ = some (.int .i64 56) ∧ W.cell? ⟨p3, 1, none⟩ = some (.int .i64 89) ∧ W.cell? ⟨p3, 2, none⟩ = some (.int .i64 529) ∧ W.cell? ⟨p3, 3, none⟩ = some (.int .i64 565) ∧ W.cell? ⟨p3, 4, none⟩ = some (.int .i64 42) ∧ W.cell? ⟨p3, 5, none⟩ = some (.int .i64 56) ∧ W.cell? ⟨p3, 6, none⟩ = some (.int .i64 403) ∧ W.cell? ⟨p3, 7, none⟩ = some (.int .i64 473) ∧ W.cell? ⟨p3, 8, none⟩ = some (.int .i64 962) ∧ W.cell? ⟨p3, 9, none⟩ = some (.int .i64 1008) ∧ W.cell? ⟨p5, 0, none⟩ = some (.int .i64 528) ∧ W.cell? ⟨p5, 1, none⟩ = some (.int .i64 583) ∧ W.cell? ⟨p7, 0, none⟩ = some (.int .i64 395) ∧ W.cell? ⟨p7, 1, none⟩ = some (.int .i64 588) ∧ W.cell? ⟨p9, 0, none⟩ = some (.int .i64 509) ∧ W.cell? ⟨p9, 1, none⟩ = some (.int .i64 564)
theorem AwC.drew {w : World} {p3 p5 p7 p9 : Nat} {W : World} (h : AwC w p3 p5 p7 p9 W) : AwC w p3 p5 p7 p9 W.drew := ⟨h.1.drew, h.2⟩
theorem AwC.call {w : World} {p3 p5 p7 p9 : Nat} {W W' : World} (hb : Below W.heap.size W W') (h : AwC w p3 p5 p7 p9 W) : AwC w p3 p5 p7 p9 W' := by
  obtain ⟨h0, ⟨l3, l5, l7, l9⟩, h1, h2, h3, h4, h5, h6, h7, h8, h9, h10, h11, h12, h13, h14, h15, h16⟩ := h
  have hs := hb.size
  exact ⟨h0.trans (hb.mono h0.size), ⟨by omega, by omega, by omega, by omega⟩, (hb.cell (p := ⟨p3, 0, none⟩) l3).trans h1, (hb.cell (p := ⟨p3, 1, none⟩) l3).trans h2, (hb.cell (p := ⟨p3, 2, none⟩) l3).trans h3, (hb.cell (p := ⟨p3, 3, none⟩) l3).trans h4, (hb.cell (p := ⟨p3, 4, none⟩) l3).trans h5, (hb.cell (p := ⟨p3, 5, none⟩) l3).trans h6, (hb.cell (p := ⟨p3, 6, none⟩) l3).trans h7, (hb.cell (p := ⟨p3, 7, none⟩) l3).trans h8, (hb.cell (p := ⟨p3, 8, none⟩) l3).trans h9, (hb.cell (p := ⟨p3, 9, none⟩) l3).trans h10, (hb.cell (p := ⟨p5, 0, none⟩) l5).trans h11, (hb.cell (p := ⟨p5, 1, none⟩) l5).trans h12, (hb.cell (p := ⟨p7, 0, none⟩) l7).trans h13, (hb.cell (p := ⟨p7, 1, none⟩) l7).trans h14, (hb.cell (p := ⟨p9, 0, none⟩) l9).trans h15, (hb.cell (p := ⟨p9, 1, none⟩) l9).trans h16⟩

theorem sampleValid : validB sampleL sampleB = true := by decide +kernel
theorem sampleParts : spansTo (partOf sampleL sampleB) 5 = #[.int .i64 56, .int .i64 89, .int .i64 529, .int .i64 565, .int .i64 42, .int .i64 56, .int .i64 403, .int .i64 473, .int .i64 962, .int .i64 1008] := by kernel_rfl
theorem sampleWater : numV (max (waterLo (heldsOf sampleL sampleB) 300) 0) (min (waterHi (heldsOf sampleL sampleB) 400) 1073741824) = .tuple #[.agg #[.int .i64 395, .int .i64 588], .int .i64 0] := by kernel_rfl
theorem sampleMix : mixV sampleL[0] sampleL[1] 1000 500 600 = .tuple #[.agg #[.int .i64 509, .int .i64 564], .int .i64 0] := by kernel_rfl
theorem sampleMix2 : mixV sampleL[0] sampleL[1] 1000 500 501 = .tuple #[.agg #[.int .i64 0, .int .i64 0], .int .i64 4] := by kernel_rfl
theorem sampleShare : shareOf (heldsOf sampleL sampleB) = ⟨528, 583⟩ := by
  have hok := helds_ok sampleValid
  have l0 : loP (heldsOf sampleL sampleB) 527 = false := by decide +kernel
  have l1 : loP (heldsOf sampleL sampleB) 528 = true := by decide +kernel
  have h0 : hiP (heldsOf sampleL sampleB) 582 = false := by decide +kernel
  have h1 : hiP (heldsOf sampleL sampleB) 583 = true := by decide +kernel
  unfold shareOf
  rw [firstOf_is (loP (heldsOf sampleL sampleB)) 1000 528 (by omega) (by omega) (fun x _ hx => by
      cases h : loP (heldsOf sampleL sampleB) x with
      | false => rfl
      | true => have := loP_mono hok (show x ≤ 527 by omega) h; rw [l0] at this; cases this) (fun _ => l1),
    firstOf_is (hiP (heldsOf sampleL sampleB)) 1000 583 (by omega) (by omega) (fun x _ hx => by
      cases h : hiP (heldsOf sampleL sampleB) x with
      | false => rfl
      | true => have := hiP_mono hok (show x ≤ 582 by omega) h; rw [h0] at this; cases this) (fun _ => h1)]

set_option maxRecDepth 100000 in
set_option maxHeartbeats 4000000 in
theorem awake_any (w : World) : Calls Try.prog 10 #[] w (Ret (.bool true) w) := by
  go_enter Try.func10, Try.ntmps10
  go_wp2_with fail
  refine (sample_any w).mono ?_
  rintro e w1 ⟨A, T, ca, cb, rfl, hA, hT, B1⟩
  have HA := Lib.hid hA
  have HT := Lib.hid hT
  clear hA hT
  go_wp2_with fail
  have hW := weigh_yes w1 A T ca cb sampleL sampleB (by decide) (by decide) HA.out HT.out sampleValid
  rw [sampleParts] at hW
  have HW := Lib.hid hW
  clear hW
  refine HW.out.mono ?_
  rintro e w2 ⟨rfl, hb⟩
  replace HA := Lib.hid ((HA.out.below hb).more hb.size)
  replace HT := Lib.hid ((HT.out.below hb).more hb.size)
  have B2 := B1.trans (hb.mono B1.size)
  clear hb HW B1
  go_wp2_with fail
  have X3 := Lib.hid (Blk.new w2 29 #[.int .i64 56, .int .i64 89, .int .i64 529, .int .i64 565, .int .i64 42, .int .i64 56, .int .i64 403, .int .i64 473, .int .i64 962, .int .i64 1008])
  replace HA := Lib.hid ((HA.out.below ((Below.refl _ w2).alloc (Nat.le_refl _) (.cells #[.int .i64 56, .int .i64 89, .int .i64 529, .int .i64 565, .int .i64 42, .int .i64 56, .int .i64 403, .int .i64 473, .int .i64 962, .int .i64 1008] 29))).more (B' := (w2.alloc (.cells #[.int .i64 56, .int .i64 89, .int .i64 529, .int .i64 565, .int .i64 42, .int .i64 56, .int .i64 403, .int .i64 473, .int .i64 962, .int .i64 1008] 29)).heap.size) (by simp))
  replace HT := Lib.hid ((HT.out.below ((Below.refl _ w2).alloc (Nat.le_refl _) (.cells #[.int .i64 56, .int .i64 89, .int .i64 529, .int .i64 565, .int .i64 42, .int .i64 56, .int .i64 403, .int .i64 473, .int .i64 962, .int .i64 1008] 29))).more (B' := (w2.alloc (.cells #[.int .i64 56, .int .i64 89, .int .i64 529, .int .i64 565, .int .i64 42, .int .i64 56, .int .i64 403, .int .i64 473, .int .i64 962, .int .i64 1008] 29)).heap.size) (by simp))
  have B2a := B2.alloc B2.size (.cells #[.int .i64 56, .int .i64 89, .int .i64 529, .int .i64 565, .int .i64 42, .int .i64 56, .int .i64 403, .int .i64 473, .int .i64 962, .int .i64 1008] 29)
  clear B2
  have hC := share_yes _ A T ca cb sampleL sampleB (by decide) (by decide) HA.out HT.out sampleValid
  rw [sampleShare] at hC
  refine hC.mono ?_
  rintro e w3 ⟨rfl, hb⟩
  replace HA := Lib.hid ((HA.out.below hb).more hb.size)
  replace HT := Lib.hid ((HT.out.below hb).more hb.size)
  replace X3 := Lib.hid (X3.out.below hb X3.out.lt)
  have B3 := B2a.trans (hb.mono B2a.size)
  clear hb B2a
  clear hC
  go_wp2_with fail
  have X5 := Lib.hid (Blk.new w3 25 #[.int .i64 528, .int .i64 583])
  replace HA := Lib.hid ((HA.out.below ((Below.refl _ w3).alloc (Nat.le_refl _) (.cells #[.int .i64 528, .int .i64 583] 25))).more (B' := (w3.alloc (.cells #[.int .i64 528, .int .i64 583] 25)).heap.size) (by simp))
  replace HT := Lib.hid ((HT.out.below ((Below.refl _ w3).alloc (Nat.le_refl _) (.cells #[.int .i64 528, .int .i64 583] 25))).more (B' := (w3.alloc (.cells #[.int .i64 528, .int .i64 583] 25)).heap.size) (by simp))
  replace X3 := Lib.hid (X3.out.alloc (.cells #[.int .i64 528, .int .i64 583] 25))
  have B3a := B3.alloc B3.size (.cells #[.int .i64 528, .int .i64 583] 25)
  clear B3
  refine (span_any _ _ _).mono ?_
  rintro e w4 ⟨rfl, hb⟩
  replace HA := Lib.hid ((HA.out.below hb).more hb.size)
  replace HT := Lib.hid ((HT.out.below hb).more hb.size)
  replace X3 := Lib.hid (X3.out.below hb X3.out.lt)
  replace X5 := Lib.hid (X5.out.below hb X5.out.lt)
  have B4 := B3a.trans (hb.mono B3a.size)
  clear hb B3a
  go_wp2_with fail
  have hC := water_yes _ A T ca cb sampleL sampleB 300 400 (by decide) (by decide) HA.out HT.out sampleValid (by decide)
  rw [sampleWater] at hC
  refine hC.mono ?_
  rintro e w5 ⟨rfl, hb⟩
  replace HA := Lib.hid ((HA.out.below hb).more hb.size)
  replace HT := Lib.hid ((HT.out.below hb).more hb.size)
  replace X3 := Lib.hid (X3.out.below hb X3.out.lt)
  replace X5 := Lib.hid (X5.out.below hb X5.out.lt)
  have B5 := B4.trans (hb.mono B4.size)
  clear hb B4
  clear hC
  go_wp2_with fail
  have X7 := Lib.hid (Blk.new w5 25 #[.int .i64 395, .int .i64 588])
  replace HA := Lib.hid ((HA.out.below ((Below.refl _ w5).alloc (Nat.le_refl _) (.cells #[.int .i64 395, .int .i64 588] 25))).more (B' := (w5.alloc (.cells #[.int .i64 395, .int .i64 588] 25)).heap.size) (by simp))
  replace HT := Lib.hid ((HT.out.below ((Below.refl _ w5).alloc (Nat.le_refl _) (.cells #[.int .i64 395, .int .i64 588] 25))).more (B' := (w5.alloc (.cells #[.int .i64 395, .int .i64 588] 25)).heap.size) (by simp))
  replace X3 := Lib.hid (X3.out.alloc (.cells #[.int .i64 395, .int .i64 588] 25))
  replace X5 := Lib.hid (X5.out.alloc (.cells #[.int .i64 395, .int .i64 588] 25))
  have B5a := B5.alloc B5.size (.cells #[.int .i64 395, .int .i64 588] 25)
  clear B5
  refine (span_any _ _ _).mono ?_
  rintro e w6 ⟨rfl, hb⟩
  replace HA := Lib.hid ((HA.out.below hb).more hb.size)
  replace HT := Lib.hid ((HT.out.below hb).more hb.size)
  replace X3 := Lib.hid (X3.out.below hb X3.out.lt)
  replace X5 := Lib.hid (X5.out.below hb X5.out.lt)
  replace X7 := Lib.hid (X7.out.below hb X7.out.lt)
  have B6 := B5a.trans (hb.mono B5a.size)
  clear hb B5a
  go_wp2_with fail
  have hC := mix_yes _ A ca sampleL 0 1 1000 500 600 (by decide) HA.out (by decide) (by decide) (by decide) (by decide) (by omega) (by omega) (by decide)
  rw [sampleMix] at hC
  refine hC.mono ?_
  rintro e w7 ⟨rfl, hb⟩
  replace HA := Lib.hid ((HA.out.below hb).more hb.size)
  replace HT := Lib.hid ((HT.out.below hb).more hb.size)
  replace X3 := Lib.hid (X3.out.below hb X3.out.lt)
  replace X5 := Lib.hid (X5.out.below hb X5.out.lt)
  replace X7 := Lib.hid (X7.out.below hb X7.out.lt)
  have B7 := B6.trans (hb.mono B6.size)
  clear hb B6
  clear hC
  go_wp2_with fail
  have X9 := Lib.hid (Blk.new w7 25 #[.int .i64 509, .int .i64 564])
  replace HA := Lib.hid ((HA.out.below ((Below.refl _ w7).alloc (Nat.le_refl _) (.cells #[.int .i64 509, .int .i64 564] 25))).more (B' := (w7.alloc (.cells #[.int .i64 509, .int .i64 564] 25)).heap.size) (by simp))
  replace HT := Lib.hid ((HT.out.below ((Below.refl _ w7).alloc (Nat.le_refl _) (.cells #[.int .i64 509, .int .i64 564] 25))).more (B' := (w7.alloc (.cells #[.int .i64 509, .int .i64 564] 25)).heap.size) (by simp))
  replace X3 := Lib.hid (X3.out.alloc (.cells #[.int .i64 509, .int .i64 564] 25))
  replace X5 := Lib.hid (X5.out.alloc (.cells #[.int .i64 509, .int .i64 564] 25))
  replace X7 := Lib.hid (X7.out.alloc (.cells #[.int .i64 509, .int .i64 564] 25))
  have B7a := B7.alloc B7.size (.cells #[.int .i64 509, .int .i64 564] 25)
  clear B7
  refine (span_any _ _ _).mono ?_
  rintro e w8 ⟨rfl, hb⟩
  replace HA := Lib.hid ((HA.out.below hb).more hb.size)
  replace HT := Lib.hid ((HT.out.below hb).more hb.size)
  replace X3 := Lib.hid (X3.out.below hb X3.out.lt)
  replace X5 := Lib.hid (X5.out.below hb X5.out.lt)
  replace X7 := Lib.hid (X7.out.below hb X7.out.lt)
  replace X9 := Lib.hid (X9.out.below hb X9.out.lt)
  have B8 := B7a.trans (hb.mono B7a.size)
  clear hb B7a
  go_wp2_with fail
  have hC := mix_yes _ A ca sampleL 0 1 1000 500 501 (by decide) HA.out (by decide) (by decide) (by decide) (by decide) (by omega) (by omega) (by decide)
  rw [sampleMix2] at hC
  refine hC.mono ?_
  rintro e w9 ⟨rfl, hb⟩
  replace HA := Lib.hid ((HA.out.below hb).more hb.size)
  replace HT := Lib.hid ((HT.out.below hb).more hb.size)
  replace X3 := Lib.hid (X3.out.below hb X3.out.lt)
  replace X5 := Lib.hid (X5.out.below hb X5.out.lt)
  replace X7 := Lib.hid (X7.out.below hb X7.out.lt)
  replace X9 := Lib.hid (X9.out.below hb X9.out.lt)
  have B9 := B8.trans (hb.mono B8.size)
  clear hb B8
  clear hC
  go_wp2_with fail
  have hA0 : AwC w w2.heap.size w3.heap.size w5.heap.size w7.heap.size w9 := ⟨B9, ⟨X3.out.lt, X5.out.lt, X7.out.lt, X9.out.lt⟩, X3.out.cell 0, X3.out.cell 1, X3.out.cell 2, X3.out.cell 3, X3.out.cell 4, X3.out.cell 5, X3.out.cell 6, X3.out.cell 7, X3.out.cell 8, X3.out.cell 9, X5.out.cell 0, X5.out.cell 1, X7.out.cell 0, X7.out.cell 1, X9.out.cell 0, X9.out.cell 1⟩
  have H0 := Lib.hid (AwC.call ((Below.refl _ w9).alloc (Nat.le_refl _) (.cells #[.int .i64 0, .int .i64 0] 25)) hA0)
  clear hA0 X3 X5 X7 X9 HA HT B9
  generalize World.alloc w9 _ = W0 at H0 ⊢
  generalize w2.heap.size = p3 at H0 ⊢
  generalize w3.heap.size = p5 at H0 ⊢
  generalize w5.heap.size = p7 at H0 ⊢
  generalize w7.heap.size = p9 at H0 ⊢
  go_region_held3 (fun W => Below w.heap.size w W ∧ (p3 < W.heap.size ∧ p5 < W.heap.size ∧ p7 < W.heap.size ∧ p9 < W.heap.size) ∧ W.cell? ⟨p3, 0, none⟩ = some (.int .i64 56) ∧ W.cell? ⟨p3, 1, none⟩ = some (.int .i64 89) ∧ W.cell? ⟨p3, 2, none⟩ = some (.int .i64 529) ∧ W.cell? ⟨p3, 3, none⟩ = some (.int .i64 565) ∧ W.cell? ⟨p3, 4, none⟩ = some (.int .i64 42) ∧ W.cell? ⟨p3, 5, none⟩ = some (.int .i64 56) ∧ W.cell? ⟨p3, 6, none⟩ = some (.int .i64 403) ∧ W.cell? ⟨p3, 7, none⟩ = some (.int .i64 473) ∧ W.cell? ⟨p3, 8, none⟩ = some (.int .i64 962) ∧ W.cell? ⟨p3, 9, none⟩ = some (.int .i64 1008) ∧ W.cell? ⟨p5, 0, none⟩ = some (.int .i64 528) ∧ W.cell? ⟨p5, 1, none⟩ = some (.int .i64 583) ∧ W.cell? ⟨p7, 0, none⟩ = some (.int .i64 395) ∧ W.cell? ⟨p7, 1, none⟩ = some (.int .i64 588) ∧ W.cell? ⟨p9, 0, none⟩ = some (.int .i64 509) ∧ W.cell? ⟨p9, 1, none⟩ = some (.int .i64 564))
    (first | exact H0.out.drew | (exact AwC.call (by assumption) (by assumption)) | go_keep)
    (first | (go_at_call 24; refine (span_any _ _ _).mono ?_; rintro e e' ⟨rfl, hb'⟩))
  all_goals (obtain ⟨hE, -⟩ : AwC w p3 p5 p7 p9 _ := by assumption)
  all_goals have HE := Lib.hid hE
  all_goals clear hE
  all_goals go_wp2
  all_goals go_ret
  all_goals exact ⟨rfl, HE.out⟩
end Go.Proofs.Ytoiggflhfbfiiaa
