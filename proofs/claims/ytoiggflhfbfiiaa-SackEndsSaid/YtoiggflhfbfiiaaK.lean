/- Weigh: the walk. -/
import Derived.Test.YtoiggflhfbfiiaaJ
namespace Go.Proofs.Ytoiggflhfbfiiaa
open Go.RowKit Go.Shelf


theorem ri5 (k : Nat) (hk : k < 5) (w : World) : (Instr.index 71 (.agg #[partV 0, partV 1, partV 2, partV 3, partV 4]) (.int .i64 (k : Int))).run Try.prog w = .ok (partV k) w := by
  have h0 : ∀ w, (Instr.index 71 (.agg #[partV 0, partV 1, partV 2, partV 3, partV 4]) (.int .i64 ((0 : Nat) : Int))).run Try.prog w = .ok (partV 0) w := fun w => by kernel_rfl
  have h1 : ∀ w, (Instr.index 71 (.agg #[partV 0, partV 1, partV 2, partV 3, partV 4]) (.int .i64 ((1 : Nat) : Int))).run Try.prog w = .ok (partV 1) w := fun w => by kernel_rfl
  have h2 : ∀ w, (Instr.index 71 (.agg #[partV 0, partV 1, partV 2, partV 3, partV 4]) (.int .i64 ((2 : Nat) : Int))).run Try.prog w = .ok (partV 2) w := fun w => by kernel_rfl
  have h3 : ∀ w, (Instr.index 71 (.agg #[partV 0, partV 1, partV 2, partV 3, partV 4]) (.int .i64 ((3 : Nat) : Int))).run Try.prog w = .ok (partV 3) w := fun w => by kernel_rfl
  have h4 : ∀ w, (Instr.index 71 (.agg #[partV 0, partV 1, partV 2, partV 3, partV 4]) (.int .i64 ((4 : Nat) : Int))).run Try.prog w = .ok (partV 4) w := fun w => by kernel_rfl
  have h : k = 0 ∨ k = 1 ∨ k = 2 ∨ k = 3 ∨ k = 4 := by omega
  rcases h with rfl | rfl | rfl | rfl | rfl
  · exact h0 w
  · exact h1 w
  · exact h2 w
  · exact h3 w
  · exact h4 w

/-- The five spans of which the first k have been found. -/
def spansTo (f : Nat → Span) (k : Nat) : Array Value := Array.ofFn (n := 10) fun j => if j.1 / 2 < k then .int .i64 (if j.1 % 2 = 0 then (f (j.1 / 2)).lo else (f (j.1 / 2)).hi) else .int .i64 0
theorem spansTo_next (f : Nat → Span) (k : Nat) (hk : k < 5) : ((spansTo f k).setIfInBounds (k * 2) (.int .i64 (f k).lo)).setIfInBounds (k * 2 + 1) (.int .i64 (f k).hi) = spansTo f (k + 1) := by
  have h : k = 0 ∨ k = 1 ∨ k = 2 ∨ k = 3 ∨ k = 4 := by omega
  rcases h with rfl | rfl | rfl | rfl | rfl <;> rfl

set_option maxRecDepth 100000 in
set_option maxHeartbeats 2000000 in
theorem weigh_no (w : World) (A T : Option Addr) (c d : Nat) (l : List Sack) (b : List Take) (hl : l.length ≤ 100) (hb : b.length ≤ 100) (hA : SackSl w w.heap.size A l) (hT : TakeSl w w.heap.size T b) (hv : validB l b = false) :
    Calls Try.prog 11 #[.slice A l.length c, .slice T b.length d] w (Ret (.tuple #[.agg #[.int .i64 0, .int .i64 0, .int .i64 0, .int .i64 0, .int .i64 0, .int .i64 0, .int .i64 0, .int .i64 0, .int .i64 0, .int .i64 0], .int .i64 1]) w) := by
  have h0 := (Below.refl w.heap.size w).alloc (Nat.le_refl _) (.cells #[.int .i64 0, .int .i64 0, .int .i64 0, .int .i64 0, .int .i64 0, .int .i64 0, .int .i64 0, .int .i64 0, .int .i64 0, .int .i64 0] 29)
  have HB0 := Lib.hid (Blk.new w 29 #[.int .i64 0, .int .i64 0, .int .i64 0, .int .i64 0, .int .i64 0, .int .i64 0, .int .i64 0, .int .i64 0, .int .i64 0, .int .i64 0])
  have HA := Lib.hid ((hA.below h0).more h0.size)
  have HT := Lib.hid ((hT.below h0).more h0.size)
  have H0 := Lib.hid h0
  clear hA hT h0
  go_enter Try.func11, Try.ntmps11
  go_wp2_with (first | (go_at_call 30; refine (valid_any _ _ _ _ _ _ _ hl hb HA.out HT.out).mono ?_; rintro e w1 ⟨rfl, hb1⟩; have hB1 := H0.out.trans (hb1.mono H0.out.size); have B0 := Lib.hid (HB0.out.below hb1 HB0.out.lt); clear hb1) | (refine wpList_store_row rfl 29 (.tmp 4) (.tmp 14) rfl w.heap.size #[.int .i64 0, .int .i64 0, .int .i64 0, .int .i64 0, .int .i64 0, .int .i64 0, .int .i64 0, .int .i64 0, .int .i64 0, .int .i64 0] rfl rfl 29 _ B0.out (by kernel_rfl) rfl (by kernel_rfl) ?_; have B1 := Lib.hid (B0.out.row #[.int .i64 0, .int .i64 0, .int .i64 0, .int .i64 0, .int .i64 0, .int .i64 0, .int .i64 0, .int .i64 0, .int .i64 0, .int .i64 0]); have hB2 := below_setRow hB1 (Nat.le_refl _) #[.int .i64 0, .int .i64 0, .int .i64 0, .int .i64 0, .int .i64 0, .int .i64 0, .int .i64 0, .int .i64 0, .int .i64 0, .int .i64 0]; clear hB1))
  exact bodyPost_ret (results_blk_tmp rfl _ rfl B1.out (by kernel_rfl) (by kernel_rfl)) rfl ⟨rfl, hB2⟩

theorem spansTo_at (f : Nat → Span) (k : Nat) (hk : k < 5) : (spansTo f k)[k * 2]? = some (.int .i64 0) ∧ (spansTo f k)[k * 2 + 1]? = some (.int .i64 0) := by
  have h : k = 0 ∨ k = 1 ∨ k = 2 ∨ k = 3 ∨ k = 4 := by omega
  rcases h with rfl | rfl | rfl | rfl | rfl <;> exact ⟨rfl, rfl⟩
def spanZ : Array Value := #[.int .i64 0, .int .i64 0, .int .i64 0, .int .i64 0, .int .i64 0, .int .i64 0, .int .i64 0, .int .i64 0, .int .i64 0, .int .i64 0]

/-- What is kept in the loop over the five parts. -/
structure WeighS (w : World) (S2 : Nat) (A : Option Addr) (hs : List Held) (f : Nat → Span) (k : Nat) (W : World) : Prop where
  b0 : Blk W w.heap.size 29 spanZ
  b2 : Blk W S2 68 (spansTo f k)
  ad : AdSl W S2 A hs
  below : Below w.heap.size w W

theorem WeighS.call {w : World} {S2 : Nat} {A : Option Addr} {hs : List Held} {f : Nat → Span} {k : Nat} {W W' : World} (h : WeighS w S2 A hs f k W) (hb : Below W.heap.size W W') : WeighS w S2 A hs f k W' :=
  ⟨h.b0.below hb h.b0.lt, h.b2.below hb h.b2.lt, h.ad.below (hb.mono (Nat.le_of_lt h.b2.lt)), h.below.trans (hb.mono h.below.size)⟩
theorem WeighS.next {w : World} {S2 : Nat} {A : Option Addr} {hs : List Held} {f : Nat → Span} {k : Nat} {W : World} (h : WeighS w S2 A hs f k W) (hne : w.heap.size ≠ S2) (hle : w.heap.size ≤ S2) (hk : k < 5) {a b : Int} (ha : a = (f k).lo) (hb : b = (f k).hi) :
    WeighS w S2 A hs f (k + 1) ((W.setCell ⟨S2, k * 2, none⟩ (.int .i64 a)).setCell ⟨S2, k * 2 + 1, none⟩ (.int .i64 b)) := by
  subst ha hb
  refine ⟨(h.b0.far (p := ⟨S2, k * 2, none⟩) hne _).far (p := ⟨S2, k * 2 + 1, none⟩) hne _, ?_, ?_, ?_⟩
  · rw [← spansTo_next f k hk]
    exact (h.b2.set_ _ _).set_ _ _
  · exact h.ad.below (((Below.refl S2 W).setCell (p := ⟨S2, k * 2, none⟩) (Nat.le_refl _) _).setCell (p := ⟨S2, k * 2 + 1, none⟩) (Nat.le_refl _) _)
  · exact (h.below.setCell (p := ⟨S2, k * 2, none⟩) hle _).setCell (p := ⟨S2, k * 2 + 1, none⟩) hle _

set_option maxRecDepth 100000 in
set_option maxHeartbeats 4000000 in
theorem weigh_yes (w : World) (A T : Option Addr) (c d : Nat) (l : List Sack) (b : List Take) (hl : l.length ≤ 100) (hb : b.length ≤ 100) (hA : SackSl w w.heap.size A l) (hT : TakeSl w w.heap.size T b) (hv : validB l b = true) :
    Calls Try.prog 11 #[.slice A l.length c, .slice T b.length d] w (Ret (.tuple #[.agg (spansTo (partOf l b) 5), .int .i64 0]) w) := by
  have h0 := (Below.refl w.heap.size w).alloc (Nat.le_refl _) (.cells #[.int .i64 0, .int .i64 0, .int .i64 0, .int .i64 0, .int .i64 0, .int .i64 0, .int .i64 0, .int .i64 0, .int .i64 0, .int .i64 0] 29)
  have HB0 := Lib.hid (Blk.new w 29 #[.int .i64 0, .int .i64 0, .int .i64 0, .int .i64 0, .int .i64 0, .int .i64 0, .int .i64 0, .int .i64 0, .int .i64 0, .int .i64 0])
  have HA := Lib.hid ((hA.below h0).more h0.size)
  have HT := Lib.hid ((hT.below h0).more h0.size)
  have H0 := Lib.hid h0
  have hbl := (validB_len hv).1
  have HV := Lib.hid (validB_take hv)
  have HO := Lib.hid (helds_ok hv)
  have HL := Lib.hid (helds_len hv)
  have HGL := Lib.hid (gather_len l b).1
  clear hA hT h0
  go_enter Try.func11, Try.ntmps11
  go_wp2_with fail
  refine (valid_any _ _ _ _ _ _ _ hl hb HA.out HT.out).mono ?_
  rintro e w1 ⟨rfl, hb1⟩
  rw [hv]
  replace HA := Lib.hid ((HA.out.below hb1).more hb1.size)
  replace HT := Lib.hid ((HT.out.below hb1).more hb1.size)
  have B0 := Lib.hid (HB0.out.below hb1 HB0.out.lt)
  have hB1 := H0.out.trans (hb1.mono H0.out.size)
  clear hb1 HB0 H0
  go_wp2_with fail
  refine (gather_any _ _ _ _ _ _ _ hl hb (by omega) HA.out HT.out HV.out).mono ?_
  rintro e w2 ⟨r, rfl, hm, hr, hb2⟩
  replace B0 := Lib.hid (B0.out.below hb2 B0.out.lt)
  have hB2 := hB1.trans (hb2.mono hB1.size)
  clear hb2 hB1 HA HT
  go_wp2_with fail
  refine (whatAdds_any _ r _ hm (by have := HGL.out; omega)).mono ?_
  rintro e w3 ⟨v, hs, rfl, had, hp, hb3⟩
  replace B0 := Lib.hid (B0.out.below hb3 B0.out.lt)
  have hB3 := hB2.trans (hb3.mono hB2.size)
  have HLEN : Hid (hs.length = (heldsOf l b).length) := by show _ = _; rw [hp.length_eq]; rfl
  obtain ⟨A3, c3, rfl, had3⟩ := AdSl.of_own had (by have := HL.out; have := HLEN.out; omega)
  have HP := Lib.hid hp
  clear hb3 hB2 hm hr hp had
  go_wp2_with fail
  have hB4 := hB3.alloc hB3.size (.cells #[.int .i64 0, .int .i64 0, .int .i64 0, .int .i64 0, .int .i64 0, .int .i64 0, .int .i64 0, .int .i64 0, .int .i64 0, .int .i64 0] 68)
  have B4 := Lib.hid (B0.out.alloc (.cells #[.int .i64 0, .int .i64 0, .int .i64 0, .int .i64 0, .int .i64 0, .int .i64 0, .int .i64 0, .int .i64 0, .int .i64 0, .int .i64 0] 68))
  have S4 := Lib.hid (Blk.new w3 68 #[.int .i64 0, .int .i64 0, .int .i64 0, .int .i64 0, .int .i64 0, .int .i64 0, .int .i64 0, .int .i64 0, .int .i64 0, .int .i64 0])
  have A4 := Lib.hid (had3.below ((Below.refl _ w3).alloc (Nat.le_refl _) (.cells #[.int .i64 0, .int .i64 0, .int .i64 0, .int .i64 0, .int .i64 0, .int .i64 0, .int .i64 0, .int .i64 0, .int .i64 0, .int .i64 0] 68)))
  refine (parts_any _).mono ?_
  rintro e w4 ⟨rfl, hb4⟩
  have hS : WeighS w w3.heap.size A3 hs (partOf l b) 0 w4 := ⟨B4.out.below hb4 B4.out.lt, S4.out.below hb4 S4.out.lt, A4.out.below (hb4.mono (by simp)), hB4.trans (hb4.mono hB4.size)⟩
  have hne : w.heap.size ≠ w3.heap.size := by have := B0.out.lt; omega
  have hle : w.heap.size ≤ w3.heap.size := hB3.size
  clear hb4 B4 S4 A4 hB4 hB3 had3 B0
  have HOK : Hid (∀ h ∈ hs, h.ok) := fun h hh => HO.out h (HP.out.mem_iff.1 hh)
  have HF : Hid (∀ k, k < 5 → gramsOf (together hs (partG k)) = partOf l b k) := fun k _ => by unfold partOf heldsOf; rw [together_perm HP.out]
  have h8 : hs.length ≤ 8 := by have := HL.out; have := HLEN.out; omega
  clear HP HO HL HGL HV HLEN
  go_wp2_with fail
  go_loopw [20] (fun i wr => ∃ k : Nat, k ≤ 5 ∧ i = .int .i64 k ∧ WeighS w w3.heap.size A3 hs (partOf l b) k wr) (fun i _ => 5 - (intOf i).toNat)
  case atStart => exact ⟨0, by omega, rfl, hS⟩
  case round =>
    clear hS
    obtain ⟨k, hk, rfl, hS⟩ := hrel
    by_cases hlt : k < 5
    · have hix := fun W => ri5 k hlt W
      have hM := isMeas_part wr wr.heap.size k
      have hgb := partG_bd k
      have hF := HF.out k hlt
      generalize partV k = pv at hix hM
      generalize partG k = pg at hM hgb hF
      simp only [partV] at hix
      have hbd := together_bd (by omega) hgb hs HOK.out
      have HT := Lib.hid (together_any wr A3 c3 hs pv pg (hS.ad.more (Nat.le_of_lt hS.b2.lt)) hM HOK.out h8 hgb)
      have HFk := Lib.hid hF
      clear hM hgb hF
      generalize together hs pg = rr at hbd HT HFk
      have hSA := spansTo_at (partOf l b) k hlt
      go_wp2_with fail
      refine HT.out.mono ?_
      rintro e v1 ⟨rfl, hb1⟩
      have hS1 := hS.call hb1
      clear hb1 hS
      go_wp2_with fail
      refine (grams_any _ _ _ (by omega) (by omega) (by omega) (by omega)).mono ?_
      rintro e v2 ⟨rfl, hb2⟩
      have hS2 := hS1.call hb2
      have c0 := (hS2.b2.cell (k * 2)).trans hSA.1
      have c1 := (hS2.b2.cell (k * 2 + 1)).trans hSA.2
      have f0 := hS2.b2.frozen (k * 2)
      have f1 := hS2.b2.frozen (k * 2 + 1)
      have HS := Lib.hid hS2
      clear hb2 hS1 hS2 hSA hbd hix
      go_wp2_with fail
      go_roundw
      case rel =>
        have hg : gramsOf rr = partOf l b k := HFk.out
        refine ⟨k + 1, by omega, by go_num, HS.out.next hne hle hlt ?_ ?_⟩
        · rw [← hg]; rfl
        · rw [← hg]; rfl
      case measure => simp [intOf]; omega
    · obtain rfl : k = 5 := by omega
      have hS2 := hS.b2
      have d0 := (hS2.cell 0).trans (show _ = some (Value.int .i64 (partOf l b 0).lo) from rfl)
      have d1 := (hS2.cell 1).trans (show _ = some (Value.int .i64 (partOf l b 0).hi) from rfl)
      have d2 := (hS2.cell 2).trans (show _ = some (Value.int .i64 (partOf l b 1).lo) from rfl)
      have d3 := (hS2.cell 3).trans (show _ = some (Value.int .i64 (partOf l b 1).hi) from rfl)
      have d4 := (hS2.cell 4).trans (show _ = some (Value.int .i64 (partOf l b 2).lo) from rfl)
      have d5 := (hS2.cell 5).trans (show _ = some (Value.int .i64 (partOf l b 2).hi) from rfl)
      have d6 := (hS2.cell 6).trans (show _ = some (Value.int .i64 (partOf l b 3).lo) from rfl)
      have d7 := (hS2.cell 7).trans (show _ = some (Value.int .i64 (partOf l b 3).hi) from rfl)
      have d8 := (hS2.cell 8).trans (show _ = some (Value.int .i64 (partOf l b 4).lo) from rfl)
      have d9 := (hS2.cell 9).trans (show _ = some (Value.int .i64 (partOf l b 4).hi) from rfl)
      have HS := Lib.hid hS
      clear hS hS2
      go_wp2_with (refine wpList_store_row rfl 29 (.tmp 4) (.tmp 41) rfl w.heap.size (spansTo (partOf l b) 5) rfl rfl 29 _ HS.out.b0 (by kernel_rfl) rfl (by kernel_rfl) ?_; have B1 := Lib.hid (HS.out.b0.row (spansTo (partOf l b) 5)); have hB2 := below_setRow HS.out.below (Nat.le_refl _) (spansTo (partOf l b) 5))
      exact bodyPost_ret (results_blk_tmp rfl _ rfl B1.out (by kernel_rfl) (by kernel_rfl)) rfl ⟨rfl, hB2⟩
end Go.Proofs.Ytoiggflhfbfiiaa
