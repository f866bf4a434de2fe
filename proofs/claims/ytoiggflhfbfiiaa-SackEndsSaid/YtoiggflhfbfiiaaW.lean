/- Water: the walk. -/
import Derived.Test.YtoiggflhfbfiiaaM
import Derived.Deep.DeepCutAuto
namespace Go.Proofs.Ytoiggflhfbfiiaa
open Go.RowKit Go.Shelf

theorem waterLack_bd' (n : Int) (h0 : 0 ≤ n) (h1 : n ≤ 1000) : ∀ t : St, t.ok → -800000000000000000 ≤ waterLack n t ∧ waterLack n t ≤ 800000000000000000 := fun _ h => by
  have := waterLack_bd h h0 h1; omega

/-- together of what lacks, in the world that the maker of the function value leaves. -/
theorem lack_call (w : World) (A : Option Addr) (c : Nat) (hs : List Held) (n : Int) (hA : AdSl w w.heap.size A hs) (hok : ∀ h ∈ hs, h.ok) (hl : hs.length ≤ 8) (h0 : 0 ≤ n) (h1 : n ≤ 1000) :
    Calls Try.prog 34 #[.slice A hs.length c, .func (.func 67) #[] #[.pointer (some ⟨w.heap.size, 0, none⟩)]] (w.alloc (.cells #[.int .i64 n] 3)).drew
      (Ret (.agg #[.int .i64 (together hs (waterLack n)).least, .int .i64 (together hs (waterLack n)).most]) w) := by
  have hb : Below w.heap.size w (w.alloc (.cells #[.int .i64 n] 3)).drew := ((Below.refl _ _).alloc (Nat.le_refl _) _).drew
  have hq : (w.alloc (.cells #[.int .i64 n] 3)).drew.cell? ⟨w.heap.size, 0, none⟩ = some (.int .i64 n) := (Blk.new w 3 #[.int .i64 n]).cell 0
  refine (together_any _ A c hs _ (waterLack n) ((hA.below hb).more hb.size) (isMeas_lack _ w.heap.size n h0 h1 hq (by simp)) hok hl (waterLack_bd' n h0 h1)).mono ?_
  rintro e w' ⟨he, hb'⟩
  exact ⟨he, hb.trans (hb'.mono hb.size)⟩

structure WatS (w : World) (wl wh : Int) (A : Option Addr) (hs : List Held) (W : World) : Prop where
  b0 : Blk W w.heap.size 25 #[.int .i64 wl, .int .i64 wh]
  b1 : Blk W (w.heap.size + 1) 25 #[.int .i64 0, .int .i64 0]
  ad : AdSl W W.heap.size A hs
  below : Below w.heap.size w W
theorem WatS.call {w : World} {wl wh : Int} {A : Option Addr} {hs : List Held} {W W' : World} (h : WatS w wl wh A hs W) (hb : Below W.heap.size W W') : WatS w wl wh A hs W' :=
  ⟨h.b0.below hb h.b0.lt, h.b1.below hb h.b1.lt, (h.ad.below hb).more hb.size, h.below.trans (hb.mono h.below.size)⟩

def numV (a b : Int) : Value := if a ≤ b then .tuple #[.agg #[.int .i64 a, .int .i64 b], .int .i64 0] else .tuple #[.agg #[.int .i64 0, .int .i64 0], .int .i64 4]
theorem ret_num {a b x y : Int} (ha : a = x) (hb : b = y) (h : x ≤ y) : Ending.returned (.tuple #[.agg #[.int .i64 a, .int .i64 b], .int .i64 0]) = Ending.returned (numV x y) := by
  subst ha hb; rw [numV, if_pos h]
theorem ret_none {x y : Int} (h : ¬ x ≤ y) : Ending.returned (.tuple #[.agg #[.int .i64 0, .int .i64 0], .int .i64 4]) = Ending.returned (numV x y) := by
  rw [numV, if_neg h]
def waterLo (hs : List Held) (wl : Int) : Int := cdiv (together hs (waterLack wl)).most (1000 - wl)
def waterHi (hs : List Held) (wh : Int) : Int := (together hs (waterLack wh)).least / (1000 - wh)

set_option maxRecDepth 100000 in
set_option maxHeartbeats 4000000 in
theorem water_yes (w : World) (A T : Option Addr) (c d : Nat) (l : List Sack) (b : List Take) (wl wh : Int) (hl : l.length ≤ 100) (hb : b.length ≤ 100) (hA : SackSl w w.heap.size A l) (hT : TakeSl w w.heap.size T b) (hv : validB l b = true)
    (hw : withinB ⟨wl, wh⟩ 0 999 = true) :
    Calls Try.prog 15 #[.slice A l.length c, .slice T b.length d, .agg #[.int .i64 wl, .int .i64 wh]] w (Ret (numV (max (waterLo (heldsOf l b) wl) 0) (min (waterHi (heldsOf l b) wh) 1073741824)) w) := by
  have h0 : Below w.heap.size w ((w.alloc (.cells #[.int .i64 wl, .int .i64 wh] 25)).alloc (.cells #[.int .i64 0, .int .i64 0] 25)) := by repeat (first | exact Below.refl _ _ | assumption | refine Below.drew ?_ | refine Below.alloc ?_ (by first | omega | (simp only [World.size_alloc]; omega) | simp) _ | refine Below.setCell ?_ (by first | omega | (simp only [World.size_alloc]; omega) | simp) _)
  have HB0 := Lib.hid ((Blk.new w 25 #[.int .i64 wl, .int .i64 wh]).alloc (.cells #[.int .i64 0, .int .i64 0] 25))
  have hB1' := Blk.new (w.alloc (.cells #[.int .i64 wl, .int .i64 wh] 25)) 25 #[.int .i64 0, .int .i64 0]
  rw [World.size_alloc] at hB1'
  have HB1 := Lib.hid hB1'
  have HA := Lib.hid ((hA.below h0).more h0.size)
  have HT := Lib.hid ((hT.below h0).more h0.size)
  have H0 := Lib.hid h0
  have hbl := (validB_len hv).1
  have HV := Lib.hid (validB_take hv)
  have HO := Lib.hid (helds_ok hv)
  have HL := Lib.hid (helds_len hv)
  have HGL := Lib.hid (gather_len l b).1
  have hwb := withinB_iff.1 hw
  obtain ⟨hw1, hw2, hw3⟩ := hwb
  simp only at hw1 hw2 hw3
  clear hA hT h0 hB1'
  go_enter Try.func15, Try.ntmps15
  go_wp2_with fail
  refine (valid_any _ _ _ _ _ _ _ hl hb HA.out HT.out).mono ?_
  rintro e w1 ⟨rfl, hb1⟩
  rw [hv]
  replace HA := Lib.hid ((HA.out.below hb1).more hb1.size)
  replace HT := Lib.hid ((HT.out.below hb1).more hb1.size)
  have B0 := Lib.hid (HB0.out.below hb1 HB0.out.lt)
  have B1 := Lib.hid (HB1.out.below hb1 HB1.out.lt)
  have hB1 := H0.out.trans (hb1.mono H0.out.size)
  have c0 := B0.out.cell 0
  have c1 := B0.out.cell 1
  clear hb1 HB0 H0 HB1
  go_wp2_with fail
  refine (within_any _ _ _ _ _).mono ?_
  rintro e w1' ⟨rfl, hb1⟩
  rw [hw]
  replace HA := Lib.hid ((HA.out.below hb1).more hb1.size)
  replace HT := Lib.hid ((HT.out.below hb1).more hb1.size)
  replace B0 := Lib.hid (B0.out.below hb1 B0.out.lt)
  replace B1 := Lib.hid (B1.out.below hb1 B1.out.lt)
  replace hB1 := hB1.trans (hb1.mono hB1.size)
  clear hb1 c0 c1
  go_wp2_with fail
  refine (gather_any _ _ _ _ _ _ _ hl hb (by omega) HA.out HT.out HV.out).mono ?_
  rintro e w2 ⟨r, rfl, hm, hr, hb2⟩
  replace B0 := Lib.hid (B0.out.below hb2 B0.out.lt)
  replace B1 := Lib.hid (B1.out.below hb2 B1.out.lt)
  have hB2 := hB1.trans (hb2.mono hB1.size)
  clear hb2 hB1 HA HT
  go_wp2_with fail
  refine (whatAdds_any _ r _ hm (by have := HGL.out; omega)).mono ?_
  rintro e w3 ⟨v, hs, rfl, had, hp, hb3⟩
  replace B0 := Lib.hid (B0.out.below hb3 B0.out.lt)
  replace B1 := Lib.hid (B1.out.below hb3 B1.out.lt)
  have hB3 := hB2.trans (hb3.mono hB2.size)
  have HLEN : Hid (hs.length = (heldsOf l b).length) := by show _ = _; rw [hp.length_eq]; rfl
  obtain ⟨A3, c3, rfl, had3⟩ := AdSl.of_own had (by have := HL.out; have := HLEN.out; omega)
  have HF : Hid (∀ g, together (heldsOf l b) g = together hs g) := fun g => (together_perm (l := hs) (l' := heldsOf l b) hp).symm
  have HOK : Hid (∀ h ∈ hs, h.ok) := fun h hh => HO.out h (hp.mem_iff.1 hh)
  have h8 : hs.length ≤ 8 := by have := HL.out; have := HLEN.out; omega
  have HS := Lib.hid (show WatS w wl wh A3 hs w3 from ⟨B0.out, B1.out, had3, hB3⟩)
  clear hb3 hB2 hm hr hp had HO HL HGL HV HLEN had3 B0 B1 hB3
  go_wp2_with fail
  go_cut [9] (fun s9 wx => s9 = .int .i64 (waterLo hs wl) ∧ Hid (WatS w wl wh A3 hs wx))
  case first =>
    have e0 := HS.out.b0.cell 0
    have HT := Lib.hid (lack_call w3 A3 c3 hs wl HS.out.ad HOK.out h8 hw1 (by omega))
    have hbd := together_bd (by omega) (waterLack_bd' wl hw1 (by omega)) hs HOK.out
    obtain ⟨-, -, r3, r4⟩ := hbd
    have HU : Hid (∀ W, Calls Try.prog 43 #[.int .i64 (together hs (waterLack wl)).most, .int .i64 (1000 - wl)] W fun e w' => e = .returned (.int .i64 (waterLo hs wl)) ∧ W = w') := fun W => up_any _ _ W (by omega) (by omega) (by omega)
    have hlt := HS.out.b0.lt
    have hf := fld1
    clear r3 r4
    have HW : IntKind.i64.wrap (1000 - wl) = 1000 - wl := wr (by omega) (by omega)
    go_region_with (first | (go_at_call 44; refine (mkWaterLack _ _).mono ?_; rintro e w' ⟨rfl, rfl⟩) | (go_at_call 34; refine HT.out.mono ?_; rintro e w' ⟨rfl, hb'⟩; have e1 := (HS.out.call hb').b0.cell 0; have HB' := Lib.hid hb'; clear hb') | (go_at_call 43; refine (HU.out _).mono ?_; rintro e w' ⟨rfl, rfl⟩))
    all_goals go_wp2_with fail
    all_goals go_meet
    all_goals exact ⟨rfl, HS.out.call HB'.out⟩
  case rest =>
    obtain ⟨rfl, HS2⟩ := hcut
    clear HS
    go_wp2_with fail
    go_cut [10] (fun s10 wx => s10 = .int .i64 (waterHi hs wh) ∧ Hid (WatS w wl wh A3 hs wx))
    case first =>
      have e0 := HS2.out.b0.cell 1
      have HT := Lib.hid (lack_call wc A3 c3 hs wh HS2.out.ad HOK.out h8 (by omega) (by omega))
      have hbd := together_bd (by omega) (waterLack_bd' wh (by omega) (by omega)) hs HOK.out
      obtain ⟨r1, r2, -, -⟩ := hbd
      have HU : Hid (∀ W, Calls Try.prog 45 #[.int .i64 (together hs (waterLack wh)).least, .int .i64 (1000 - wh)] W fun e w' => e = .returned (.int .i64 (waterHi hs wh)) ∧ W = w') := fun W => down_any _ _ W (by omega) (by omega) (by omega)
      have hlt := HS2.out.b0.lt
      have hf := fld0
      clear r1 r2
      have HW : IntKind.i64.wrap (1000 - wh) = 1000 - wh := wr (by omega) (by omega)
      go_region_with (first | (go_at_call 44; refine (mkWaterLack _ _).mono ?_; rintro e w' ⟨rfl, rfl⟩) | (go_at_call 34; refine HT.out.mono ?_; rintro e w' ⟨rfl, hb'⟩; have e1 := (HS2.out.call hb').b0.cell 1; have HB' := Lib.hid hb'; clear hb') | (go_at_call 45; refine (HU.out _).mono ?_; rintro e w' ⟨rfl, rfl⟩))
      all_goals go_wp2_with fail
      all_goals go_meet
      all_goals exact ⟨rfl, HS2.out.call HB'.out⟩
    case rest =>
      obtain ⟨rfl, HS3⟩ := hcut
      clear HS2
      have HF1 : Hid (numV (max (waterLo (heldsOf l b) wl) 0) (min (waterHi (heldsOf l b) wh) 1073741824) = numV (max (waterLo hs wl) 0) (min (waterHi hs wh) 1073741824)) := by
        show _ = _
        simp only [waterLo, waterHi, HF.out]
      clear HF
      generalize waterLo hs wl = x at HF1 ⊢
      generalize waterHi hs wh = y at HF1 ⊢
      have hle : w.heap.size ≤ w.heap.size + 1 := by omega
      by_cases hxy : max x 0 ≤ min y 1073741824
      · go_wp2_with (first | (go_at_call 46; refine (numbers_ok _ _ _ (by omega)).mono ?_; rintro e w4 ⟨rfl, hb4⟩; have HS4 := HS3.out.call hb4; have hB4 := HS4.below; have B4 := Lib.hid HS4.b1; have l4 := B4.out.lt; clear hb4 HS4) | (refine wpList_store_row rfl 25 (.tmp 6) (.tmp 49) rfl (w.heap.size + 1) #[_, _] rfl rfl 25 _ B4.out (by kernel_rfl) rfl (by kernel_rfl) ?_))
        all_goals exact bodyPost_ret (results_blk_tmp rfl _ rfl (B4.out.row _) (by kernel_rfl) (by kernel_rfl)) rfl ⟨by rw [HF1.out]; exact ret_num (by omega) (by omega) hxy, below_setRow hB4 hle _⟩
      · go_wp2_with (first | (go_at_call 46; refine (numbers_no _ _ _ (by omega)).mono ?_; rintro e w4 ⟨rfl, hb4⟩; have HS4 := HS3.out.call hb4; have hB4 := HS4.below; have B4 := Lib.hid HS4.b1; have l4 := B4.out.lt; clear hb4 HS4) | (refine wpList_store_row rfl 25 (.tmp 6) (.tmp 49) rfl (w.heap.size + 1) #[_, _] rfl rfl 25 _ B4.out (by kernel_rfl) rfl (by kernel_rfl) ?_))
        all_goals exact bodyPost_ret (results_blk_tmp rfl _ rfl (B4.out.row _) (by kernel_rfl) (by kernel_rfl)) rfl ⟨by rw [HF1.out]; exact ret_none (by omega), below_setRow hB4 hle _⟩


set_option maxRecDepth 100000 in
set_option maxHeartbeats 4000000 in
theorem water_no (w : World) (A T : Option Addr) (c d : Nat) (l : List Sack) (b : List Take) (wl wh : Int) (hl : l.length ≤ 100) (hb : b.length ≤ 100) (hA : SackSl w w.heap.size A l) (hT : TakeSl w w.heap.size T b) (hv : validB l b = false) :
    Calls Try.prog 15 #[.slice A l.length c, .slice T b.length d, .agg #[.int .i64 wl, .int .i64 wh]] w (Ret (.tuple #[.agg #[.int .i64 0, .int .i64 0], .int .i64 1]) w) := by
  have h0 : Below w.heap.size w ((w.alloc (.cells #[.int .i64 wl, .int .i64 wh] 25)).alloc (.cells #[.int .i64 0, .int .i64 0] 25)) := (by repeat (first | exact Below.refl _ _ | assumption | refine Below.drew ?_ | refine Below.alloc ?_ (by first | omega | (simp only [World.size_alloc]; omega) | simp) _ | refine Below.setCell ?_ (by first | omega | (simp only [World.size_alloc]; omega) | simp) _)); have HB0 := Lib.hid ((Blk.new w 25 #[.int .i64 wl, .int .i64 wh]).alloc (.cells #[.int .i64 0, .int .i64 0] 25)); have hB1' := Blk.new (w.alloc (.cells #[.int .i64 wl, .int .i64 wh] 25)) 25 #[.int .i64 0, .int .i64 0]; rw [World.size_alloc] at hB1'; have HB1 := Lib.hid hB1'; have HA := Lib.hid ((hA.below h0).more h0.size); have HT := Lib.hid ((hT.below h0).more h0.size); have H0 := Lib.hid h0; clear hA hT h0 hB1'
  go_enter Try.func15, Try.ntmps15
  go_wp2_with fail
  refine (valid_any _ _ _ _ _ _ _ hl hb HA.out HT.out).mono ?_
  rintro e w1 ⟨rfl, hb1⟩
  rw [hv]
  have B1 := Lib.hid (HB1.out.below hb1 HB1.out.lt)
  have hB1 := H0.out.trans (hb1.mono H0.out.size)
  have hle : w.heap.size ≤ w.heap.size + 1 := by omega
  clear hb1 HB0 H0 HB1
  go_wp2_with (refine wpList_store_row rfl 25 (.tmp 6) (.tmp 15) rfl (w.heap.size + 1) #[.int .i64 0, .int .i64 0] rfl rfl 25 _ B1.out (by kernel_rfl) rfl (by kernel_rfl) ?_)
  exact bodyPost_ret (results_blk_tmp rfl _ rfl (B1.out.row _) (by kernel_rfl) (by kernel_rfl)) rfl ⟨rfl, below_setRow hB1 hle _⟩

set_option maxRecDepth 100000 in
set_option maxHeartbeats 4000000 in
theorem water_range (w : World) (A T : Option Addr) (c d : Nat) (l : List Sack) (b : List Take) (wl wh : Int) (hl : l.length ≤ 100) (hb : b.length ≤ 100) (hA : SackSl w w.heap.size A l) (hT : TakeSl w w.heap.size T b) (hv : validB l b = true)
    (hw : withinB ⟨wl, wh⟩ 0 999 = false) :
    Calls Try.prog 15 #[.slice A l.length c, .slice T b.length d, .agg #[.int .i64 wl, .int .i64 wh]] w (Ret (.tuple #[.agg #[.int .i64 0, .int .i64 0], .int .i64 2]) w) := by
  have h0 : Below w.heap.size w ((w.alloc (.cells #[.int .i64 wl, .int .i64 wh] 25)).alloc (.cells #[.int .i64 0, .int .i64 0] 25)) := (by repeat (first | exact Below.refl _ _ | assumption | refine Below.drew ?_ | refine Below.alloc ?_ (by first | omega | (simp only [World.size_alloc]; omega) | simp) _ | refine Below.setCell ?_ (by first | omega | (simp only [World.size_alloc]; omega) | simp) _)); have HB0 := Lib.hid ((Blk.new w 25 #[.int .i64 wl, .int .i64 wh]).alloc (.cells #[.int .i64 0, .int .i64 0] 25)); have hB1' := Blk.new (w.alloc (.cells #[.int .i64 wl, .int .i64 wh] 25)) 25 #[.int .i64 0, .int .i64 0]; rw [World.size_alloc] at hB1'; have HB1 := Lib.hid hB1'; have HA := Lib.hid ((hA.below h0).more h0.size); have HT := Lib.hid ((hT.below h0).more h0.size); have H0 := Lib.hid h0; clear hA hT h0 hB1'
  go_enter Try.func15, Try.ntmps15
  go_wp2_with fail
  refine (valid_any _ _ _ _ _ _ _ hl hb HA.out HT.out).mono ?_
  rintro e w1 ⟨rfl, hb1⟩
  rw [hv]
  have B0 := Lib.hid (HB0.out.below hb1 HB0.out.lt)
  have B1 := Lib.hid (HB1.out.below hb1 HB1.out.lt)
  have hB1 := H0.out.trans (hb1.mono H0.out.size)
  have hle : w.heap.size ≤ w.heap.size + 1 := by omega
  have c0 := B0.out.cell 0
  have c1 := B0.out.cell 1
  clear hb1 HB0 H0 HB1 B0
  go_wp2_with fail
  refine (within_any _ _ _ _ _).mono ?_
  rintro e w2 ⟨rfl, hb1⟩
  rw [hw]
  replace B1 := Lib.hid (B1.out.below hb1 B1.out.lt)
  replace hB1 := hB1.trans (hb1.mono hB1.size)
  clear hb1 c0 c1
  go_wp2_with (refine wpList_store_row rfl 25 (.tmp 6) (.tmp 19) rfl (w.heap.size + 1) #[.int .i64 0, .int .i64 0] rfl rfl 25 _ B1.out (by kernel_rfl) rfl (by kernel_rfl) ?_)
  exact bodyPost_ret (results_blk_tmp rfl _ rfl (B1.out.row _) (by kernel_rfl) (by kernel_rfl)) rfl ⟨rfl, below_setRow hB1 hle _⟩
end Go.Proofs.Ytoiggflhfbfiiaa
