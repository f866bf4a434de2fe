/- Walk of the reference's Water. -/
import Derived.Test.YtoiggflhfbfiiaaU7
namespace Go.Proofs.Ytoiggflhfbfiiaa
open Go.RowKit Go.Shelf

structure WatR (w : World) (wl wh : Int) (A T : Option Addr) (l : List Sack) (b : List Take) (W : World) : Prop where
  b0 : Blk W w.heap.size 25 #[.int .i64 wl, .int .i64 wh]
  b1 : Blk W (w.heap.size + 1) 25 #[.int .i64 0, .int .i64 0]
  sa : SackSl W W.heap.size A l
  ta : TakeSl W W.heap.size T b
  below : Below w.heap.size w W
theorem WatR.call {w : World} {wl wh : Int} {A T : Option Addr} {l : List Sack} {b : List Take} {W W' : World} (h : WatR w wl wh A T l b W) (hb : Below W.heap.size W W') : WatR w wl wh A T l b W' :=
  ⟨h.b0.below hb h.b0.lt, h.b1.below hb h.b1.lt, (h.sa.below hb).more hb.size, (h.ta.below hb).more hb.size, h.below.trans (hb.mono h.below.size)⟩
theorem WatR.new (w : World) (wl wh : Int) (A T : Option Addr) (l : List Sack) (b : List Take) (hA : SackSl w w.heap.size A l) (hT : TakeSl w w.heap.size T b) : WatR w wl wh A T l b ((w.alloc (.cells #[.int .i64 wl, .int .i64 wh] 25)).alloc (.cells #[.int .i64 0, .int .i64 0] 25)) := by
  have h0 : Below w.heap.size w ((w.alloc (.cells #[.int .i64 wl, .int .i64 wh] 25)).alloc (.cells #[.int .i64 0, .int .i64 0] 25)) := by repeat (first | exact Below.refl _ _ | assumption | refine Below.drew ?_ | refine Below.alloc ?_ (by first | omega | (simp only [World.size_alloc]; omega) | simp) _ | refine Below.setCell ?_ (by first | omega | (simp only [World.size_alloc]; omega) | simp) _)
  have hB1 := Blk.new (w.alloc (.cells #[.int .i64 wl, .int .i64 wh] 25)) 25 #[.int .i64 0, .int .i64 0]
  rw [World.size_alloc] at hB1
  exact ⟨(Blk.new w 25 #[.int .i64 wl, .int .i64 wh]).alloc (.cells #[.int .i64 0, .int .i64 0] 25), hB1, (hA.below h0).more h0.size, (hT.below h0).more h0.size, h0⟩

set_option maxRecDepth 100000 in
set_option maxHeartbeats 4000000 in
theorem rwater_no (w : World) (A T : Option Addr) (c d : Nat) (l : List Sack) (b : List Take) (wl wh : Int) (hl : l.length ≤ 12) (hb : b.length ≤ 12) (hA : SackSl w w.heap.size A l) (hT : TakeSl w w.heap.size T b) (hv : validB l b = false) :
    Calls Try.prog 16 #[.slice A l.length c, .slice T b.length d, .agg #[.int .i64 wl, .int .i64 wh]] w (Ret (.tuple #[.agg #[.int .i64 0, .int .i64 0], .int .i64 1]) w) := by
  have HV := Lib.hid hv
  clear hv
  cases hs : sacksOk l with
  | false =>
    have HS := Lib.hid hs
    clear hs
    have HX := Lib.hid (WatR.new w wl wh A T l b hA hT); (have hle : w.heap.size ≤ w.heap.size + 1 := by omega); clear hA hT; go_enter Try.func16, Try.ntmps16; go_wp2_with fail
    refine (rsacks_any _ A c l (by omega) HX.out.sa).mono ?_
    rw [HS.out]
    rintro e w1 ⟨rfl, hb1⟩
    replace HX := Lib.hid (HX.out.call hb1)
    clear hb1
    have hbx := HX.out.below
    go_wp2_with (refine wpList_store_row rfl 25 (.tmp 6) (.tmp 22) rfl (w.heap.size + 1) #[.int .i64 0, .int .i64 0] rfl rfl 25 _ HX.out.b1 (by kernel_rfl) rfl (by kernel_rfl) ?_)
    exact bodyPost_ret (results_blk_tmp rfl _ rfl (HX.out.b1.row _) (by kernel_rfl) (by kernel_rfl)) rfl ⟨rfl, below_setRow hbx hle _⟩
  | true =>
    have HS := Lib.hid hs
    have HB : Hid (batchB l b = false) := by
      have := HV.out
      rw [validB_split, hs] at this
      exact (by simpa using this : batchB l b = false)
    clear hs
    have HX := Lib.hid (WatR.new w wl wh A T l b hA hT); (have hle : w.heap.size ≤ w.heap.size + 1 := by omega); clear hA hT; go_enter Try.func16, Try.ntmps16; go_wp2_with fail
    refine (rsacks_any _ A c l (by omega) HX.out.sa).mono ?_
    rw [HS.out]
    rintro e v9 ⟨rfl, hb1⟩; replace HX := Lib.hid (HX.out.call hb1); clear hb1; go_wp2_with fail
    refine (rbatch_any _ A T c d l b (by omega) (by omega) HX.out.ta).mono ?_
    rw [HB.out]
    rintro e w2 ⟨rfl, hb1⟩
    replace HX := Lib.hid (HX.out.call hb1)
    clear hb1
    have hbx := HX.out.below
    go_wp2_with (refine wpList_store_row rfl 25 (.tmp 6) (.tmp 22) rfl (w.heap.size + 1) #[.int .i64 0, .int .i64 0] rfl rfl 25 _ HX.out.b1 (by kernel_rfl) rfl (by kernel_rfl) ?_)
    exact bodyPost_ret (results_blk_tmp rfl _ rfl (HX.out.b1.row _) (by kernel_rfl) (by kernel_rfl)) rfl ⟨rfl, below_setRow hbx hle _⟩

set_option maxRecDepth 100000 in
set_option maxHeartbeats 4000000 in
theorem rwater_range (w : World) (A T : Option Addr) (c d : Nat) (l : List Sack) (b : List Take) (wl wh : Int) (hA : SackSl w w.heap.size A l) (hT : TakeSl w w.heap.size T b) (hv : validB l b = true) (hw : withinB ⟨wl, wh⟩ 0 999 = false) :
    Calls Try.prog 16 #[.slice A l.length c, .slice T b.length d, .agg #[.int .i64 wl, .int .i64 wh]] w (Ret (.tuple #[.agg #[.int .i64 0, .int .i64 0], .int .i64 2]) w) := by
  obtain ⟨p1, p2, p3, p4, p5, p6, p7⟩ := valid_parts hv
  have HS := Lib.hid p1
  have HB := Lib.hid p2
  have HW := Lib.hid hw
  clear hv p1 p2 p3 p4 hw
  have HX := Lib.hid (WatR.new w wl wh A T l b hA hT); (have hle : w.heap.size ≤ w.heap.size + 1 := by omega); clear hA hT; go_enter Try.func16, Try.ntmps16; go_wp2_with fail
  refine (rsacks_any _ A c l (by omega) HX.out.sa).mono ?_
  rw [HS.out]
  rintro e v9 ⟨rfl, hb1⟩; replace HX := Lib.hid (HX.out.call hb1); clear hb1; go_wp2_with fail
  refine (rbatch_any _ A T c d l b (by omega) (by omega) HX.out.ta).mono ?_
  rw [HB.out]
  rintro e w2 ⟨rfl, hb1⟩
  replace HX := Lib.hid (HX.out.call hb1)
  clear hb1
  have o0 := HX.out.b0.cell 0
  have o1 := HX.out.b0.cell 1
  go_wp2_with fail
  refine (rspan_any _ _ _ _ _).mono ?_
  rw [HW.out]
  rintro e w3 ⟨rfl, hb1⟩
  replace HX := Lib.hid (HX.out.call hb1)
  clear hb1 o0 o1
  have hbx := HX.out.below
  go_wp2_with (refine wpList_store_row rfl 25 (.tmp 6) (.tmp 26) rfl (w.heap.size + 1) #[.int .i64 0, .int .i64 0] rfl rfl 25 _ HX.out.b1 (by kernel_rfl) rfl (by kernel_rfl) ?_)
  exact bodyPost_ret (results_blk_tmp rfl _ rfl (HX.out.b1.row _) (by kernel_rfl) (by kernel_rfl)) rfl ⟨rfl, below_setRow hbx hle _⟩

def waterRLo (l : List Sack) (b : List Take) (wl : Int) : Int := max 0 (cdiv (sumTo (lackHi l b wl) l.length) (1000 - wl))
def waterRHi (l : List Sack) (b : List Take) (wh : Int) : Int := min 1073741824 (sumTo (lackLo l b wh) l.length / (1000 - wh))
theorem lacksum_bd {l : List Sack} {b : List Take} (hv : validB l b = true) {n : Int} (h0 : 0 ≤ n) (h1 : n ≤ 1000) : (-6400000000 ≤ sumTo (lackLo l b n) l.length ∧ sumTo (lackLo l b n) l.length ≤ 6400000000) ∧ (-6400000000 ≤ sumTo (lackHi l b n) l.length ∧ sumTo (lackHi l b n) l.length ≤ 6400000000) := by
  obtain ⟨p1, p2, p3, p4, p5, p6, p7⟩ := valid_parts hv
  have hpb := fun i (hi : i < l.length) => lack_bd (l := l) (b := b) h0 h1 i hi p3 p4 p7
  have hs1 := sumTo_bd (F := lackLo l b n) (M := 800000000) l.length fun i hi => (hpb i hi).1
  have hs2 := sumTo_bd (F := lackHi l b n) (M := 800000000) l.length fun i hi => (hpb i hi).2
  omega

theorem cdiv_bd {a b M : Int} (hb : 0 < b) (h1 : -M ≤ a) (h2 : a ≤ M) : -M ≤ cdiv a b ∧ cdiv a b ≤ M := by
  have hd : ∀ c : Int, -M ≤ c → c ≤ M → -M ≤ c / b ∧ c / b ≤ M := fun c h h' => by
    rcases Int.le_total 0 c with h0 | h0
    · have := Int.ediv_le_self b h0
      have := Int.ediv_nonneg h0 (Int.le_of_lt hb)
      omega
    · have h3 : c ≤ c / b := (Int.le_ediv_iff_mul_le hb).2 (by
        have := Int.mul_le_mul_of_nonpos_left h0 (show 1 ≤ b by omega)
        omega)
      have h4 : c / b ≤ 0 := Int.ediv_nonpos_of_nonpos_of_neg h0 hb
      omega
  have := hd (-a) (by omega) (by omega)
  unfold cdiv
  omega
theorem div_bd {a b M : Int} (hb : 0 < b) (h1 : -M ≤ a) (h2 : a ≤ M) : -M ≤ a / b ∧ a / b ≤ M := by
  have h := cdiv_bd hb (a := -a) (M := M) (by omega) (by omega)
  unfold cdiv at h
  rw [Int.neg_neg] at h
  omega
theorem WsS.of {w : World} {wl wh : Int} {A T : Option Addr} {l : List Sack} {b : List Take} {V W : World} (h : WatR w wl wh A T l b V) (hb : Below V.heap.size V W) : Below V.heap.size V W ∧ W.cell? ⟨w.heap.size, 0, none⟩ = some (.int .i64 wl) ∧ W.cell? ⟨w.heap.size, 1, none⟩ = some (.int .i64 wh) :=
  ⟨hb, (h.call hb).b0.cell 0, (h.call hb).b0.cell 1⟩
set_option maxRecDepth 100000 in
set_option maxHeartbeats 8000000 in
theorem rwater_yes (w : World) (A T : Option Addr) (c d : Nat) (l : List Sack) (b : List Take) (wl wh : Int) (hA : SackSl w w.heap.size A l) (hT : TakeSl w w.heap.size T b) (hv : validB l b = true) (hw : withinB ⟨wl, wh⟩ 0 999 = true) :
    Calls Try.prog 16 #[.slice A l.length c, .slice T b.length d, .agg #[.int .i64 wl, .int .i64 wh]] w (Ret (numV (waterRLo l b wl) (waterRHi l b wh)) w) := by
  obtain ⟨p1, p2, p3, p4, p5, p6, p7⟩ := valid_parts hv
  obtain ⟨w1', w2', w3'⟩ := withinB_iff.1 hw
  simp only at w1' w2' w3'
  have hlb1 := (lacksum_bd hv w1' (by omega)).2
  have hlb2 := (lacksum_bd hv (show 0 ≤ wh by omega) (by omega)).1
  have HS := Lib.hid p1
  have HB := Lib.hid p2
  have HW := Lib.hid hw
  have HL2 := Lib.hid p3
  have HB2 := Lib.hid p4
  clear hv p1 p2 p3 p4 hw
  have HX := Lib.hid (WatR.new w wl wh A T l b hA hT); (have hle : w.heap.size ≤ w.heap.size + 1 := by omega); clear hA hT; go_enter Try.func16, Try.ntmps16; go_wp2_with fail
  refine (rsacks_any _ A c l (by omega) HX.out.sa).mono ?_
  rw [HS.out]
  rintro e v9 ⟨rfl, hb1⟩; replace HX := Lib.hid (HX.out.call hb1); clear hb1; go_wp2_with fail
  refine (rbatch_any _ A T c d l b (by omega) (by omega) HX.out.ta).mono ?_
  rw [HB.out]
  rintro e w2 ⟨rfl, hb1⟩
  replace HX := Lib.hid (HX.out.call hb1)
  clear hb1
  have o0 := HX.out.b0.cell 0
  have o1 := HX.out.b0.cell 1
  go_wp2_with fail
  refine (rspan_any _ _ _ _ _).mono ?_
  rw [HW.out]
  rintro e w3 ⟨rfl, hb1⟩
  replace HX := Lib.hid (HX.out.call hb1)
  clear hb1 o0 o1
  have o0 := HX.out.b0.cell 0
  have o1 := HX.out.b0.cell 1
  go_wp2_with fail
  refine (lacks_any _ A T c d l b wl w1' (by omega) p5 p7 HX.out.sa HX.out.ta HL2.out HB2.out).mono ?_
  rintro e w4 ⟨rfl, hb1⟩
  replace HX := Lib.hid (HX.out.call hb1)
  clear hb1 o0 o1
  have o0 := HX.out.b0.cell 0
  have o1 := HX.out.b0.cell 1
  go_wp2_with fail
  refine (lacks_any _ A T c d l b wh (by omega) (by omega) p5 p7 HX.out.sa HX.out.ta HL2.out HB2.out).mono ?_
  rintro e w5 ⟨rfl, hb1⟩
  replace HX := Lib.hid (HX.out.call hb1)
  clear hb1 o0 o1
  have hu : Hid (waterRLo l b wl = max 0 (cdiv (sumTo (lackHi l b wl) l.length) (1000 - wl))) := rfl
  have hd : Hid (waterRHi l b wh = min 1073741824 (sumTo (lackLo l b wh) l.length / (1000 - wh))) := rfl
  generalize sumTo (lackHi l b wl) l.length = x at hlb1 hu ⊢
  generalize sumTo (lackLo l b wh) l.length = y at hlb2 hd ⊢
  go_wp2_with fail
  have hUb := cdiv_bd (a := x) (b := 1000 - wl) (by omega) (M := 6400000000) (by omega) (by omega)
  have hDb := div_bd (a := y) (b := 1000 - wh) (by omega) (M := 6400000000) (by omega) (by omega)
  have HU : Hid (∀ W, Calls Try.prog 49 #[.int .i64 x, .int .i64 (1000 - wl)] W fun e w' => e = .returned (.int .i64 (cdiv x (1000 - wl))) ∧ W = w') := fun W => rup_any _ _ W (by omega) (by omega) (by omega) (by omega)
  have HD : Hid (∀ W, Calls Try.prog 50 #[.int .i64 y, .int .i64 (1000 - wh)] W fun e w' => e = .returned (.int .i64 (y / (1000 - wh))) ∧ W = w') := fun W => rdown_any _ _ W (by omega) (by omega) (by omega) (by omega)
  have hmx := (max_if 0 (cdiv x (1000 - wl))).symm.trans hu.out.symm
  have hmn := (min_if 1073741824 (y / (1000 - wh))).symm.trans hd.out.symm
  generalize cdiv x (1000 - wl) = U at HU hUb hmx hu
  generalize y / (1000 - wh) = D at HD hDb hmn hd
  have hX2 : -7000000000 ≤ waterRLo l b wl ∧ waterRLo l b wl ≤ 7000000000 := by rw [hu.out]; omega
  have hZ2 : -7000000000 ≤ waterRHi l b wh ∧ waterRHi l b wh ≤ 7000000000 := by rw [hd.out]; omega
  clear hu hd
  have hw1 : IntKind.i64.wrap (1000 - wl) = 1000 - wl := wrap_in (by omega) (by omega)
  have hw2 : IntKind.i64.wrap (1000 - wh) = 1000 - wh := wrap_in (by omega) (by omega)
  generalize hXX : waterRLo l b wl = X at hmx hX2 ⊢
  generalize hZZ : waterRHi l b wh = Z at hmn hZ2 ⊢
  have HXX := Lib.hid hXX
  have HZZ := Lib.hid hZZ
  clear hXX hZZ
  clear hUb hDb
  go_cut [12] (fun s12 wx => ∃ p, s12 = .pointer (some ⟨p, 0, none⟩) ∧ Hid (Blk wx p 25 #[.int .i64 X, .int .i64 Z] ∧ Below w5.heap.size w5 wx))
  case first =>
    go_region_held3 (fun W => Below w5.heap.size w5 W ∧ W.cell? ⟨w.heap.size, 0, none⟩ = some (.int .i64 wl) ∧ W.cell? ⟨w.heap.size, 1, none⟩ = some (.int .i64 wh))
      (first | exact WsS.of HX.out (by repeat (first | exact Below.refl _ _ | assumption | refine Below.drew ?_ | refine Below.alloc ?_ (by first | omega | (simp only [World.size_alloc]; omega) | simp) _ | refine Below.setCell ?_ (by first | omega | (simp only [World.size_alloc]; omega) | simp) _)) | fail "no keep")
      (first | (go_at_call 49; (with_reducible refine (HU.out _).mono ?_); rintro e w' ⟨rfl, rfl⟩) | (go_at_call 50; (with_reducible refine (HD.out _).mono ?_); rintro e w' ⟨rfl, rfl⟩) | fail "no arm")
    all_goals go_wp2_with fail
    all_goals go_meet
    all_goals (first | exact ⟨_, rfl, Lib.hid ⟨Blk.new _ _ _, by repeat (first | exact Below.refl _ _ | assumption | refine Below.drew ?_ | refine Below.alloc ?_ (by first | omega | (simp only [World.size_alloc]; omega) | simp) _ | refine Below.setCell ?_ (by first | omega | (simp only [World.size_alloc]; omega) | simp) _)⟩⟩ | exact ⟨_, rfl, Lib.hid ⟨Blk.new w5 _ _, by repeat (first | exact Below.refl _ _ | assumption | refine Below.drew ?_ | refine Below.alloc ?_ (by first | omega | (simp only [World.size_alloc]; omega) | simp) _ | refine Below.setCell ?_ (by first | omega | (simp only [World.size_alloc]; omega) | simp) _)⟩⟩ | exact ⟨_, rfl, Lib.hid ⟨Blk.new w5.drew _ _, by repeat (first | exact Below.refl _ _ | assumption | refine Below.drew ?_ | refine Below.alloc ?_ (by first | omega | (simp only [World.size_alloc]; omega) | simp) _ | refine Below.setCell ?_ (by first | omega | (simp only [World.size_alloc]; omega) | simp) _)⟩⟩)
  case rest =>
    obtain ⟨p, rfl, hs⟩ := hcut
    have HX5 := Lib.hid (HX.out.call hs.out.2)
    have u0 := hs.out.1.cell 0
    have u1 := hs.out.1.cell 1
    have hbx := HX5.out.below
    clear hmx hmn HX hs
    by_cases hxz : X ≤ Z
    · have hgt : ¬ Z < X := by omega
      go_wp2_with (refine wpList_store_row rfl 25 (.tmp 6) (.tmp 62) rfl (w.heap.size + 1) #[.int .i64 X, .int .i64 Z] rfl rfl 25 _ HX5.out.b1 (by kernel_rfl) rfl (by kernel_rfl) ?_)
      exact bodyPost_ret (results_blk_tmp rfl _ rfl (HX5.out.b1.row #[.int .i64 X, .int .i64 Z]) (by kernel_rfl) (by kernel_rfl)) rfl ⟨by rw [HXX.out, HZZ.out]; exact ret_num rfl rfl hxz, below_setRow hbx hle _⟩
    · have hgt : Z < X := by omega
      go_wp2_with (refine wpList_store_row rfl 25 (.tmp 6) (.tmp 61) rfl (w.heap.size + 1) #[.int .i64 0, .int .i64 0] rfl rfl 25 _ HX5.out.b1 (by kernel_rfl) rfl (by kernel_rfl) ?_)
      exact bodyPost_ret (results_blk_tmp rfl _ rfl (HX5.out.b1.row #[.int .i64 0, .int .i64 0]) (by kernel_rfl) (by kernel_rfl)) rfl ⟨by rw [HXX.out, HZZ.out]; exact ret_none (by omega), below_setRow hbx hle _⟩
end Go.Proofs.Ytoiggflhfbfiiaa
