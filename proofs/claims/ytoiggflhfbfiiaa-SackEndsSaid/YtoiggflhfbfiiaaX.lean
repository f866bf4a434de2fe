/- Mix: the arguments that are refused. -/
import Derived.Test.YtoiggflhfbfiiaaNb
namespace Go.Proofs.Ytoiggflhfbfiiaa
open Go.RowKit

def mixOk (l : List Sack) (first second total wl wh : Int) : Bool := idxB l first && idxB l second && !(first == second) && decide (2 ≤ total ∧ total ≤ 100000) && withinB ⟨wl, wh⟩ 0 1000


set_option maxRecDepth 100000 in
set_option maxHeartbeats 4000000 in
theorem mix_no (w : World) (A : Option Addr) (c : Nat) (l : List Sack) (first second total wl wh : Int) (hl : l.length ≤ 100) (hA : SackSl w w.heap.size A l) (hv : sacksOk l = false) :
    Calls Try.prog 17 #[.slice A l.length c, .int .i64 first, .int .i64 second, .int .i64 total, .agg #[.int .i64 wl, .int .i64 wh]] w (Ret (.tuple #[.agg #[.int .i64 0, .int .i64 0], .int .i64 1]) w) := by
  have h0 : Below w.heap.size w ((w.alloc (.cells #[.int .i64 wl, .int .i64 wh] 25)).alloc (.cells #[.int .i64 0, .int .i64 0] 25)) := (by repeat (first | exact Below.refl _ _ | assumption | refine Below.drew ?_ | refine Below.alloc ?_ (by first | omega | (simp only [World.size_alloc]; omega) | simp) _ | refine Below.setCell ?_ (by first | omega | (simp only [World.size_alloc]; omega) | simp) _)); have HB0 := Lib.hid ((Blk.new w 25 #[.int .i64 wl, .int .i64 wh]).alloc (.cells #[.int .i64 0, .int .i64 0] 25)); have hB1' := Blk.new (w.alloc (.cells #[.int .i64 wl, .int .i64 wh] 25)) 25 #[.int .i64 0, .int .i64 0]; rw [World.size_alloc] at hB1'; have HB1 := Lib.hid hB1'; have HA := Lib.hid ((hA.below h0).more h0.size); have H0 := Lib.hid h0; have hle : w.heap.size ≤ w.heap.size + 1 := (by omega); clear hA h0 hB1'
  go_enter Try.func17, Try.ntmps17
  go_wp2_with fail
  refine (validSacks_any _ _ _ _ hl HA.out).mono ?_; rintro e w1 ⟨rfl, hb1⟩; rw [hv]; have B0 := Lib.hid (HB0.out.below hb1 HB0.out.lt); have B1 := Lib.hid (HB1.out.below hb1 HB1.out.lt); have hB1 := H0.out.trans (hb1.mono H0.out.size); have c0 := B0.out.cell 0; have c1 := B0.out.cell 1; clear hb1 HB0 H0 HB1
  go_wp2_with (refine wpList_store_row rfl 25 (.tmp 10) (.tmp 21) rfl (w.heap.size + 1) #[.int .i64 0, .int .i64 0] rfl rfl 25 _ B1.out (by kernel_rfl) rfl (by kernel_rfl) ?_)
  exact bodyPost_ret (results_blk_tmp rfl _ rfl (B1.out.row _) (by kernel_rfl) (by kernel_rfl)) rfl ⟨rfl, below_setRow hB1 hle _⟩

set_option maxRecDepth 100000 in
set_option maxHeartbeats 4000000 in
theorem mix_r1 (w : World) (A : Option Addr) (c : Nat) (l : List Sack) (first second total wl wh : Int) (hl : l.length ≤ 100) (hA : SackSl w w.heap.size A l) (hv : sacksOk l = true) (d1 : decide (0 ≤ first ∧ first < l.length) = false) :
    Calls Try.prog 17 #[.slice A l.length c, .int .i64 first, .int .i64 second, .int .i64 total, .agg #[.int .i64 wl, .int .i64 wh]] w (Ret (.tuple #[.agg #[.int .i64 0, .int .i64 0], .int .i64 2]) w) := by
  have h0 : Below w.heap.size w ((w.alloc (.cells #[.int .i64 wl, .int .i64 wh] 25)).alloc (.cells #[.int .i64 0, .int .i64 0] 25)) := (by repeat (first | exact Below.refl _ _ | assumption | refine Below.drew ?_ | refine Below.alloc ?_ (by first | omega | (simp only [World.size_alloc]; omega) | simp) _ | refine Below.setCell ?_ (by first | omega | (simp only [World.size_alloc]; omega) | simp) _)); have HB0 := Lib.hid ((Blk.new w 25 #[.int .i64 wl, .int .i64 wh]).alloc (.cells #[.int .i64 0, .int .i64 0] 25)); have hB1' := Blk.new (w.alloc (.cells #[.int .i64 wl, .int .i64 wh] 25)) 25 #[.int .i64 0, .int .i64 0]; rw [World.size_alloc] at hB1'; have HB1 := Lib.hid hB1'; have HA := Lib.hid ((hA.below h0).more h0.size); have H0 := Lib.hid h0; have hle : w.heap.size ≤ w.heap.size + 1 := (by omega); clear hA h0 hB1'
  have HD1 := Lib.hid d1
  clear d1
  go_enter Try.func17, Try.ntmps17
  go_wp2_with fail
  refine (validSacks_any _ _ _ _ hl HA.out).mono ?_; rintro e w1 ⟨rfl, hb1⟩; rw [hv]; have B0 := Lib.hid (HB0.out.below hb1 HB0.out.lt); have B1 := Lib.hid (HB1.out.below hb1 HB1.out.lt); have hB1 := H0.out.trans (hb1.mono H0.out.size); have c0 := B0.out.cell 0; have c1 := B0.out.cell 1; clear hb1 HB0 H0 HB1
  go_wp2_with (first | (first | (go_at_call 52; refine (isIndex_any _ _ _ _ _).mono ?_; (first | rw [HD1.out] | rw [HD2.out]); rintro e w' ⟨rfl, rfl⟩) | (go_at_call 42; refine (within_any _ _ _ _ _).mono ?_; rintro e w2 ⟨rfl, hb1⟩; rw [HW.out]; replace B0 := Lib.hid (B0.out.below hb1 B0.out.lt); replace B1 := Lib.hid (B1.out.below hb1 B1.out.lt); replace hB1 := hB1.trans (hb1.mono hB1.size); clear hb1 c0 c1)) | (refine wpList_store_row rfl 25 (.tmp 10) (.tmp 37) rfl (w.heap.size + 1) #[.int .i64 0, .int .i64 0] rfl rfl 25 _ B1.out (by kernel_rfl) rfl (by kernel_rfl) ?_))
  exact bodyPost_ret (results_blk_tmp rfl _ rfl (B1.out.row _) (by kernel_rfl) (by kernel_rfl)) rfl ⟨rfl, below_setRow hB1 hle _⟩

set_option maxRecDepth 100000 in
set_option maxHeartbeats 4000000 in
theorem mix_r2 (w : World) (A : Option Addr) (c : Nat) (l : List Sack) (first second total wl wh : Int) (hl : l.length ≤ 100) (hA : SackSl w w.heap.size A l) (hv : sacksOk l = true) (d1 : decide (0 ≤ first ∧ first < l.length) = true) (d2 : decide (0 ≤ second ∧ second < l.length) = false) :
    Calls Try.prog 17 #[.slice A l.length c, .int .i64 first, .int .i64 second, .int .i64 total, .agg #[.int .i64 wl, .int .i64 wh]] w (Ret (.tuple #[.agg #[.int .i64 0, .int .i64 0], .int .i64 2]) w) := by
  have h0 : Below w.heap.size w ((w.alloc (.cells #[.int .i64 wl, .int .i64 wh] 25)).alloc (.cells #[.int .i64 0, .int .i64 0] 25)) := (by repeat (first | exact Below.refl _ _ | assumption | refine Below.drew ?_ | refine Below.alloc ?_ (by first | omega | (simp only [World.size_alloc]; omega) | simp) _ | refine Below.setCell ?_ (by first | omega | (simp only [World.size_alloc]; omega) | simp) _)); have HB0 := Lib.hid ((Blk.new w 25 #[.int .i64 wl, .int .i64 wh]).alloc (.cells #[.int .i64 0, .int .i64 0] 25)); have hB1' := Blk.new (w.alloc (.cells #[.int .i64 wl, .int .i64 wh] 25)) 25 #[.int .i64 0, .int .i64 0]; rw [World.size_alloc] at hB1'; have HB1 := Lib.hid hB1'; have HA := Lib.hid ((hA.below h0).more h0.size); have H0 := Lib.hid h0; have hle : w.heap.size ≤ w.heap.size + 1 := (by omega); clear hA h0 hB1'
  have HD1 := Lib.hid d1
  clear d1
  have HD2 := Lib.hid d2
  clear d2
  go_enter Try.func17, Try.ntmps17
  go_wp2_with fail
  refine (validSacks_any _ _ _ _ hl HA.out).mono ?_; rintro e w1 ⟨rfl, hb1⟩; rw [hv]; have B0 := Lib.hid (HB0.out.below hb1 HB0.out.lt); have B1 := Lib.hid (HB1.out.below hb1 HB1.out.lt); have hB1 := H0.out.trans (hb1.mono H0.out.size); have c0 := B0.out.cell 0; have c1 := B0.out.cell 1; clear hb1 HB0 H0 HB1
  go_wp2_with (first | (first | (go_at_call 52; refine (isIndex_any _ _ _ _ _).mono ?_; (first | rw [HD1.out] | rw [HD2.out]); rintro e w' ⟨rfl, rfl⟩) | (go_at_call 42; refine (within_any _ _ _ _ _).mono ?_; rintro e w2 ⟨rfl, hb1⟩; rw [HW.out]; replace B0 := Lib.hid (B0.out.below hb1 B0.out.lt); replace B1 := Lib.hid (B1.out.below hb1 B1.out.lt); replace hB1 := hB1.trans (hb1.mono hB1.size); clear hb1 c0 c1)) | (refine wpList_store_row rfl 25 (.tmp 10) (.tmp 37) rfl (w.heap.size + 1) #[.int .i64 0, .int .i64 0] rfl rfl 25 _ B1.out (by kernel_rfl) rfl (by kernel_rfl) ?_))
  exact bodyPost_ret (results_blk_tmp rfl _ rfl (B1.out.row _) (by kernel_rfl) (by kernel_rfl)) rfl ⟨rfl, below_setRow hB1 hle _⟩

set_option maxRecDepth 100000 in
set_option maxHeartbeats 4000000 in
theorem mix_r3 (w : World) (A : Option Addr) (c : Nat) (l : List Sack) (first second total wl wh : Int) (hl : l.length ≤ 100) (hA : SackSl w w.heap.size A l) (hv : sacksOk l = true) (d1 : decide (0 ≤ first ∧ first < l.length) = true) (d2 : decide (0 ≤ second ∧ second < l.length) = true) (he : (first == second) = true) :
    Calls Try.prog 17 #[.slice A l.length c, .int .i64 first, .int .i64 second, .int .i64 total, .agg #[.int .i64 wl, .int .i64 wh]] w (Ret (.tuple #[.agg #[.int .i64 0, .int .i64 0], .int .i64 2]) w) := by
  have h0 : Below w.heap.size w ((w.alloc (.cells #[.int .i64 wl, .int .i64 wh] 25)).alloc (.cells #[.int .i64 0, .int .i64 0] 25)) := (by repeat (first | exact Below.refl _ _ | assumption | refine Below.drew ?_ | refine Below.alloc ?_ (by first | omega | (simp only [World.size_alloc]; omega) | simp) _ | refine Below.setCell ?_ (by first | omega | (simp only [World.size_alloc]; omega) | simp) _)); have HB0 := Lib.hid ((Blk.new w 25 #[.int .i64 wl, .int .i64 wh]).alloc (.cells #[.int .i64 0, .int .i64 0] 25)); have hB1' := Blk.new (w.alloc (.cells #[.int .i64 wl, .int .i64 wh] 25)) 25 #[.int .i64 0, .int .i64 0]; rw [World.size_alloc] at hB1'; have HB1 := Lib.hid hB1'; have HA := Lib.hid ((hA.below h0).more h0.size); have H0 := Lib.hid h0; have hle : w.heap.size ≤ w.heap.size + 1 := (by omega); clear hA h0 hB1'
  have HD1 := Lib.hid d1
  clear d1
  have HD2 := Lib.hid d2
  clear d2
  go_enter Try.func17, Try.ntmps17
  go_wp2_with fail
  refine (validSacks_any _ _ _ _ hl HA.out).mono ?_; rintro e w1 ⟨rfl, hb1⟩; rw [hv]; have B0 := Lib.hid (HB0.out.below hb1 HB0.out.lt); have B1 := Lib.hid (HB1.out.below hb1 HB1.out.lt); have hB1 := H0.out.trans (hb1.mono H0.out.size); have c0 := B0.out.cell 0; have c1 := B0.out.cell 1; clear hb1 HB0 H0 HB1
  go_wp2_with (first | (first | (go_at_call 52; refine (isIndex_any _ _ _ _ _).mono ?_; (first | rw [HD1.out] | rw [HD2.out]); rintro e w' ⟨rfl, rfl⟩) | (go_at_call 42; refine (within_any _ _ _ _ _).mono ?_; rintro e w2 ⟨rfl, hb1⟩; rw [HW.out]; replace B0 := Lib.hid (B0.out.below hb1 B0.out.lt); replace B1 := Lib.hid (B1.out.below hb1 B1.out.lt); replace hB1 := hB1.trans (hb1.mono hB1.size); clear hb1 c0 c1)) | (refine wpList_store_row rfl 25 (.tmp 10) (.tmp 37) rfl (w.heap.size + 1) #[.int .i64 0, .int .i64 0] rfl rfl 25 _ B1.out (by kernel_rfl) rfl (by kernel_rfl) ?_))
  exact bodyPost_ret (results_blk_tmp rfl _ rfl (B1.out.row _) (by kernel_rfl) (by kernel_rfl)) rfl ⟨rfl, below_setRow hB1 hle _⟩

set_option maxRecDepth 100000 in
set_option maxHeartbeats 4000000 in
theorem mix_r4 (w : World) (A : Option Addr) (c : Nat) (l : List Sack) (first second total wl wh : Int) (hl : l.length ≤ 100) (hA : SackSl w w.heap.size A l) (hv : sacksOk l = true) (d1 : decide (0 ≤ first ∧ first < l.length) = true) (d2 : decide (0 ≤ second ∧ second < l.length) = true) (he : (first == second) = false) (ht : total < 2) :
    Calls Try.prog 17 #[.slice A l.length c, .int .i64 first, .int .i64 second, .int .i64 total, .agg #[.int .i64 wl, .int .i64 wh]] w (Ret (.tuple #[.agg #[.int .i64 0, .int .i64 0], .int .i64 2]) w) := by
  have h0 : Below w.heap.size w ((w.alloc (.cells #[.int .i64 wl, .int .i64 wh] 25)).alloc (.cells #[.int .i64 0, .int .i64 0] 25)) := (by repeat (first | exact Below.refl _ _ | assumption | refine Below.drew ?_ | refine Below.alloc ?_ (by first | omega | (simp only [World.size_alloc]; omega) | simp) _ | refine Below.setCell ?_ (by first | omega | (simp only [World.size_alloc]; omega) | simp) _)); have HB0 := Lib.hid ((Blk.new w 25 #[.int .i64 wl, .int .i64 wh]).alloc (.cells #[.int .i64 0, .int .i64 0] 25)); have hB1' := Blk.new (w.alloc (.cells #[.int .i64 wl, .int .i64 wh] 25)) 25 #[.int .i64 0, .int .i64 0]; rw [World.size_alloc] at hB1'; have HB1 := Lib.hid hB1'; have HA := Lib.hid ((hA.below h0).more h0.size); have H0 := Lib.hid h0; have hle : w.heap.size ≤ w.heap.size + 1 := (by omega); clear hA h0 hB1'
  have HD1 := Lib.hid d1
  clear d1
  have HD2 := Lib.hid d2
  clear d2
  go_enter Try.func17, Try.ntmps17
  go_wp2_with fail
  refine (validSacks_any _ _ _ _ hl HA.out).mono ?_; rintro e w1 ⟨rfl, hb1⟩; rw [hv]; have B0 := Lib.hid (HB0.out.below hb1 HB0.out.lt); have B1 := Lib.hid (HB1.out.below hb1 HB1.out.lt); have hB1 := H0.out.trans (hb1.mono H0.out.size); have c0 := B0.out.cell 0; have c1 := B0.out.cell 1; clear hb1 HB0 H0 HB1
  go_wp2_with (first | (first | (go_at_call 52; refine (isIndex_any _ _ _ _ _).mono ?_; (first | rw [HD1.out] | rw [HD2.out]); rintro e w' ⟨rfl, rfl⟩) | (go_at_call 42; refine (within_any _ _ _ _ _).mono ?_; rintro e w2 ⟨rfl, hb1⟩; rw [HW.out]; replace B0 := Lib.hid (B0.out.below hb1 B0.out.lt); replace B1 := Lib.hid (B1.out.below hb1 B1.out.lt); replace hB1 := hB1.trans (hb1.mono hB1.size); clear hb1 c0 c1)) | (refine wpList_store_row rfl 25 (.tmp 10) (.tmp 49) rfl (w.heap.size + 1) #[.int .i64 0, .int .i64 0] rfl rfl 25 _ B1.out (by kernel_rfl) rfl (by kernel_rfl) ?_))
  exact bodyPost_ret (results_blk_tmp rfl _ rfl (B1.out.row _) (by kernel_rfl) (by kernel_rfl)) rfl ⟨rfl, below_setRow hB1 hle _⟩

set_option maxRecDepth 100000 in
set_option maxHeartbeats 4000000 in
theorem mix_r5 (w : World) (A : Option Addr) (c : Nat) (l : List Sack) (first second total wl wh : Int) (hl : l.length ≤ 100) (hA : SackSl w w.heap.size A l) (hv : sacksOk l = true) (d1 : decide (0 ≤ first ∧ first < l.length) = true) (d2 : decide (0 ≤ second ∧ second < l.length) = true) (he : (first == second) = false) (ht : 100000 < total) :
    Calls Try.prog 17 #[.slice A l.length c, .int .i64 first, .int .i64 second, .int .i64 total, .agg #[.int .i64 wl, .int .i64 wh]] w (Ret (.tuple #[.agg #[.int .i64 0, .int .i64 0], .int .i64 2]) w) := by
  have h0 : Below w.heap.size w ((w.alloc (.cells #[.int .i64 wl, .int .i64 wh] 25)).alloc (.cells #[.int .i64 0, .int .i64 0] 25)) := (by repeat (first | exact Below.refl _ _ | assumption | refine Below.drew ?_ | refine Below.alloc ?_ (by first | omega | (simp only [World.size_alloc]; omega) | simp) _ | refine Below.setCell ?_ (by first | omega | (simp only [World.size_alloc]; omega) | simp) _)); have HB0 := Lib.hid ((Blk.new w 25 #[.int .i64 wl, .int .i64 wh]).alloc (.cells #[.int .i64 0, .int .i64 0] 25)); have hB1' := Blk.new (w.alloc (.cells #[.int .i64 wl, .int .i64 wh] 25)) 25 #[.int .i64 0, .int .i64 0]; rw [World.size_alloc] at hB1'; have HB1 := Lib.hid hB1'; have HA := Lib.hid ((hA.below h0).more h0.size); have H0 := Lib.hid h0; have hle : w.heap.size ≤ w.heap.size + 1 := (by omega); clear hA h0 hB1'
  have HD1 := Lib.hid d1
  clear d1
  have HD2 := Lib.hid d2
  clear d2
  go_enter Try.func17, Try.ntmps17
  go_wp2_with fail
  refine (validSacks_any _ _ _ _ hl HA.out).mono ?_; rintro e w1 ⟨rfl, hb1⟩; rw [hv]; have B0 := Lib.hid (HB0.out.below hb1 HB0.out.lt); have B1 := Lib.hid (HB1.out.below hb1 HB1.out.lt); have hB1 := H0.out.trans (hb1.mono H0.out.size); have c0 := B0.out.cell 0; have c1 := B0.out.cell 1; clear hb1 HB0 H0 HB1
  go_wp2_with (first | (first | (go_at_call 52; refine (isIndex_any _ _ _ _ _).mono ?_; (first | rw [HD1.out] | rw [HD2.out]); rintro e w' ⟨rfl, rfl⟩) | (go_at_call 42; refine (within_any _ _ _ _ _).mono ?_; rintro e w2 ⟨rfl, hb1⟩; rw [HW.out]; replace B0 := Lib.hid (B0.out.below hb1 B0.out.lt); replace B1 := Lib.hid (B1.out.below hb1 B1.out.lt); replace hB1 := hB1.trans (hb1.mono hB1.size); clear hb1 c0 c1)) | (refine wpList_store_row rfl 25 (.tmp 10) (.tmp 49) rfl (w.heap.size + 1) #[.int .i64 0, .int .i64 0] rfl rfl 25 _ B1.out (by kernel_rfl) rfl (by kernel_rfl) ?_))
  exact bodyPost_ret (results_blk_tmp rfl _ rfl (B1.out.row _) (by kernel_rfl) (by kernel_rfl)) rfl ⟨rfl, below_setRow hB1 hle _⟩

set_option maxRecDepth 100000 in
set_option maxHeartbeats 4000000 in
theorem mix_r6 (w : World) (A : Option Addr) (c : Nat) (l : List Sack) (first second total wl wh : Int) (hl : l.length ≤ 100) (hA : SackSl w w.heap.size A l) (hv : sacksOk l = true) (d1 : decide (0 ≤ first ∧ first < l.length) = true) (d2 : decide (0 ≤ second ∧ second < l.length) = true) (he : (first == second) = false) (ht : 2 ≤ total) (ht' : total ≤ 100000) (hw : withinB ⟨wl, wh⟩ 0 1000 = false) :
    Calls Try.prog 17 #[.slice A l.length c, .int .i64 first, .int .i64 second, .int .i64 total, .agg #[.int .i64 wl, .int .i64 wh]] w (Ret (.tuple #[.agg #[.int .i64 0, .int .i64 0], .int .i64 2]) w) := by
  have h0 : Below w.heap.size w ((w.alloc (.cells #[.int .i64 wl, .int .i64 wh] 25)).alloc (.cells #[.int .i64 0, .int .i64 0] 25)) := (by repeat (first | exact Below.refl _ _ | assumption | refine Below.drew ?_ | refine Below.alloc ?_ (by first | omega | (simp only [World.size_alloc]; omega) | simp) _ | refine Below.setCell ?_ (by first | omega | (simp only [World.size_alloc]; omega) | simp) _)); have HB0 := Lib.hid ((Blk.new w 25 #[.int .i64 wl, .int .i64 wh]).alloc (.cells #[.int .i64 0, .int .i64 0] 25)); have hB1' := Blk.new (w.alloc (.cells #[.int .i64 wl, .int .i64 wh] 25)) 25 #[.int .i64 0, .int .i64 0]; rw [World.size_alloc] at hB1'; have HB1 := Lib.hid hB1'; have HA := Lib.hid ((hA.below h0).more h0.size); have H0 := Lib.hid h0; have hle : w.heap.size ≤ w.heap.size + 1 := (by omega); clear hA h0 hB1'
  have HD1 := Lib.hid d1
  clear d1
  have HD2 := Lib.hid d2
  clear d2
  have HW := Lib.hid hw
  clear hw
  go_enter Try.func17, Try.ntmps17
  go_wp2_with fail
  refine (validSacks_any _ _ _ _ hl HA.out).mono ?_; rintro e w1 ⟨rfl, hb1⟩; rw [hv]; have B0 := Lib.hid (HB0.out.below hb1 HB0.out.lt); have B1 := Lib.hid (HB1.out.below hb1 HB1.out.lt); have hB1 := H0.out.trans (hb1.mono H0.out.size); have c0 := B0.out.cell 0; have c1 := B0.out.cell 1; clear hb1 HB0 H0 HB1
  go_wp2_with (first | (first | (go_at_call 52; refine (isIndex_any _ _ _ _ _).mono ?_; (first | rw [HD1.out] | rw [HD2.out]); rintro e w' ⟨rfl, rfl⟩) | (go_at_call 42; refine (within_any _ _ _ _ _).mono ?_; rintro e w2 ⟨rfl, hb1⟩; rw [HW.out]; replace B0 := Lib.hid (B0.out.below hb1 B0.out.lt); replace B1 := Lib.hid (B1.out.below hb1 B1.out.lt); replace hB1 := hB1.trans (hb1.mono hB1.size); clear hb1 c0 c1)) | (refine wpList_store_row rfl 25 (.tmp 10) (.tmp 49) rfl (w.heap.size + 1) #[.int .i64 0, .int .i64 0] rfl rfl 25 _ B1.out (by kernel_rfl) rfl (by kernel_rfl) ?_))
  exact bodyPost_ret (results_blk_tmp rfl _ rfl (B1.out.row _) (by kernel_rfl) (by kernel_rfl)) rfl ⟨rfl, below_setRow hB1 hle _⟩

theorem mix_range (w : World) (A : Option Addr) (c : Nat) (l : List Sack) (first second total wl wh : Int) (hl : l.length ≤ 100) (hA : SackSl w w.heap.size A l) (hv : sacksOk l = true) (hm : mixOk l first second total wl wh = false) :
    Calls Try.prog 17 #[.slice A l.length c, .int .i64 first, .int .i64 second, .int .i64 total, .agg #[.int .i64 wl, .int .i64 wh]] w (Ret (.tuple #[.agg #[.int .i64 0, .int .i64 0], .int .i64 2]) w) := by
  cases d1 : decide (0 ≤ first ∧ first < l.length) with
  | false => exact mix_r1 w A c l first second total wl wh hl hA hv d1
  | true =>
    cases d2 : decide (0 ≤ second ∧ second < l.length) with
    | false => exact mix_r2 w A c l first second total wl wh hl hA hv d1 d2
    | true =>
      cases he : (first == second) with
      | true => exact mix_r3 w A c l first second total wl wh hl hA hv d1 d2 he
      | false =>
        by_cases h2 : total < 2
        · exact mix_r4 w A c l first second total wl wh hl hA hv d1 d2 he h2
        · by_cases h3 : 100000 < total
          · exact mix_r5 w A c l first second total wl wh hl hA hv d1 d2 he h3
          · cases hw : withinB ⟨wl, wh⟩ 0 1000 with
            | false => exact mix_r6 w A c l first second total wl wh hl hA hv d1 d2 he (by omega) (by omega) hw
            | true =>
              have e : decide (2 ≤ total ∧ total ≤ 100000) = true := by simp; omega
              simp only [mixOk, idxB, d1, d2, he, hw, e] at hm
              cases hm
end Go.Proofs.Ytoiggflhfbfiiaa
