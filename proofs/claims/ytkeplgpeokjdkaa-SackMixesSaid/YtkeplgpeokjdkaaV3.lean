/- Walk of the reference's Mix: gram by gram. -/
import Derived.Test.YtkeplgpeokjdkaaV2
namespace Go.Proofs.Ytkeplgpeokjdkaa
open Go.RowKit Go.Shelf

theorem MxR.call {a b k : Int} {v : Value} {po : Nat} {W W' : World} (h : MxR a b k v po W) (hb : Below W.heap.size W W') (hp : po < W.heap.size) : MxR a b k v po W' := by
  rcases h with ⟨h1, h2, h3⟩ | ⟨h1, h2, h3, h4⟩
  · exact .inl ⟨h1, h2, h3.below hb hp⟩
  · exact .inr ⟨h1, h2, h3, h4.below hb hp⟩

set_option maxRecDepth 100000 in
set_option maxHeartbeats 8000000 in
theorem rmix_yes (w : World) (A : Option Addr) (c : Nat) (l : List Sack) (n1 n2 N : Nat) (wl wh a b : Int) (hl : l.length ≤ 12) (hA : SackSl w w.heap.size A l) (hv : sacksOk l = true) (h1 : n1 < l.length) (h2 : n2 < l.length) (hne : n1 ≠ n2) (ht : 2 ≤ N) (ht' : N ≤ 100000) (hw : withinB ⟨wl, wh⟩ 0 1000 = true)
    (ha : 1 ≤ a) (hz : b ≤ N - 1) (hS : ∀ n : Int, 1 ≤ n → n < N → rmixW l n1 n2 N wl wh n = decide (a ≤ n ∧ n ≤ b)) :
    Calls Try.prog 18 #[.slice A l.length c, .int .i64 n1, .int .i64 n2, .int .i64 N, .agg #[.int .i64 wl, .int .i64 wh]] w (Ret (numV a b) w) := by
  have HS := Lib.hid hv
  have HI1 : Hid (decide (0 ≤ (n1 : Int) ∧ (n1 : Int) ≤ (l.length : Int) - 1) = true) := by show _ = _; simp; omega
  have HI2 : Hid (decide (0 ≤ (n2 : Int) ∧ (n2 : Int) ≤ (l.length : Int) - 1) = true) := by show _ = _; simp; omega
  have HI3 : Hid (decide (2 ≤ (N : Int) ∧ (N : Int) ≤ 100000) = true) := by show _ = _; simp; omega
  have h3b : ((n1 : Int) == (n2 : Int)) = false := by simp; omega
  have HW := Lib.hid hw
  have HSP := Lib.hid hS
  have HV := Lib.hid hv
  clear hv hw hS
  have HX := Lib.hid (RmS.new w wl wh A l hA); (have hle : w.heap.size ≤ w.heap.size + 1 := by omega); clear hA; go_enter Try.func18, Try.ntmps18; go_wp2_with fail; refine (rsacks_any _ A c l (by omega) (HX.out.sa.more (by simp))).mono ?_; rw [HS.out]; rintro e w1 ⟨rfl, hb1⟩; have HX1 := Lib.hid (HX.out.call (by simp) hb1); clear hb1 HX
  have c0 := HX1.out.b0.cell 0
  have c1 := HX1.out.b0.cell 1
  go_wp2_with fail
  refine (rin_is n1 0 _ _ HI1.out _).mono ?_
  rintro e w' ⟨rfl, rfl⟩
  go_wp2_with fail
  refine (rin_is n2 0 _ _ HI2.out _).mono ?_
  rintro e w' ⟨rfl, rfl⟩
  go_wp2_with fail
  refine (rin_is N 2 100000 _ HI3.out _).mono ?_
  rintro e w' ⟨rfl, rfl⟩
  go_wp2_with fail
  refine (rspan_any _ _ _ _ _).mono ?_
  rw [HW.out]
  rintro e w2 ⟨rfl, hb1⟩
  replace HX1 := Lib.hid (HX1.out.call (Nat.le_refl _) hb1)
  clear hb1 c0 c1 HI1 HI2 HI3 h3b
  go_wp2_with fail
  have HO : Hid (MxR a b 1 (.bool true) w2.heap.size (w2.alloc (.cells #[.int .i64 0, .int .i64 0] 25))) := .inl ⟨rfl, by omega, Blk.new _ _ _⟩
  have HX2 : Hid (RmS w wl wh A l w2.heap.size (w2.alloc (.cells #[.int .i64 0, .int .i64 0] 25))) := HX1.out.keep ((Below.refl _ _).alloc (Nat.le_refl _) _)
  have hp0 : w2.heap.size < (w2.alloc (.cells #[.int .i64 0, .int .i64 0] 25)).heap.size := by simp
  clear HX1
  generalize World.alloc w2 _ = W0 at HO HX2 hp0 ⊢
  generalize w2.heap.size = po at HO HX2 hp0 ⊢
  go_loopw [13, 14] (fun v i wr => ∃ k : Nat, 1 ≤ k ∧ k ≤ N ∧ i = .int .i64 k ∧ Hid (MxR a b k v po wr) ∧ Hid (RmS w wl wh A l po wr) ∧ po < wr.heap.size) (fun _ i _ => N - (intOf i).toNat)
  case atStart => exact ⟨1, by omega, by omega, rfl, HO, HX2, hp0⟩
  case round =>
    clear HO HX2 hp0
    obtain ⟨k, hk1, hk, rfl, HO, HX, hp⟩ := hrel
    by_cases hlt : k < N
    · have HC := Lib.hid (rmixed_any wr A c l n1 n2 N wl wh k (HX.out.sa.more (Nat.le_of_lt hp)) HV.out h1 h2 (by omega) HW.out (by omega) (by omega))
      have HQ := Lib.hid (HSP.out k (by omega) (by omega))
      rw [HQ.out] at HC
      clear HQ
      have c0 := HX.out.b0.cell 0
      have c1 := HX.out.b0.cell 1
      by_cases hm : a ≤ k ∧ (k : Int) ≤ b
      · rw [decide_eq_true hm] at HC
        obtain ⟨m1, m2⟩ := hm
        rcases HO.out with ⟨rfl, o2, o3⟩ | ⟨rfl, o2, o3, o4⟩
        · have hak : a = k := by omega
          have HK := Lib.hid o3
          clear o3 HO
          go_wp2_with fail
          refine HC.out.mono ?_
          rintro e v1 ⟨rfl, hb1⟩
          replace HK := Lib.hid (HK.out.below hb1 hp)
          have HX1 := Lib.hid (HX.out.keep (hb1.mono (Nat.le_of_lt hp)))
          clear hb1 c0 c1 HX HC
          have f0 := HK.out.frozen 0
          have f1 := HK.out.frozen 1
          have q0 := HK.out.cell 0
          have q1 := HK.out.cell 1
          have hp1 := HK.out.lt
          have HB := Lib.hid ((HK.out.set_ 0 (.int .i64 k)).set_ 1 (.int .i64 k))
          have HX2 := Lib.hid (HX1.out.keep (((Below.refl po v1).setCell (p := ⟨po, 0, none⟩) (Nat.le_refl _) (.int .i64 k)).setCell (p := ⟨po, 1, none⟩) (Nat.le_refl _) (.int .i64 k)))
          have hmn : Hid (min b (((k + 1 : Nat) : Int) - 1) = k) := by show _ = _; omega
          have hak2 := Lib.hid hak
          clear hak
          go_wp2_with fail
          go_roundw
          case rel => exact ⟨k + 1, by omega, by omega, by go_num, .inr ⟨rfl, by omega, by have := hak2.out; omega, by rw [hmn.out, hak2.out]; exact HB.out⟩, HX2, by simpa using hp1⟩
          case measure => simp [intOf]; omega
        · have HK := Lib.hid o4
          clear o4 HO
          go_wp2_with fail
          refine HC.out.mono ?_
          rintro e v1 ⟨rfl, hb1⟩
          replace HK := Lib.hid (HK.out.below hb1 hp)
          have HX1 := Lib.hid (HX.out.keep (hb1.mono (Nat.le_of_lt hp)))
          clear hb1 c0 c1 HX HC
          have f1 := HK.out.frozen 1
          have q1 := HK.out.cell 1
          have hp1 := HK.out.lt
          have HB := Lib.hid (HK.out.set_ 1 (.int .i64 k))
          have HX2 := Lib.hid (HX1.out.keep ((Below.refl po v1).setCell (p := ⟨po, 1, none⟩) (Nat.le_refl _) (.int .i64 k)))
          have hmn : Hid (min b (((k + 1 : Nat) : Int) - 1) = k) := by show _ = _; omega
          go_wp2_with fail
          go_roundw
          case rel => exact ⟨k + 1, by omega, by omega, by go_num, .inr ⟨rfl, o2, by omega, by rw [hmn.out]; exact HB.out⟩, HX2, by simpa using hp1⟩
          case measure => simp [intOf]; omega
      · rw [decide_eq_false hm] at HC
        have HO2 : Hid (∀ W, MxR a b k u13 po W → MxR a b ((k + 1 : Nat) : Int) u13 po W) := fun W h => by
          rcases h with ⟨e1, e2, e3⟩ | ⟨e1, e2, e3, e4⟩
          · exact .inl ⟨e1, by omega, e3⟩
          · refine .inr ⟨e1, e2, by omega, ?_⟩
            have : min b (((k + 1 : Nat) : Int) - 1) = min b ((k : Int) - 1) := by omega
            rw [this]; exact e4
        clear hm
        go_wp2_with fail
        refine HC.out.mono ?_
        rintro e v1 ⟨rfl, hb1⟩
        have HO3 := Lib.hid (HO2.out _ (HO.out.call hb1 hp))
        have HX1 := Lib.hid (HX.out.keep (hb1.mono (Nat.le_of_lt hp)))
        have hp1 : po < v1.heap.size := Nat.lt_of_lt_of_le hp hb1.size
        clear hb1 c0 c1 HX HC HO HO2
        go_wp2_with fail
        go_roundw
        case rel => exact ⟨k + 1, by omega, by omega, by go_num, HO3, HX1, hp1⟩
        case measure => simp [intOf]; omega
    · obtain rfl : k = N := by omega
      have hbx := HX.out.below
      have hB1 := Lib.hid HX.out.b1
      rcases HO.out with ⟨rfl, o2, o3⟩ | ⟨rfl, o2, o3, o4⟩
      · have hab' : ¬ a ≤ b := by omega
        have HAB := Lib.hid hab'
        clear HO o3 hab'
        go_wp2_with (refine wpList_store_row rfl 25 (.tmp 10) (.tmp 68) rfl (w.heap.size + 1) #[.int .i64 0, .int .i64 0] rfl rfl 25 _ hB1.out (by kernel_rfl) rfl (by kernel_rfl) ?_)
        exact bodyPost_ret (results_blk_tmp rfl _ rfl (hB1.out.row _) (by kernel_rfl) (by kernel_rfl)) rfl ⟨Eq.trans (b := Ending.returned (.tuple #[.agg #[.int .i64 0, .int .i64 0], .int .i64 4])) rfl (ret_none (by have := HAB.out; omega)), below_setRow hbx hle _⟩
      · have hmn : min b ((k : Int) - 1) = b := by omega
        rw [hmn] at o4
        have HK := Lib.hid o4
        clear o4 HO hmn
        have q0 := HK.out.cell 0
        have q1 := HK.out.cell 1
        go_wp2_with (refine wpList_store_row rfl 25 (.tmp 10) (.tmp 69) rfl (w.heap.size + 1) #[.int .i64 a, .int .i64 b] rfl rfl 25 _ hB1.out (by kernel_rfl) rfl (by kernel_rfl) ?_)
        exact bodyPost_ret (results_blk_tmp rfl _ rfl (hB1.out.row #[.int .i64 a, .int .i64 b]) (by kernel_rfl) (by kernel_rfl)) rfl ⟨Eq.trans (b := Ending.returned (.tuple #[.agg #[.int .i64 a, .int .i64 b], .int .i64 0])) rfl (ret_num rfl rfl o2), below_setRow hbx hle _⟩
end Go.Proofs.Ytkeplgpeokjdkaa
