/- The law SlatNames: its walk. -/
import Derived.Test.YtaafmfhpoimjhaaYn
namespace Go.Proofs.Ytaafmfhpoimjhaa
open Go.RowKit Go.Shelf

set_option maxRecDepth 100000 in
set_option maxHeartbeats 8000000 in
theorem names05_any (w : World) : Calls Try.prog 4 #[] w (Ret (.bool true) w) := by
  go_enter Try.func4, Try.ntmps4
  go_wp2_with fail
  refine (slats43_any _).mono ?_
  rintro e V1 ⟨rfl, hb⟩
  have HS := Lib.hid (AlS.start hb)
  clear hb
  go_upto_region 2 with fail
  generalize World.alloc (World.alloc (World.alloc (World.alloc V1 _) _) _) _ = V2 at HS ⊢
  generalize V1.heap.size = q at HS ⊢
  go_cut [5, 6, 7] (fun a b c wx => ∃ g5 g6, a = .pointer (some ⟨g5, 0, none⟩) ∧ b = .pointer (some ⟨g6, 0, none⟩) ∧ c = .int .i64 0 ∧ Hid (AlS w q wx) ∧ Hid (Blk wx g5 23 #[.int .i64 (-12), .int .i64 16]) ∧ Hid (Blk wx g6 23 #[.int .i64 (-70), .int .i64 40]))
  case first =>
    go_wp2_with fail
    replace HS := Lib.hid (HS.out.call (Below.refl _ _).drew)
    refine wp_region_held_drew (S := fun W9 => Blk W9 q 37 #[.int .i64 5000, .int .i64 5010, .int .i64 1010, .int .i64 1020, .int .i64 0, .int .i64 4, .int .i64 1, .int .i64 2] ∧ Blk W9 (q + 1) 37 #[.int .i64 4980, .int .i64 4990, .int .i64 1000, .int .i64 1010, .int .i64 (-2), .int .i64 2, .int .i64 0, .int .i64 1]) (by kernel_rfl) ⟨HS.out.k1, HS.out.k2⟩ (fun hH0 => ?_)
    generalize World.drew _ = V0 at *
    simp only [List.size_toArray, List.length_cons, List.length_nil, Nat.reduceAdd, Array.replicate_succ, Array.replicate_zero, List.push_toArray, List.nil_append, List.cons_append]
    refine wpAnyH_take (i := 1) (v := _) rfl (by kernel_rfl) (by kernel_rfl) (by kernel_rfl) (fun _ _ _ h => h) (yieldsIf_load_mid (by rfl) _ _ rfl _ _ rfl [.int .i64 5000, .int .i64 5010, .int .i64 1010, .int .i64 1020, .int .i64 0, .int .i64 4, .int .i64 1, .int .i64 2] _ (fun w0 h0 => h0.1.range) (by rfl) (by rfl) (by kernel_rfl)) (by assumption) ?_
    (try simp only [Act.put, List.getElem_toArray, List.setIfInBounds_toArray, List.set_cons_zero, List.set_cons_succ])
    refine wpAnyH_take (i := 2) (v := _) rfl (by kernel_rfl) (by kernel_rfl) (by kernel_rfl) (fun _ _ _ h => h) (yieldsIf_load_mid (by rfl) _ _ rfl _ _ rfl [.int .i64 4980, .int .i64 4990, .int .i64 1000, .int .i64 1010, .int .i64 (-2), .int .i64 2, .int .i64 0, .int .i64 1] _ (fun w0 h0 => h0.2.range) (by rfl) (by rfl) (by kernel_rfl)) (by assumption) ?_
    (try simp only [Act.put, List.getElem_toArray, List.getElem_cons_succ, List.getElem_cons_zero, List.setIfInBounds_toArray, List.set_cons_zero, List.set_cons_succ])
    refine wpAnyH_ready (rs := [0, 8, 9]) (by kernel_rfl) (by simp) ?_
    refine AllReadyH.cons (by simp only [List.getElem?_toArray, List.getElem?_cons_zero]; rfl) (fun K hK => ?_) ?_
    · go_simp
      refine (jig45_any _).mono ?_
      rintro e X ⟨rfl, hb⟩
      replace HS := Lib.hid (HS.out.call hb)
      clear hb
      refine hK.out _ _ ⟨HS.out.k1, HS.out.k2⟩ (fun hH1 => ?_)
      clear hK K
      try simp only [List.setIfInBounds_toArray, List.set_cons_zero]
      refine wpAnyH_ready (rs := [3, 8, 9]) (by kernel_rfl) (by simp) ?_
      refine AllReadyH.cons (by simp only [List.getElem?_toArray, List.getElem?_cons_succ, List.getElem?_cons_zero]; rfl) (fun K hK => ?_) ?_
      · go_simp
        refine (offN0_any _).mono ?_
        rintro e X ⟨rfl, hb⟩
        replace HS := Lib.hid (HS.out.call hb)
        clear hb
        refine hK.out _ _ ⟨HS.out.k1, HS.out.k2⟩ (fun hH2 => ?_)
        clear hK K
        try simp only [List.setIfInBounds_toArray, List.set_cons_zero, List.set_cons_succ]
        refine wpAnyH_take (i := 4 ) (v := ?_) rfl (by kernel_rfl) (by kernel_rfl) (by kernel_rfl) (fun _ _ _ h => h) (Or.inl ⟨by rfl, ?_⟩) (by assumption) ?_; rotate_left; (· (intro w0 hSw; clear hSw; go_simp); first | done | with_reducible rfl); (try simp only [Act.put, List.getElem_toArray, List.getElem_cons_succ, List.getElem_cons_zero, List.setIfInBounds_toArray, List.set_cons_zero, List.set_cons_succ])
        refine wpAnyH_take (i := 5 ) (v := ?_) rfl (by kernel_rfl) (by kernel_rfl) (by kernel_rfl) (fun _ _ _ h => h) (Or.inl ⟨by rfl, ?_⟩) (by assumption) ?_; rotate_left; (· (intro w0 hSw; clear hSw; go_simp); first | done | with_reducible rfl); (try simp only [Act.put, List.getElem_toArray, List.getElem_cons_succ, List.getElem_cons_zero, List.setIfInBounds_toArray, List.set_cons_zero, List.set_cons_succ])
        refine wpAnyH_take (i := 6 ) (v := ?_) rfl (by kernel_rfl) (by kernel_rfl) (by kernel_rfl) (fun _ _ _ h => h) (Or.inl ⟨by rfl, ?_⟩) (by assumption) ?_; rotate_left; (· (intro w0 hSw; clear hSw; go_simp); first | done | with_reducible rfl); (try simp only [Act.put, List.getElem_toArray, List.getElem_cons_succ, List.getElem_cons_zero, List.setIfInBounds_toArray, List.set_cons_zero, List.set_cons_succ])
        refine wpAnyH_take (i := 7 ) (v := ?_) rfl (by kernel_rfl) (by kernel_rfl) (by kernel_rfl) (fun _ _ _ h => h) (Or.inl ⟨by rfl, ?_⟩) (by assumption) ?_; rotate_left; (· (intro w0 hSw; clear hSw; go_simp); first | done | with_reducible rfl); (try simp only [Act.put, List.getElem_toArray, List.getElem_cons_succ, List.getElem_cons_zero, List.setIfInBounds_toArray, List.set_cons_zero, List.set_cons_succ])
        refine wpAnyH_ready (rs := [8, 9]) (by kernel_rfl) (by simp) ?_
        refine AllReadyH.cons (by simp only [List.getElem?_toArray, List.getElem?_cons_succ, List.getElem?_cons_zero]; rfl) (fun K hK => ?_) ?_
        · go_simp
          have hb : Below X.heap.size X (X.alloc (.cells #[.int .i64 0, .int .i64 0] 23)) := (Below.refl _ _).alloc (Nat.le_refl _) _
          have H5 := Lib.hid (Blk.new X 23 #[.int .i64 0, .int .i64 0])
          have hg5 : q + 1 + 1 + 1 < X.heap.size := HS.out.k4.lt
          replace HS := Lib.hid (HS.out.call hb)
          clear hb
          generalize X.heap.size = g5 at *
          generalize World.alloc X _ = X at *
          refine hK.out _ _ ⟨HS.out.k1, HS.out.k2⟩ (fun hH3 => ?_)
          clear hK K
          try simp only [List.setIfInBounds_toArray, List.set_cons_zero, List.set_cons_succ]
          refine wpAnyH_ready (rs := [9]) (by kernel_rfl) (by simp) ?_
          refine AllReadyH.cons (by simp only [List.getElem?_toArray, List.getElem?_cons_succ, List.getElem?_cons_zero]; rfl) (fun K hK => ?_) AllReadyH.nil
          go_simp
          have hb : Below X.heap.size X (X.alloc (.cells #[.int .i64 0, .int .i64 0] 23)) := (Below.refl _ _).alloc (Nat.le_refl _) _
          have H6 := Lib.hid (Blk.new X 23 #[.int .i64 0, .int .i64 0])
          have hg6 : q + 1 + 1 + 1 < X.heap.size := HS.out.k4.lt
          have hneg5g6 : g5 ≠ X.heap.size := Nat.ne_of_lt H5.out.lt
          replace HS := Lib.hid (HS.out.call hb)
          replace H5 := Lib.hid (H5.out.below hb H5.out.lt)
          clear hb
          generalize X.heap.size = g6 at *
          generalize World.alloc X _ = X at *
          refine hK.out _ _ ⟨HS.out.k1, HS.out.k2⟩ (fun hH4 => ?_)
          clear hK K
          try simp only [List.setIfInBounds_toArray, List.set_cons_zero, List.set_cons_succ]
          refine wpAnyH_ready (rs := [10]) (by kernel_rfl) (by simp) ?_
          refine AllReadyH.cons (by simp only [List.getElem?_toArray, List.getElem?_cons_succ, List.getElem?_cons_zero]; rfl) (fun K hK => ?_) AllReadyH.nil
          rw [if_pos (by rfl)]
          refine wp_store_mid 23 (.tmp 5) (.tmp 33) (by rfl) g5 0 #[.int .i64 (-12), .int .i64 16] (by rfl) (by rfl) (there_mid (o := 0) H5.out (by simp)) (by kernel_rfl) (by simp [Value.oneCell']) ?_
          replace HS := Lib.hid (HS.out.low (set2_low (x := .int .i64 (-12)) (y := .int .i64 16) (g := g5) (by omega)))
          replace H5 := Lib.hid (set2_blk (x := .int .i64 (-12)) (y := .int .i64 16) H5.out)
          replace H6 := Lib.hid (far2 (x := .int .i64 (-12)) (y := .int .i64 16) (show g6 ≠ g5 by omega) H6.out)
          refine hK.out _ _ ⟨HS.out.k1, HS.out.k2⟩ (fun hH5 => ?_)
          clear hK K
          try simp only [List.setIfInBounds_toArray, List.set_cons_zero, List.set_cons_succ]
          refine wpAnyH_ready (rs := [11]) (by kernel_rfl) (by simp) ?_
          refine AllReadyH.cons (by simp only [List.getElem?_toArray, List.getElem?_cons_succ, List.getElem?_cons_zero]; rfl) (fun K hK => ?_) AllReadyH.nil
          rw [if_pos (by rfl)]
          refine wp_store_mid 23 (.tmp 6) (.tmp 34) (by rfl) g6 0 #[.int .i64 (-70), .int .i64 40] (by rfl) (by rfl) (there_mid (o := 0) H6.out (by simp)) (by kernel_rfl) (by simp [Value.oneCell']) ?_
          replace HS := Lib.hid (HS.out.low (set2_low (x := .int .i64 (-70)) (y := .int .i64 40) (g := g6) (by omega)))
          replace H6 := Lib.hid (set2_blk (x := .int .i64 (-70)) (y := .int .i64 40) H6.out)
          replace H5 := Lib.hid (far2 (x := .int .i64 (-70)) (y := .int .i64 40) (show g5 ≠ g6 by omega) H5.out)
          refine hK.out _ _ ⟨HS.out.k1, HS.out.k2⟩ (fun hH6 => ?_)
          clear hK K
          try simp only [List.setIfInBounds_toArray, List.set_cons_zero, List.set_cons_succ]
          refine wpAnyH_take (i := 12 ) (v := ?_) rfl (by kernel_rfl) (by kernel_rfl) (by kernel_rfl) (fun _ _ _ h => h) (Or.inl ⟨by rfl, ?_⟩) (by assumption) ?_; rotate_left; (· (intro w0 hSw; clear hSw; go_simp); first | done | with_reducible rfl); (try simp only [Act.put, List.getElem_toArray, List.getElem_cons_succ, List.getElem_cons_zero, List.setIfInBounds_toArray, List.set_cons_zero, List.set_cons_succ])
          refine wpAnyH_done (by kernel_rfl) ?_ _
          go_wp2_with fail
          go_meet
          exact ⟨g5, g6, rfl, rfl, rfl, HS, H5, H6⟩
        refine AllReadyH.cons (by simp only [List.getElem?_toArray, List.getElem?_cons_succ, List.getElem?_cons_zero]; rfl) (fun K hK => ?_) ?_
        · go_simp
          have hb : Below X.heap.size X (X.alloc (.cells #[.int .i64 0, .int .i64 0] 23)) := (Below.refl _ _).alloc (Nat.le_refl _) _
          have H6 := Lib.hid (Blk.new X 23 #[.int .i64 0, .int .i64 0])
          have hg6 : q + 1 + 1 + 1 < X.heap.size := HS.out.k4.lt
          replace HS := Lib.hid (HS.out.call hb)
          clear hb
          generalize X.heap.size = g6 at *
          generalize World.alloc X _ = X at *
          refine hK.out _ _ ⟨HS.out.k1, HS.out.k2⟩ (fun hH7 => ?_)
          clear hK K
          try simp only [List.setIfInBounds_toArray, List.set_cons_zero, List.set_cons_succ]
          refine wpAnyH_ready (rs := [8]) (by kernel_rfl) (by simp) ?_
          refine AllReadyH.cons (by simp only [List.getElem?_toArray, List.getElem?_cons_succ, List.getElem?_cons_zero]; rfl) (fun K hK => ?_) AllReadyH.nil
          go_simp
          have hb : Below X.heap.size X (X.alloc (.cells #[.int .i64 0, .int .i64 0] 23)) := (Below.refl _ _).alloc (Nat.le_refl _) _
          have H5 := Lib.hid (Blk.new X 23 #[.int .i64 0, .int .i64 0])
          have hg5 : q + 1 + 1 + 1 < X.heap.size := HS.out.k4.lt
          have hneg6g5 : g6 ≠ X.heap.size := Nat.ne_of_lt H6.out.lt
          replace HS := Lib.hid (HS.out.call hb)
          replace H6 := Lib.hid (H6.out.below hb H6.out.lt)
          clear hb
          generalize X.heap.size = g5 at *
          generalize World.alloc X _ = X at *
          refine hK.out _ _ ⟨HS.out.k1, HS.out.k2⟩ (fun hH8 => ?_)
          clear hK K
          try simp only [List.setIfInBounds_toArray, List.set_cons_zero, List.set_cons_succ]
          refine wpAnyH_ready (rs := [10]) (by kernel_rfl) (by simp) ?_
          refine AllReadyH.cons (by simp only [List.getElem?_toArray, List.getElem?_cons_succ, List.getElem?_cons_zero]; rfl) (fun K hK => ?_) AllReadyH.nil
          rw [if_pos (by rfl)]
          refine wp_store_mid 23 (.tmp 5) (.tmp 33) (by rfl) g5 0 #[.int .i64 (-12), .int .i64 16] (by rfl) (by rfl) (there_mid (o := 0) H5.out (by simp)) (by kernel_rfl) (by simp [Value.oneCell']) ?_
          replace HS := Lib.hid (HS.out.low (set2_low (x := .int .i64 (-12)) (y := .int .i64 16) (g := g5) (by omega)))
          replace H5 := Lib.hid (set2_blk (x := .int .i64 (-12)) (y := .int .i64 16) H5.out)
          replace H6 := Lib.hid (far2 (x := .int .i64 (-12)) (y := .int .i64 16) (show g6 ≠ g5 by omega) H6.out)
          refine hK.out _ _ ⟨HS.out.k1, HS.out.k2⟩ (fun hH9 => ?_)
          clear hK K
          try simp only [List.setIfInBounds_toArray, List.set_cons_zero, List.set_cons_succ]
          refine wpAnyH_ready (rs := [11]) (by kernel_rfl) (by simp) ?_
          refine AllReadyH.cons (by simp only [List.getElem?_toArray, List.getElem?_cons_succ, List.getElem?_cons_zero]; rfl) (fun K hK => ?_) AllReadyH.nil
          rw [if_pos (by rfl)]
          refine wp_store_mid 23 (.tmp 6) (.tmp 34) (by rfl) g6 0 #[.int .i64 (-70), .int .i64 40] (by rfl) (by rfl) (there_mid (o := 0) H6.out (by simp)) (by kernel_rfl) (by simp [Value.oneCell']) ?_
          replace HS := Lib.hid (HS.out.low (set2_low (x := .int .i64 (-70)) (y := .int .i64 40) (g := g6) (by omega)))
          replace H6 := Lib.hid (set2_blk (x := .int .i64 (-70)) (y := .int .i64 40) H6.out)
          replace H5 := Lib.hid (far2 (x := .int .i64 (-70)) (y := .int .i64 40) (show g5 ≠ g6 by omega) H5.out)
          refine hK.out _ _ ⟨HS.out.k1, HS.out.k2⟩ (fun hH10 => ?_)
          clear hK K
          try simp only [List.setIfInBounds_toArray, List.set_cons_zero, List.set_cons_succ]
          refine wpAnyH_take (i := 12 ) (v := ?_) rfl (by kernel_rfl) (by kernel_rfl) (by kernel_rfl) (fun _ _ _ h => h) (Or.inl ⟨by rfl, ?_⟩) (by assumption) ?_; rotate_left; (· (intro w0 hSw; clear hSw; go_simp); first | done | with_reducible rfl); (try simp only [Act.put, List.getElem_toArray, List.getElem_cons_succ, List.getElem_cons_zero, List.setIfInBounds_toArray, List.set_cons_zero, List.set_cons_succ])
          refine wpAnyH_done (by kernel_rfl) ?_ _
          go_wp2_with fail
          go_meet
          exact ⟨g5, g6, rfl, rfl, rfl, HS, H5, H6⟩
        exact AllReadyH.nil
      refine AllReadyH.cons (by simp only [List.getElem?_toArray, List.getElem?_cons_succ, List.getElem?_cons_zero]; rfl) (fun K hK => ?_) ?_
      · go_simp
        have hb : Below X.heap.size X (X.alloc (.cells #[.int .i64 0, .int .i64 0] 23)) := (Below.refl _ _).alloc (Nat.le_refl _) _
        have H5 := Lib.hid (Blk.new X 23 #[.int .i64 0, .int .i64 0])
        have hg5 : q + 1 + 1 + 1 < X.heap.size := HS.out.k4.lt
        replace HS := Lib.hid (HS.out.call hb)
        clear hb
        generalize X.heap.size = g5 at *
        generalize World.alloc X _ = X at *
        refine hK.out _ _ ⟨HS.out.k1, HS.out.k2⟩ (fun hH11 => ?_)
        clear hK K
        try simp only [List.setIfInBounds_toArray, List.set_cons_zero, List.set_cons_succ]
        refine wpAnyH_ready (rs := [3, 9]) (by kernel_rfl) (by simp) ?_
        refine AllReadyH.cons (by simp only [List.getElem?_toArray, List.getElem?_cons_succ, List.getElem?_cons_zero]; rfl) (fun K hK => ?_) ?_
        · go_simp
          refine (offN0_any _).mono ?_
          rintro e X ⟨rfl, hb⟩
          replace HS := Lib.hid (HS.out.call hb)
          replace H5 := Lib.hid (H5.out.below hb H5.out.lt)
          clear hb
          refine hK.out _ _ ⟨HS.out.k1, HS.out.k2⟩ (fun hH12 => ?_)
          clear hK K
          try simp only [List.setIfInBounds_toArray, List.set_cons_zero, List.set_cons_succ]
          refine wpAnyH_take (i := 4 ) (v := ?_) rfl (by kernel_rfl) (by kernel_rfl) (by kernel_rfl) (fun _ _ _ h => h) (Or.inl ⟨by rfl, ?_⟩) (by assumption) ?_; rotate_left; (· (intro w0 hSw; clear hSw; go_simp); first | done | with_reducible rfl); (try simp only [Act.put, List.getElem_toArray, List.getElem_cons_succ, List.getElem_cons_zero, List.setIfInBounds_toArray, List.set_cons_zero, List.set_cons_succ])
          refine wpAnyH_take (i := 5 ) (v := ?_) rfl (by kernel_rfl) (by kernel_rfl) (by kernel_rfl) (fun _ _ _ h => h) (Or.inl ⟨by rfl, ?_⟩) (by assumption) ?_; rotate_left; (· (intro w0 hSw; clear hSw; go_simp); first | done | with_reducible rfl); (try simp only [Act.put, List.getElem_toArray, List.getElem_cons_succ, List.getElem_cons_zero, List.setIfInBounds_toArray, List.set_cons_zero, List.set_cons_succ])
          refine wpAnyH_take (i := 6 ) (v := ?_) rfl (by kernel_rfl) (by kernel_rfl) (by kernel_rfl) (fun _ _ _ h => h) (Or.inl ⟨by rfl, ?_⟩) (by assumption) ?_; rotate_left; (· (intro w0 hSw; clear hSw; go_simp); first | done | with_reducible rfl); (try simp only [Act.put, List.getElem_toArray, List.getElem_cons_succ, List.getElem_cons_zero, List.setIfInBounds_toArray, List.set_cons_zero, List.set_cons_succ])
          refine wpAnyH_take (i := 7 ) (v := ?_) rfl (by kernel_rfl) (by kernel_rfl) (by kernel_rfl) (fun _ _ _ h => h) (Or.inl ⟨by rfl, ?_⟩) (by assumption) ?_; rotate_left; (· (intro w0 hSw; clear hSw; go_simp); first | done | with_reducible rfl); (try simp only [Act.put, List.getElem_toArray, List.getElem_cons_succ, List.getElem_cons_zero, List.setIfInBounds_toArray, List.set_cons_zero, List.set_cons_succ])
          refine wpAnyH_ready (rs := [9]) (by kernel_rfl) (by simp) ?_
          refine AllReadyH.cons (by simp only [List.getElem?_toArray, List.getElem?_cons_succ, List.getElem?_cons_zero]; rfl) (fun K hK => ?_) AllReadyH.nil
          go_simp
          have hb : Below X.heap.size X (X.alloc (.cells #[.int .i64 0, .int .i64 0] 23)) := (Below.refl _ _).alloc (Nat.le_refl _) _
          have H6 := Lib.hid (Blk.new X 23 #[.int .i64 0, .int .i64 0])
          have hg6 : q + 1 + 1 + 1 < X.heap.size := HS.out.k4.lt
          have hneg5g6 : g5 ≠ X.heap.size := Nat.ne_of_lt H5.out.lt
          replace HS := Lib.hid (HS.out.call hb)
          replace H5 := Lib.hid (H5.out.below hb H5.out.lt)
          clear hb
          generalize X.heap.size = g6 at *
          generalize World.alloc X _ = X at *
          refine hK.out _ _ ⟨HS.out.k1, HS.out.k2⟩ (fun hH13 => ?_)
          clear hK K
          try simp only [List.setIfInBounds_toArray, List.set_cons_zero, List.set_cons_succ]
          refine wpAnyH_ready (rs := [10]) (by kernel_rfl) (by simp) ?_
          refine AllReadyH.cons (by simp only [List.getElem?_toArray, List.getElem?_cons_succ, List.getElem?_cons_zero]; rfl) (fun K hK => ?_) AllReadyH.nil
          rw [if_pos (by rfl)]
          refine wp_store_mid 23 (.tmp 5) (.tmp 33) (by rfl) g5 0 #[.int .i64 (-12), .int .i64 16] (by rfl) (by rfl) (there_mid (o := 0) H5.out (by simp)) (by kernel_rfl) (by simp [Value.oneCell']) ?_
          replace HS := Lib.hid (HS.out.low (set2_low (x := .int .i64 (-12)) (y := .int .i64 16) (g := g5) (by omega)))
          replace H5 := Lib.hid (set2_blk (x := .int .i64 (-12)) (y := .int .i64 16) H5.out)
          replace H6 := Lib.hid (far2 (x := .int .i64 (-12)) (y := .int .i64 16) (show g6 ≠ g5 by omega) H6.out)
          refine hK.out _ _ ⟨HS.out.k1, HS.out.k2⟩ (fun hH14 => ?_)
          clear hK K
          try simp only [List.setIfInBounds_toArray, List.set_cons_zero, List.set_cons_succ]
          refine wpAnyH_ready (rs := [11]) (by kernel_rfl) (by simp) ?_
          refine AllReadyH.cons (by simp only [List.getElem?_toArray, List.getElem?_cons_succ, List.getElem?_cons_zero]; rfl) (fun K hK => ?_) AllReadyH.nil
          rw [if_pos (by rfl)]
          refine wp_store_mid 23 (.tmp 6) (.tmp 34) (by rfl) g6 0 #[.int .i64 (-70), .int .i64 40] (by rfl) (by rfl) (there_mid (o := 0) H6.out (by simp)) (by kernel_rfl) (by simp [Value.oneCell']) ?_
          replace HS := Lib.hid (HS.out.low (set2_low (x := .int .i64 (-70)) (y := .int .i64 40) (g := g6) (by omega)))
          replace H6 := Lib.hid (set2_blk (x := .int .i64 (-70)) (y := .int .i64 40) H6.out)
          replace H5 := Lib.hid (far2 (x := .int .i64 (-70)) (y := .int .i64 40) (show g5 ≠ g6 by omega) H5.out)
          refine hK.out _ _ ⟨HS.out.k1, HS.out.k2⟩ (fun hH15 => ?_)
          clear hK K
          try simp only [List.setIfInBounds_toArray, List.set_cons_zero, List.set_cons_succ]
          refine wpAnyH_take (i := 12 ) (v := ?_) rfl (by kernel_rfl) (by kernel_rfl) (by kernel_rfl) (fun _ _ _ h => h) (Or.inl ⟨by rfl, ?_⟩) (by assumption) ?_; rotate_left; (· (intro w0 hSw; clear hSw; go_simp); first | done | with_reducible rfl); (try simp only [Act.put, List.getElem_toArray, List.getElem_cons_succ, List.getElem_cons_zero, List.setIfInBounds_toArray, List.set_cons_zero, List.set_cons_succ])
          refine wpAnyH_done (by kernel_rfl) ?_ _
          go_wp2_with fail
          go_meet
          exact ⟨g5, g6, rfl, rfl, rfl, HS, H5, H6⟩
        refine AllReadyH.cons (by simp only [List.getElem?_toArray, List.getElem?_cons_succ, List.getElem?_cons_zero]; rfl) (fun K hK => ?_) ?_
        · go_simp
          have hb : Below X.heap.size X (X.alloc (.cells #[.int .i64 0, .int .i64 0] 23)) := (Below.refl _ _).alloc (Nat.le_refl _) _
          have H6 := Lib.hid (Blk.new X 23 #[.int .i64 0, .int .i64 0])
          have hg6 : q + 1 + 1 + 1 < X.heap.size := HS.out.k4.lt
          have hneg5g6 : g5 ≠ X.heap.size := Nat.ne_of_lt H5.out.lt
          replace HS := Lib.hid (HS.out.call hb)
          replace H5 := Lib.hid (H5.out.below hb H5.out.lt)
          clear hb
          generalize X.heap.size = g6 at *
          generalize World.alloc X _ = X at *
          refine hK.out _ _ ⟨HS.out.k1, HS.out.k2⟩ (fun hH16 => ?_)
          clear hK K
          try simp only [List.setIfInBounds_toArray, List.set_cons_zero, List.set_cons_succ]
          refine wpAnyH_ready (rs := [3]) (by kernel_rfl) (by simp) ?_
          refine AllReadyH.cons (by simp only [List.getElem?_toArray, List.getElem?_cons_succ, List.getElem?_cons_zero]; rfl) (fun K hK => ?_) AllReadyH.nil
          go_simp
          refine (offN0_any _).mono ?_
          rintro e X ⟨rfl, hb⟩
          replace HS := Lib.hid (HS.out.call hb)
          replace H5 := Lib.hid (H5.out.below hb H5.out.lt)
          replace H6 := Lib.hid (H6.out.below hb H6.out.lt)
          clear hb
          refine hK.out _ _ ⟨HS.out.k1, HS.out.k2⟩ (fun hH17 => ?_)
          clear hK K
          try simp only [List.setIfInBounds_toArray, List.set_cons_zero, List.set_cons_succ]
          refine wpAnyH_take (i := 4 ) (v := ?_) rfl (by kernel_rfl) (by kernel_rfl) (by kernel_rfl) (fun _ _ _ h => h) (Or.inl ⟨by rfl, ?_⟩) (by assumption) ?_; rotate_left; (· (intro w0 hSw; clear hSw; go_simp); first | done | with_reducible rfl); (try simp only [Act.put, List.getElem_toArray, List.getElem_cons_succ, List.getElem_cons_zero, List.setIfInBounds_toArray, List.set_cons_zero, List.set_cons_succ])
          refine wpAnyH_take (i := 5 ) (v := ?_) rfl (by kernel_rfl) (by kernel_rfl) (by kernel_rfl) (fun _ _ _ h => h) (Or.inl ⟨by rfl, ?_⟩) (by assumption) ?_; rotate_left; (· (intro w0 hSw; clear hSw; go_simp); first | done | with_reducible rfl); (try simp only [Act.put, List.getElem_toArray, List.getElem_cons_succ, List.getElem_cons_zero, List.setIfInBounds_toArray, List.set_cons_zero, List.set_cons_succ])
          refine wpAnyH_take (i := 6 ) (v := ?_) rfl (by kernel_rfl) (by kernel_rfl) (by kernel_rfl) (fun _ _ _ h => h) (Or.inl ⟨by rfl, ?_⟩) (by assumption) ?_; rotate_left; (· (intro w0 hSw; clear hSw; go_simp); first | done | with_reducible rfl); (try simp only [Act.put, List.getElem_toArray, List.getElem_cons_succ, List.getElem_cons_zero, List.setIfInBounds_toArray, List.set_cons_zero, List.set_cons_succ])
          refine wpAnyH_take (i := 7 ) (v := ?_) rfl (by kernel_rfl) (by kernel_rfl) (by kernel_rfl) (fun _ _ _ h => h) (Or.inl ⟨by rfl, ?_⟩) (by assumption) ?_; rotate_left; (· (intro w0 hSw; clear hSw; go_simp); first | done | with_reducible rfl); (try simp only [Act.put, List.getElem_toArray, List.getElem_cons_succ, List.getElem_cons_zero, List.setIfInBounds_toArray, List.set_cons_zero, List.set_cons_succ])
          refine wpAnyH_ready (rs := [10]) (by kernel_rfl) (by simp) ?_
          refine AllReadyH.cons (by simp only [List.getElem?_toArray, List.getElem?_cons_succ, List.getElem?_cons_zero]; rfl) (fun K hK => ?_) AllReadyH.nil
          rw [if_pos (by rfl)]
          refine wp_store_mid 23 (.tmp 5) (.tmp 33) (by rfl) g5 0 #[.int .i64 (-12), .int .i64 16] (by rfl) (by rfl) (there_mid (o := 0) H5.out (by simp)) (by kernel_rfl) (by simp [Value.oneCell']) ?_
          replace HS := Lib.hid (HS.out.low (set2_low (x := .int .i64 (-12)) (y := .int .i64 16) (g := g5) (by omega)))
          replace H5 := Lib.hid (set2_blk (x := .int .i64 (-12)) (y := .int .i64 16) H5.out)
          replace H6 := Lib.hid (far2 (x := .int .i64 (-12)) (y := .int .i64 16) (show g6 ≠ g5 by omega) H6.out)
          refine hK.out _ _ ⟨HS.out.k1, HS.out.k2⟩ (fun hH18 => ?_)
          clear hK K
          try simp only [List.setIfInBounds_toArray, List.set_cons_zero, List.set_cons_succ]
          refine wpAnyH_ready (rs := [11]) (by kernel_rfl) (by simp) ?_
          refine AllReadyH.cons (by simp only [List.getElem?_toArray, List.getElem?_cons_succ, List.getElem?_cons_zero]; rfl) (fun K hK => ?_) AllReadyH.nil
          rw [if_pos (by rfl)]
          refine wp_store_mid 23 (.tmp 6) (.tmp 34) (by rfl) g6 0 #[.int .i64 (-70), .int .i64 40] (by rfl) (by rfl) (there_mid (o := 0) H6.out (by simp)) (by kernel_rfl) (by simp [Value.oneCell']) ?_
          replace HS := Lib.hid (HS.out.low (set2_low (x := .int .i64 (-70)) (y := .int .i64 40) (g := g6) (by omega)))
          replace H6 := Lib.hid (set2_blk (x := .int .i64 (-70)) (y := .int .i64 40) H6.out)
          replace H5 := Lib.hid (far2 (x := .int .i64 (-70)) (y := .int .i64 40) (show g5 ≠ g6 by omega) H5.out)
          refine hK.out _ _ ⟨HS.out.k1, HS.out.k2⟩ (fun hH19 => ?_)
          clear hK K
          try simp only [List.setIfInBounds_toArray, List.set_cons_zero, List.set_cons_succ]
          refine wpAnyH_take (i := 12 ) (v := ?_) rfl (by kernel_rfl) (by kernel_rfl) (by kernel_rfl) (fun _ _ _ h => h) (Or.inl ⟨by rfl, ?_⟩) (by assumption) ?_; rotate_left; (· (intro w0 hSw; clear hSw; go_simp); first | done | with_reducible rfl); (try simp only [Act.put, List.getElem_toArray, List.getElem_cons_succ, List.getElem_cons_zero, List.setIfInBounds_toArray, List.set_cons_zero, List.set_cons_succ])
          refine wpAnyH_done (by kernel_rfl) ?_ _
          go_wp2_with fail
          go_meet
          exact ⟨g5, g6, rfl, rfl, rfl, HS, H5, H6⟩
        exact AllReadyH.nil
      refine AllReadyH.cons (by simp only [List.getElem?_toArray, List.getElem?_cons_succ, List.getElem?_cons_zero]; rfl) (fun K hK => ?_) ?_
      · go_simp
        have hb : Below X.heap.size X (X.alloc (.cells #[.int .i64 0, .int .i64 0] 23)) := (Below.refl _ _).alloc (Nat.le_refl _) _
        have H6 := Lib.hid (Blk.new X 23 #[.int .i64 0, .int .i64 0])
        have hg6 : q + 1 + 1 + 1 < X.heap.size := HS.out.k4.lt
        replace HS := Lib.hid (HS.out.call hb)
        clear hb
        generalize X.heap.size = g6 at *
        generalize World.alloc X _ = X at *
        refine hK.out _ _ ⟨HS.out.k1, HS.out.k2⟩ (fun hH20 => ?_)
        clear hK K
        try simp only [List.setIfInBounds_toArray, List.set_cons_zero, List.set_cons_succ]
        refine wpAnyH_ready (rs := [3, 8]) (by kernel_rfl) (by simp) ?_
        refine AllReadyH.cons (by simp only [List.getElem?_toArray, List.getElem?_cons_succ, List.getElem?_cons_zero]; rfl) (fun K hK => ?_) ?_
        · go_simp
          refine (offN0_any _).mono ?_
          rintro e X ⟨rfl, hb⟩
          replace HS := Lib.hid (HS.out.call hb)
          replace H6 := Lib.hid (H6.out.below hb H6.out.lt)
          clear hb
          refine hK.out _ _ ⟨HS.out.k1, HS.out.k2⟩ (fun hH21 => ?_)
          clear hK K
          try simp only [List.setIfInBounds_toArray, List.set_cons_zero, List.set_cons_succ]
          refine wpAnyH_take (i := 4 ) (v := ?_) rfl (by kernel_rfl) (by kernel_rfl) (by kernel_rfl) (fun _ _ _ h => h) (Or.inl ⟨by rfl, ?_⟩) (by assumption) ?_; rotate_left; (· (intro w0 hSw; clear hSw; go_simp); first | done | with_reducible rfl); (try simp only [Act.put, List.getElem_toArray, List.getElem_cons_succ, List.getElem_cons_zero, List.setIfInBounds_toArray, List.set_cons_zero, List.set_cons_succ])
          refine wpAnyH_take (i := 5 ) (v := ?_) rfl (by kernel_rfl) (by kernel_rfl) (by kernel_rfl) (fun _ _ _ h => h) (Or.inl ⟨by rfl, ?_⟩) (by assumption) ?_; rotate_left; (· (intro w0 hSw; clear hSw; go_simp); first | done | with_reducible rfl); (try simp only [Act.put, List.getElem_toArray, List.getElem_cons_succ, List.getElem_cons_zero, List.setIfInBounds_toArray, List.set_cons_zero, List.set_cons_succ])
          refine wpAnyH_take (i := 6 ) (v := ?_) rfl (by kernel_rfl) (by kernel_rfl) (by kernel_rfl) (fun _ _ _ h => h) (Or.inl ⟨by rfl, ?_⟩) (by assumption) ?_; rotate_left; (· (intro w0 hSw; clear hSw; go_simp); first | done | with_reducible rfl); (try simp only [Act.put, List.getElem_toArray, List.getElem_cons_succ, List.getElem_cons_zero, List.setIfInBounds_toArray, List.set_cons_zero, List.set_cons_succ])
          refine wpAnyH_take (i := 7 ) (v := ?_) rfl (by kernel_rfl) (by kernel_rfl) (by kernel_rfl) (fun _ _ _ h => h) (Or.inl ⟨by rfl, ?_⟩) (by assumption) ?_; rotate_left; (· (intro w0 hSw; clear hSw; go_simp); first | done | with_reducible rfl); (try simp only [Act.put, List.getElem_toArray, List.getElem_cons_succ, List.getElem_cons_zero, List.setIfInBounds_toArray, List.set_cons_zero, List.set_cons_succ])
          refine wpAnyH_ready (rs := [8]) (by kernel_rfl) (by simp) ?_
          refine AllReadyH.cons (by simp only [List.getElem?_toArray, List.getElem?_cons_succ, List.getElem?_cons_zero]; rfl) (fun K hK => ?_) AllReadyH.nil
          go_simp
          have hb : Below X.heap.size X (X.alloc (.cells #[.int .i64 0, .int .i64 0] 23)) := (Below.refl _ _).alloc (Nat.le_refl _) _
          have H5 := Lib.hid (Blk.new X 23 #[.int .i64 0, .int .i64 0])
          have hg5 : q + 1 + 1 + 1 < X.heap.size := HS.out.k4.lt
          have hneg6g5 : g6 ≠ X.heap.size := Nat.ne_of_lt H6.out.lt
          replace HS := Lib.hid (HS.out.call hb)
          replace H6 := Lib.hid (H6.out.below hb H6.out.lt)
          clear hb
          generalize X.heap.size = g5 at *
          generalize World.alloc X _ = X at *
          refine hK.out _ _ ⟨HS.out.k1, HS.out.k2⟩ (fun hH22 => ?_)
          clear hK K
          try simp only [List.setIfInBounds_toArray, List.set_cons_zero, List.set_cons_succ]
          refine wpAnyH_ready (rs := [10]) (by kernel_rfl) (by simp) ?_
          refine AllReadyH.cons (by simp only [List.getElem?_toArray, List.getElem?_cons_succ, List.getElem?_cons_zero]; rfl) (fun K hK => ?_) AllReadyH.nil
          rw [if_pos (by rfl)]
          refine wp_store_mid 23 (.tmp 5) (.tmp 33) (by rfl) g5 0 #[.int .i64 (-12), .int .i64 16] (by rfl) (by rfl) (there_mid (o := 0) H5.out (by simp)) (by kernel_rfl) (by simp [Value.oneCell']) ?_
          replace HS := Lib.hid (HS.out.low (set2_low (x := .int .i64 (-12)) (y := .int .i64 16) (g := g5) (by omega)))
          replace H5 := Lib.hid (set2_blk (x := .int .i64 (-12)) (y := .int .i64 16) H5.out)
          replace H6 := Lib.hid (far2 (x := .int .i64 (-12)) (y := .int .i64 16) (show g6 ≠ g5 by omega) H6.out)
          refine hK.out _ _ ⟨HS.out.k1, HS.out.k2⟩ (fun hH23 => ?_)
          clear hK K
          try simp only [List.setIfInBounds_toArray, List.set_cons_zero, List.set_cons_succ]
          refine wpAnyH_ready (rs := [11]) (by kernel_rfl) (by simp) ?_
          refine AllReadyH.cons (by simp only [List.getElem?_toArray, List.getElem?_cons_succ, List.getElem?_cons_zero]; rfl) (fun K hK => ?_) AllReadyH.nil
          rw [if_pos (by rfl)]
          refine wp_store_mid 23 (.tmp 6) (.tmp 34) (by rfl) g6 0 #[.int .i64 (-70), .int .i64 40] (by rfl) (by rfl) (there_mid (o := 0) H6.out (by simp)) (by kernel_rfl) (by simp [Value.oneCell']) ?_
          replace HS := Lib.hid (HS.out.low (set2_low (x := .int .i64 (-70)) (y := .int .i64 40) (g := g6) (by omega)))
          replace H6 := Lib.hid (set2_blk (x := .int .i64 (-70)) (y := .int .i64 40) H6.out)
          replace H5 := Lib.hid (far2 (x := .int .i64 (-70)) (y := .int .i64 40) (show g5 ≠ g6 by omega) H5.out)
          refine hK.out _ _ ⟨HS.out.k1, HS.out.k2⟩ (fun hH24 => ?_)
          clear hK K
          try simp only [List.setIfInBounds_toArray, List.set_cons_zero, List.set_cons_succ]
          refine wpAnyH_take (i := 12 ) (v := ?_) rfl (by kernel_rfl) (by kernel_rfl) (by kernel_rfl) (fun _ _ _ h => h) (Or.inl ⟨by rfl, ?_⟩) (by assumption) ?_; rotate_left; (· (intro w0 hSw; clear hSw; go_simp); first | done | with_reducible rfl); (try simp only [Act.put, List.getElem_toArray, List.getElem_cons_succ, List.getElem_cons_zero, List.setIfInBounds_toArray, List.set_cons_zero, List.set_cons_succ])
          refine wpAnyH_done (by kernel_rfl) ?_ _
          go_wp2_with fail
          go_meet
          exact ⟨g5, g6, rfl, rfl, rfl, HS, H5, H6⟩
        refine AllReadyH.cons (by simp only [List.getElem?_toArray, List.getElem?_cons_succ, List.getElem?_cons_zero]; rfl) (fun K hK => ?_) ?_
        · go_simp
          have hb : Below X.heap.size X (X.alloc (.cells #[.int .i64 0, .int .i64 0] 23)) := (Below.refl _ _).alloc (Nat.le_refl _) _
          have H5 := Lib.hid (Blk.new X 23 #[.int .i64 0, .int .i64 0])
          have hg5 : q + 1 + 1 + 1 < X.heap.size := HS.out.k4.lt
          have hneg6g5 : g6 ≠ X.heap.size := Nat.ne_of_lt H6.out.lt
          replace HS := Lib.hid (HS.out.call hb)
          replace H6 := Lib.hid (H6.out.below hb H6.out.lt)
          clear hb
          generalize X.heap.size = g5 at *
          generalize World.alloc X _ = X at *
          refine hK.out _ _ ⟨HS.out.k1, HS.out.k2⟩ (fun hH25 => ?_)
          clear hK K
          try simp only [List.setIfInBounds_toArray, List.set_cons_zero, List.set_cons_succ]
          refine wpAnyH_ready (rs := [3]) (by kernel_rfl) (by simp) ?_
          refine AllReadyH.cons (by simp only [List.getElem?_toArray, List.getElem?_cons_succ, List.getElem?_cons_zero]; rfl) (fun K hK => ?_) AllReadyH.nil
          go_simp
          refine (offN0_any _).mono ?_
          rintro e X ⟨rfl, hb⟩
          replace HS := Lib.hid (HS.out.call hb)
          replace H5 := Lib.hid (H5.out.below hb H5.out.lt)
          replace H6 := Lib.hid (H6.out.below hb H6.out.lt)
          clear hb
          refine hK.out _ _ ⟨HS.out.k1, HS.out.k2⟩ (fun hH26 => ?_)
          clear hK K
          try simp only [List.setIfInBounds_toArray, List.set_cons_zero, List.set_cons_succ]
          refine wpAnyH_take (i := 4 ) (v := ?_) rfl (by kernel_rfl) (by kernel_rfl) (by kernel_rfl) (fun _ _ _ h => h) (Or.inl ⟨by rfl, ?_⟩) (by assumption) ?_; rotate_left; (· (intro w0 hSw; clear hSw; go_simp); first | done | with_reducible rfl); (try simp only [Act.put, List.getElem_toArray, List.getElem_cons_succ, List.getElem_cons_zero, List.setIfInBounds_toArray, List.set_cons_zero, List.set_cons_succ])
          refine wpAnyH_take (i := 5 ) (v := ?_) rfl (by kernel_rfl) (by kernel_rfl) (by kernel_rfl) (fun _ _ _ h => h) (Or.inl ⟨by rfl, ?_⟩) (by assumption) ?_; rotate_left; (· (intro w0 hSw; clear hSw; go_simp); first | done | with_reducible rfl); (try simp only [Act.put, List.getElem_toArray, List.getElem_cons_succ, List.getElem_cons_zero, List.setIfInBounds_toArray, List.set_cons_zero, List.set_cons_succ])
          refine wpAnyH_take (i := 6 ) (v := ?_) rfl (by kernel_rfl) (by kernel_rfl) (by kernel_rfl) (fun _ _ _ h => h) (Or.inl ⟨by rfl, ?_⟩) (by assumption) ?_; rotate_left; (· (intro w0 hSw; clear hSw; go_simp); first | done | with_reducible rfl); (try simp only [Act.put, List.getElem_toArray, List.getElem_cons_succ, List.getElem_cons_zero, List.setIfInBounds_toArray, List.set_cons_zero, List.set_cons_succ])
          refine wpAnyH_take (i := 7 ) (v := ?_) rfl (by kernel_rfl) (by kernel_rfl) (by kernel_rfl) (fun _ _ _ h => h) (Or.inl ⟨by rfl, ?_⟩) (by assumption) ?_; rotate_left; (· (intro w0 hSw; clear hSw; go_simp); first | done | with_reducible rfl); (try simp only [Act.put, List.getElem_toArray, List.getElem_cons_succ, List.getElem_cons_zero, List.setIfInBounds_toArray, List.set_cons_zero, List.set_cons_succ])
          refine wpAnyH_ready (rs := [10]) (by kernel_rfl) (by simp) ?_
          refine AllReadyH.cons (by simp only [List.getElem?_toArray, List.getElem?_cons_succ, List.getElem?_cons_zero]; rfl) (fun K hK => ?_) AllReadyH.nil
          rw [if_pos (by rfl)]
          refine wp_store_mid 23 (.tmp 5) (.tmp 33) (by rfl) g5 0 #[.int .i64 (-12), .int .i64 16] (by rfl) (by rfl) (there_mid (o := 0) H5.out (by simp)) (by kernel_rfl) (by simp [Value.oneCell']) ?_
          replace HS := Lib.hid (HS.out.low (set2_low (x := .int .i64 (-12)) (y := .int .i64 16) (g := g5) (by omega)))
          replace H5 := Lib.hid (set2_blk (x := .int .i64 (-12)) (y := .int .i64 16) H5.out)
          replace H6 := Lib.hid (far2 (x := .int .i64 (-12)) (y := .int .i64 16) (show g6 ≠ g5 by omega) H6.out)
          refine hK.out _ _ ⟨HS.out.k1, HS.out.k2⟩ (fun hH27 => ?_)
          clear hK K
          try simp only [List.setIfInBounds_toArray, List.set_cons_zero, List.set_cons_succ]
          refine wpAnyH_ready (rs := [11]) (by kernel_rfl) (by simp) ?_
          refine AllReadyH.cons (by simp only [List.getElem?_toArray, List.getElem?_cons_succ, List.getElem?_cons_zero]; rfl) (fun K hK => ?_) AllReadyH.nil
          rw [if_pos (by rfl)]
          refine wp_store_mid 23 (.tmp 6) (.tmp 34) (by rfl) g6 0 #[.int .i64 (-70), .int .i64 40] (by rfl) (by rfl) (there_mid (o := 0) H6.out (by simp)) (by kernel_rfl) (by simp [Value.oneCell']) ?_
          replace HS := Lib.hid (HS.out.low (set2_low (x := .int .i64 (-70)) (y := .int .i64 40) (g := g6) (by omega)))
          replace H6 := Lib.hid (set2_blk (x := .int .i64 (-70)) (y := .int .i64 40) H6.out)
          replace H5 := Lib.hid (far2 (x := .int .i64 (-70)) (y := .int .i64 40) (show g5 ≠ g6 by omega) H5.out)
          refine hK.out _ _ ⟨HS.out.k1, HS.out.k2⟩ (fun hH28 => ?_)
          clear hK K
          try simp only [List.setIfInBounds_toArray, List.set_cons_zero, List.set_cons_succ]
          refine wpAnyH_take (i := 12 ) (v := ?_) rfl (by kernel_rfl) (by kernel_rfl) (by kernel_rfl) (fun _ _ _ h => h) (Or.inl ⟨by rfl, ?_⟩) (by assumption) ?_; rotate_left; (· (intro w0 hSw; clear hSw; go_simp); first | done | with_reducible rfl); (try simp only [Act.put, List.getElem_toArray, List.getElem_cons_succ, List.getElem_cons_zero, List.setIfInBounds_toArray, List.set_cons_zero, List.set_cons_succ])
          refine wpAnyH_done (by kernel_rfl) ?_ _
          go_wp2_with fail
          go_meet
          exact ⟨g5, g6, rfl, rfl, rfl, HS, H5, H6⟩
        exact AllReadyH.nil
      exact AllReadyH.nil
    refine AllReadyH.cons (by simp only [List.getElem?_toArray, List.getElem?_cons_succ, List.getElem?_cons_zero]; rfl) (fun K hK => ?_) ?_
    · go_simp
      have hb : Below V0.heap.size V0 (V0.alloc (.cells #[.int .i64 0, .int .i64 0] 23)) := (Below.refl _ _).alloc (Nat.le_refl _) _
      have H5 := Lib.hid (Blk.new V0 23 #[.int .i64 0, .int .i64 0])
      have hg5 : q + 1 + 1 + 1 < V0.heap.size := HS.out.k4.lt
      replace HS := Lib.hid (HS.out.call hb)
      clear hb
      generalize V0.heap.size = g5 at *
      generalize World.alloc V0 _ = X at *
      refine hK.out _ _ ⟨HS.out.k1, HS.out.k2⟩ (fun hH29 => ?_)
      clear hK K
      try simp only [List.setIfInBounds_toArray, List.set_cons_zero, List.set_cons_succ]
      refine wpAnyH_ready (rs := [0, 9]) (by kernel_rfl) (by simp) ?_
      refine AllReadyH.cons (by simp only [List.getElem?_toArray, List.getElem?_cons_zero]; rfl) (fun K hK => ?_) ?_
      · go_simp
        refine (jig45_any _).mono ?_
        rintro e X ⟨rfl, hb⟩
        replace HS := Lib.hid (HS.out.call hb)
        replace H5 := Lib.hid (H5.out.below hb H5.out.lt)
        clear hb
        refine hK.out _ _ ⟨HS.out.k1, HS.out.k2⟩ (fun hH30 => ?_)
        clear hK K
        try simp only [List.setIfInBounds_toArray, List.set_cons_zero]
        refine wpAnyH_ready (rs := [3, 9]) (by kernel_rfl) (by simp) ?_
        refine AllReadyH.cons (by simp only [List.getElem?_toArray, List.getElem?_cons_succ, List.getElem?_cons_zero]; rfl) (fun K hK => ?_) ?_
        · go_simp
          refine (offN0_any _).mono ?_
          rintro e X ⟨rfl, hb⟩
          replace HS := Lib.hid (HS.out.call hb)
          replace H5 := Lib.hid (H5.out.below hb H5.out.lt)
          clear hb
          refine hK.out _ _ ⟨HS.out.k1, HS.out.k2⟩ (fun hH31 => ?_)
          clear hK K
          try simp only [List.setIfInBounds_toArray, List.set_cons_zero, List.set_cons_succ]
          refine wpAnyH_take (i := 4 ) (v := ?_) rfl (by kernel_rfl) (by kernel_rfl) (by kernel_rfl) (fun _ _ _ h => h) (Or.inl ⟨by rfl, ?_⟩) (by assumption) ?_; rotate_left; (· (intro w0 hSw; clear hSw; go_simp); first | done | with_reducible rfl); (try simp only [Act.put, List.getElem_toArray, List.getElem_cons_succ, List.getElem_cons_zero, List.setIfInBounds_toArray, List.set_cons_zero, List.set_cons_succ])
          refine wpAnyH_take (i := 5 ) (v := ?_) rfl (by kernel_rfl) (by kernel_rfl) (by kernel_rfl) (fun _ _ _ h => h) (Or.inl ⟨by rfl, ?_⟩) (by assumption) ?_; rotate_left; (· (intro w0 hSw; clear hSw; go_simp); first | done | with_reducible rfl); (try simp only [Act.put, List.getElem_toArray, List.getElem_cons_succ, List.getElem_cons_zero, List.setIfInBounds_toArray, List.set_cons_zero, List.set_cons_succ])
          refine wpAnyH_take (i := 6 ) (v := ?_) rfl (by kernel_rfl) (by kernel_rfl) (by kernel_rfl) (fun _ _ _ h => h) (Or.inl ⟨by rfl, ?_⟩) (by assumption) ?_; rotate_left; (· (intro w0 hSw; clear hSw; go_simp); first | done | with_reducible rfl); (try simp only [Act.put, List.getElem_toArray, List.getElem_cons_succ, List.getElem_cons_zero, List.setIfInBounds_toArray, List.set_cons_zero, List.set_cons_succ])
          refine wpAnyH_take (i := 7 ) (v := ?_) rfl (by kernel_rfl) (by kernel_rfl) (by kernel_rfl) (fun _ _ _ h => h) (Or.inl ⟨by rfl, ?_⟩) (by assumption) ?_; rotate_left; (· (intro w0 hSw; clear hSw; go_simp); first | done | with_reducible rfl); (try simp only [Act.put, List.getElem_toArray, List.getElem_cons_succ, List.getElem_cons_zero, List.setIfInBounds_toArray, List.set_cons_zero, List.set_cons_succ])
          refine wpAnyH_ready (rs := [9]) (by kernel_rfl) (by simp) ?_
          refine AllReadyH.cons (by simp only [List.getElem?_toArray, List.getElem?_cons_succ, List.getElem?_cons_zero]; rfl) (fun K hK => ?_) AllReadyH.nil
          go_simp
          have hb : Below X.heap.size X (X.alloc (.cells #[.int .i64 0, .int .i64 0] 23)) := (Below.refl _ _).alloc (Nat.le_refl _) _
          have H6 := Lib.hid (Blk.new X 23 #[.int .i64 0, .int .i64 0])
          have hg6 : q + 1 + 1 + 1 < X.heap.size := HS.out.k4.lt
          have hneg5g6 : g5 ≠ X.heap.size := Nat.ne_of_lt H5.out.lt
          replace HS := Lib.hid (HS.out.call hb)
          replace H5 := Lib.hid (H5.out.below hb H5.out.lt)
          clear hb
          generalize X.heap.size = g6 at *
          generalize World.alloc X _ = X at *
          refine hK.out _ _ ⟨HS.out.k1, HS.out.k2⟩ (fun hH32 => ?_)
          clear hK K
          try simp only [List.setIfInBounds_toArray, List.set_cons_zero, List.set_cons_succ]
          refine wpAnyH_ready (rs := [10]) (by kernel_rfl) (by simp) ?_
          refine AllReadyH.cons (by simp only [List.getElem?_toArray, List.getElem?_cons_succ, List.getElem?_cons_zero]; rfl) (fun K hK => ?_) AllReadyH.nil
          rw [if_pos (by rfl)]
          refine wp_store_mid 23 (.tmp 5) (.tmp 33) (by rfl) g5 0 #[.int .i64 (-12), .int .i64 16] (by rfl) (by rfl) (there_mid (o := 0) H5.out (by simp)) (by kernel_rfl) (by simp [Value.oneCell']) ?_
          replace HS := Lib.hid (HS.out.low (set2_low (x := .int .i64 (-12)) (y := .int .i64 16) (g := g5) (by omega)))
          replace H5 := Lib.hid (set2_blk (x := .int .i64 (-12)) (y := .int .i64 16) H5.out)
          replace H6 := Lib.hid (far2 (x := .int .i64 (-12)) (y := .int .i64 16) (show g6 ≠ g5 by omega) H6.out)
          refine hK.out _ _ ⟨HS.out.k1, HS.out.k2⟩ (fun hH33 => ?_)
          clear hK K
          try simp only [List.setIfInBounds_toArray, List.set_cons_zero, List.set_cons_succ]
          refine wpAnyH_ready (rs := [11]) (by kernel_rfl) (by simp) ?_
          refine AllReadyH.cons (by simp only [List.getElem?_toArray, List.getElem?_cons_succ, List.getElem?_cons_zero]; rfl) (fun K hK => ?_) AllReadyH.nil
          rw [if_pos (by rfl)]
          refine wp_store_mid 23 (.tmp 6) (.tmp 34) (by rfl) g6 0 #[.int .i64 (-70), .int .i64 40] (by rfl) (by rfl) (there_mid (o := 0) H6.out (by simp)) (by kernel_rfl) (by simp [Value.oneCell']) ?_
          replace HS := Lib.hid (HS.out.low (set2_low (x := .int .i64 (-70)) (y := .int .i64 40) (g := g6) (by omega)))
          replace H6 := Lib.hid (set2_blk (x := .int .i64 (-70)) (y := .int .i64 40) H6.out)
          replace H5 := Lib.hid (far2 (x := .int .i64 (-70)) (y := .int .i64 40) (show g5 ≠ g6 by omega) H5.out)
          refine hK.out _ _ ⟨HS.out.k1, HS.out.k2⟩ (fun hH34 => ?_)
          clear hK K
          try simp only [List.setIfInBounds_toArray, List.set_cons_zero, List.set_cons_succ]
          refine wpAnyH_take (i := 12 ) (v := ?_) rfl (by kernel_rfl) (by kernel_rfl) (by kernel_rfl) (fun _ _ _ h => h) (Or.inl ⟨by rfl, ?_⟩) (by assumption) ?_; rotate_left; (· (intro w0 hSw; clear hSw; go_simp); first | done | with_reducible rfl); (try simp only [Act.put, List.getElem_toArray, List.getElem_cons_succ, List.getElem_cons_zero, List.setIfInBounds_toArray, List.set_cons_zero, List.set_cons_succ])
          refine wpAnyH_done (by kernel_rfl) ?_ _
          go_wp2_with fail
          go_meet
          exact ⟨g5, g6, rfl, rfl, rfl, HS, H5, H6⟩
        refine AllReadyH.cons (by simp only [List.getElem?_toArray, List.getElem?_cons_succ, List.getElem?_cons_zero]; rfl) (fun K hK => ?_) ?_
        · go_simp
          have hb : Below X.heap.size X (X.alloc (.cells #[.int .i64 0, .int .i64 0] 23)) := (Below.refl _ _).alloc (Nat.le_refl _) _
          have H6 := Lib.hid (Blk.new X 23 #[.int .i64 0, .int .i64 0])
          have hg6 : q + 1 + 1 + 1 < X.heap.size := HS.out.k4.lt
          have hneg5g6 : g5 ≠ X.heap.size := Nat.ne_of_lt H5.out.lt
          replace HS := Lib.hid (HS.out.call hb)
          replace H5 := Lib.hid (H5.out.below hb H5.out.lt)
          clear hb
          generalize X.heap.size = g6 at *
          generalize World.alloc X _ = X at *
          refine hK.out _ _ ⟨HS.out.k1, HS.out.k2⟩ (fun hH35 => ?_)
          clear hK K
          try simp only [List.setIfInBounds_toArray, List.set_cons_zero, List.set_cons_succ]
          refine wpAnyH_ready (rs := [3]) (by kernel_rfl) (by simp) ?_
          refine AllReadyH.cons (by simp only [List.getElem?_toArray, List.getElem?_cons_succ, List.getElem?_cons_zero]; rfl) (fun K hK => ?_) AllReadyH.nil
          go_simp
          refine (offN0_any _).mono ?_
          rintro e X ⟨rfl, hb⟩
          replace HS := Lib.hid (HS.out.call hb)
          replace H5 := Lib.hid (H5.out.below hb H5.out.lt)
          replace H6 := Lib.hid (H6.out.below hb H6.out.lt)
          clear hb
          refine hK.out _ _ ⟨HS.out.k1, HS.out.k2⟩ (fun hH36 => ?_)
          clear hK K
          try simp only [List.setIfInBounds_toArray, List.set_cons_zero, List.set_cons_succ]
          refine wpAnyH_take (i := 4 ) (v := ?_) rfl (by kernel_rfl) (by kernel_rfl) (by kernel_rfl) (fun _ _ _ h => h) (Or.inl ⟨by rfl, ?_⟩) (by assumption) ?_; rotate_left; (· (intro w0 hSw; clear hSw; go_simp); first | done | with_reducible rfl); (try simp only [Act.put, List.getElem_toArray, List.getElem_cons_succ, List.getElem_cons_zero, List.setIfInBounds_toArray, List.set_cons_zero, List.set_cons_succ])
          refine wpAnyH_take (i := 5 ) (v := ?_) rfl (by kernel_rfl) (by kernel_rfl) (by kernel_rfl) (fun _ _ _ h => h) (Or.inl ⟨by rfl, ?_⟩) (by assumption) ?_; rotate_left; (· (intro w0 hSw; clear hSw; go_simp); first | done | with_reducible rfl); (try simp only [Act.put, List.getElem_toArray, List.getElem_cons_succ, List.getElem_cons_zero, List.setIfInBounds_toArray, List.set_cons_zero, List.set_cons_succ])
          refine wpAnyH_take (i := 6 ) (v := ?_) rfl (by kernel_rfl) (by kernel_rfl) (by kernel_rfl) (fun _ _ _ h => h) (Or.inl ⟨by rfl, ?_⟩) (by assumption) ?_; rotate_left; (· (intro w0 hSw; clear hSw; go_simp); first | done | with_reducible rfl); (try simp only [Act.put, List.getElem_toArray, List.getElem_cons_succ, List.getElem_cons_zero, List.setIfInBounds_toArray, List.set_cons_zero, List.set_cons_succ])
          refine wpAnyH_take (i := 7 ) (v := ?_) rfl (by kernel_rfl) (by kernel_rfl) (by kernel_rfl) (fun _ _ _ h => h) (Or.inl ⟨by rfl, ?_⟩) (by assumption) ?_; rotate_left; (· (intro w0 hSw; clear hSw; go_simp); first | done | with_reducible rfl); (try simp only [Act.put, List.getElem_toArray, List.getElem_cons_succ, List.getElem_cons_zero, List.setIfInBounds_toArray, List.set_cons_zero, List.set_cons_succ])
          refine wpAnyH_ready (rs := [10]) (by kernel_rfl) (by simp) ?_
          refine AllReadyH.cons (by simp only [List.getElem?_toArray, List.getElem?_cons_succ, List.getElem?_cons_zero]; rfl) (fun K hK => ?_) AllReadyH.nil
          rw [if_pos (by rfl)]
          refine wp_store_mid 23 (.tmp 5) (.tmp 33) (by rfl) g5 0 #[.int .i64 (-12), .int .i64 16] (by rfl) (by rfl) (there_mid (o := 0) H5.out (by simp)) (by kernel_rfl) (by simp [Value.oneCell']) ?_
          replace HS := Lib.hid (HS.out.low (set2_low (x := .int .i64 (-12)) (y := .int .i64 16) (g := g5) (by omega)))
          replace H5 := Lib.hid (set2_blk (x := .int .i64 (-12)) (y := .int .i64 16) H5.out)
          replace H6 := Lib.hid (far2 (x := .int .i64 (-12)) (y := .int .i64 16) (show g6 ≠ g5 by omega) H6.out)
          refine hK.out _ _ ⟨HS.out.k1, HS.out.k2⟩ (fun hH37 => ?_)
          clear hK K
          try simp only [List.setIfInBounds_toArray, List.set_cons_zero, List.set_cons_succ]
          refine wpAnyH_ready (rs := [11]) (by kernel_rfl) (by simp) ?_
          refine AllReadyH.cons (by simp only [List.getElem?_toArray, List.getElem?_cons_succ, List.getElem?_cons_zero]; rfl) (fun K hK => ?_) AllReadyH.nil
          rw [if_pos (by rfl)]
          refine wp_store_mid 23 (.tmp 6) (.tmp 34) (by rfl) g6 0 #[.int .i64 (-70), .int .i64 40] (by rfl) (by rfl) (there_mid (o := 0) H6.out (by simp)) (by kernel_rfl) (by simp [Value.oneCell']) ?_
          replace HS := Lib.hid (HS.out.low (set2_low (x := .int .i64 (-70)) (y := .int .i64 40) (g := g6) (by omega)))
          replace H6 := Lib.hid (set2_blk (x := .int .i64 (-70)) (y := .int .i64 40) H6.out)
          replace H5 := Lib.hid (far2 (x := .int .i64 (-70)) (y := .int .i64 40) (show g5 ≠ g6 by omega) H5.out)
          refine hK.out _ _ ⟨HS.out.k1, HS.out.k2⟩ (fun hH38 => ?_)
          clear hK K
          try simp only [List.setIfInBounds_toArray, List.set_cons_zero, List.set_cons_succ]
          refine wpAnyH_take (i := 12 ) (v := ?_) rfl (by kernel_rfl) (by kernel_rfl) (by kernel_rfl) (fun _ _ _ h => h) (Or.inl ⟨by rfl, ?_⟩) (by assumption) ?_; rotate_left; (· (intro w0 hSw; clear hSw; go_simp); first | done | with_reducible rfl); (try simp only [Act.put, List.getElem_toArray, List.getElem_cons_succ, List.getElem_cons_zero, List.setIfInBounds_toArray, List.set_cons_zero, List.set_cons_succ])
          refine wpAnyH_done (by kernel_rfl) ?_ _
          go_wp2_with fail
          go_meet
          exact ⟨g5, g6, rfl, rfl, rfl, HS, H5, H6⟩
        exact AllReadyH.nil
      refine AllReadyH.cons (by simp only [List.getElem?_toArray, List.getElem?_cons_succ, List.getElem?_cons_zero]; rfl) (fun K hK => ?_) ?_
      · go_simp
        have hb : Below X.heap.size X (X.alloc (.cells #[.int .i64 0, .int .i64 0] 23)) := (Below.refl _ _).alloc (Nat.le_refl _) _
        have H6 := Lib.hid (Blk.new X 23 #[.int .i64 0, .int .i64 0])
        have hg6 : q + 1 + 1 + 1 < X.heap.size := HS.out.k4.lt
        have hneg5g6 : g5 ≠ X.heap.size := Nat.ne_of_lt H5.out.lt
        replace HS := Lib.hid (HS.out.call hb)
        replace H5 := Lib.hid (H5.out.below hb H5.out.lt)
        clear hb
        generalize X.heap.size = g6 at *
        generalize World.alloc X _ = X at *
        refine hK.out _ _ ⟨HS.out.k1, HS.out.k2⟩ (fun hH39 => ?_)
        clear hK K
        try simp only [List.setIfInBounds_toArray, List.set_cons_zero, List.set_cons_succ]
        refine wpAnyH_ready (rs := [0]) (by kernel_rfl) (by simp) ?_
        refine AllReadyH.cons (by simp only [List.getElem?_toArray, List.getElem?_cons_zero]; rfl) (fun K hK => ?_) AllReadyH.nil
        go_simp
        refine (jig45_any _).mono ?_
        rintro e X ⟨rfl, hb⟩
        replace HS := Lib.hid (HS.out.call hb)
        replace H5 := Lib.hid (H5.out.below hb H5.out.lt)
        replace H6 := Lib.hid (H6.out.below hb H6.out.lt)
        clear hb
        refine hK.out _ _ ⟨HS.out.k1, HS.out.k2⟩ (fun hH40 => ?_)
        clear hK K
        try simp only [List.setIfInBounds_toArray, List.set_cons_zero]
        refine wpAnyH_ready (rs := [3]) (by kernel_rfl) (by simp) ?_
        refine AllReadyH.cons (by simp only [List.getElem?_toArray, List.getElem?_cons_succ, List.getElem?_cons_zero]; rfl) (fun K hK => ?_) AllReadyH.nil
        go_simp
        refine (offN0_any _).mono ?_
        rintro e X ⟨rfl, hb⟩
        replace HS := Lib.hid (HS.out.call hb)
        replace H5 := Lib.hid (H5.out.below hb H5.out.lt)
        replace H6 := Lib.hid (H6.out.below hb H6.out.lt)
        clear hb
        refine hK.out _ _ ⟨HS.out.k1, HS.out.k2⟩ (fun hH41 => ?_)
        clear hK K
        try simp only [List.setIfInBounds_toArray, List.set_cons_zero, List.set_cons_succ]
        refine wpAnyH_take (i := 4 ) (v := ?_) rfl (by kernel_rfl) (by kernel_rfl) (by kernel_rfl) (fun _ _ _ h => h) (Or.inl ⟨by rfl, ?_⟩) (by assumption) ?_; rotate_left; (· (intro w0 hSw; clear hSw; go_simp); first | done | with_reducible rfl); (try simp only [Act.put, List.getElem_toArray, List.getElem_cons_succ, List.getElem_cons_zero, List.setIfInBounds_toArray, List.set_cons_zero, List.set_cons_succ])
        refine wpAnyH_take (i := 5 ) (v := ?_) rfl (by kernel_rfl) (by kernel_rfl) (by kernel_rfl) (fun _ _ _ h => h) (Or.inl ⟨by rfl, ?_⟩) (by assumption) ?_; rotate_left; (· (intro w0 hSw; clear hSw; go_simp); first | done | with_reducible rfl); (try simp only [Act.put, List.getElem_toArray, List.getElem_cons_succ, List.getElem_cons_zero, List.setIfInBounds_toArray, List.set_cons_zero, List.set_cons_succ])
        refine wpAnyH_take (i := 6 ) (v := ?_) rfl (by kernel_rfl) (by kernel_rfl) (by kernel_rfl) (fun _ _ _ h => h) (Or.inl ⟨by rfl, ?_⟩) (by assumption) ?_; rotate_left; (· (intro w0 hSw; clear hSw; go_simp); first | done | with_reducible rfl); (try simp only [Act.put, List.getElem_toArray, List.getElem_cons_succ, List.getElem_cons_zero, List.setIfInBounds_toArray, List.set_cons_zero, List.set_cons_succ])
        refine wpAnyH_take (i := 7 ) (v := ?_) rfl (by kernel_rfl) (by kernel_rfl) (by kernel_rfl) (fun _ _ _ h => h) (Or.inl ⟨by rfl, ?_⟩) (by assumption) ?_; rotate_left; (· (intro w0 hSw; clear hSw; go_simp); first | done | with_reducible rfl); (try simp only [Act.put, List.getElem_toArray, List.getElem_cons_succ, List.getElem_cons_zero, List.setIfInBounds_toArray, List.set_cons_zero, List.set_cons_succ])
        refine wpAnyH_ready (rs := [10]) (by kernel_rfl) (by simp) ?_
        refine AllReadyH.cons (by simp only [List.getElem?_toArray, List.getElem?_cons_succ, List.getElem?_cons_zero]; rfl) (fun K hK => ?_) AllReadyH.nil
        rw [if_pos (by rfl)]
        refine wp_store_mid 23 (.tmp 5) (.tmp 33) (by rfl) g5 0 #[.int .i64 (-12), .int .i64 16] (by rfl) (by rfl) (there_mid (o := 0) H5.out (by simp)) (by kernel_rfl) (by simp [Value.oneCell']) ?_
        replace HS := Lib.hid (HS.out.low (set2_low (x := .int .i64 (-12)) (y := .int .i64 16) (g := g5) (by omega)))
        replace H5 := Lib.hid (set2_blk (x := .int .i64 (-12)) (y := .int .i64 16) H5.out)
        replace H6 := Lib.hid (far2 (x := .int .i64 (-12)) (y := .int .i64 16) (show g6 ≠ g5 by omega) H6.out)
        refine hK.out _ _ ⟨HS.out.k1, HS.out.k2⟩ (fun hH42 => ?_)
        clear hK K
        try simp only [List.setIfInBounds_toArray, List.set_cons_zero, List.set_cons_succ]
        refine wpAnyH_ready (rs := [11]) (by kernel_rfl) (by simp) ?_
        refine AllReadyH.cons (by simp only [List.getElem?_toArray, List.getElem?_cons_succ, List.getElem?_cons_zero]; rfl) (fun K hK => ?_) AllReadyH.nil
        rw [if_pos (by rfl)]
        refine wp_store_mid 23 (.tmp 6) (.tmp 34) (by rfl) g6 0 #[.int .i64 (-70), .int .i64 40] (by rfl) (by rfl) (there_mid (o := 0) H6.out (by simp)) (by kernel_rfl) (by simp [Value.oneCell']) ?_
        replace HS := Lib.hid (HS.out.low (set2_low (x := .int .i64 (-70)) (y := .int .i64 40) (g := g6) (by omega)))
        replace H6 := Lib.hid (set2_blk (x := .int .i64 (-70)) (y := .int .i64 40) H6.out)
        replace H5 := Lib.hid (far2 (x := .int .i64 (-70)) (y := .int .i64 40) (show g5 ≠ g6 by omega) H5.out)
        refine hK.out _ _ ⟨HS.out.k1, HS.out.k2⟩ (fun hH43 => ?_)
        clear hK K
        try simp only [List.setIfInBounds_toArray, List.set_cons_zero, List.set_cons_succ]
        refine wpAnyH_take (i := 12 ) (v := ?_) rfl (by kernel_rfl) (by kernel_rfl) (by kernel_rfl) (fun _ _ _ h => h) (Or.inl ⟨by rfl, ?_⟩) (by assumption) ?_; rotate_left; (· (intro w0 hSw; clear hSw; go_simp); first | done | with_reducible rfl); (try simp only [Act.put, List.getElem_toArray, List.getElem_cons_succ, List.getElem_cons_zero, List.setIfInBounds_toArray, List.set_cons_zero, List.set_cons_succ])
        refine wpAnyH_done (by kernel_rfl) ?_ _
        go_wp2_with fail
        go_meet
        exact ⟨g5, g6, rfl, rfl, rfl, HS, H5, H6⟩
      exact AllReadyH.nil
    refine AllReadyH.cons (by simp only [List.getElem?_toArray, List.getElem?_cons_succ, List.getElem?_cons_zero]; rfl) (fun K hK => ?_) ?_
    · go_simp
      have hb : Below V0.heap.size V0 (V0.alloc (.cells #[.int .i64 0, .int .i64 0] 23)) := (Below.refl _ _).alloc (Nat.le_refl _) _
      have H6 := Lib.hid (Blk.new V0 23 #[.int .i64 0, .int .i64 0])
      have hg6 : q + 1 + 1 + 1 < V0.heap.size := HS.out.k4.lt
      replace HS := Lib.hid (HS.out.call hb)
      clear hb
      generalize V0.heap.size = g6 at *
      generalize World.alloc V0 _ = X at *
      refine hK.out _ _ ⟨HS.out.k1, HS.out.k2⟩ (fun hH44 => ?_)
      clear hK K
      try simp only [List.setIfInBounds_toArray, List.set_cons_zero, List.set_cons_succ]
      refine wpAnyH_ready (rs := [0, 8]) (by kernel_rfl) (by simp) ?_
      refine AllReadyH.cons (by simp only [List.getElem?_toArray, List.getElem?_cons_zero]; rfl) (fun K hK => ?_) ?_
      · go_simp
        refine (jig45_any _).mono ?_
        rintro e X ⟨rfl, hb⟩
        replace HS := Lib.hid (HS.out.call hb)
        replace H6 := Lib.hid (H6.out.below hb H6.out.lt)
        clear hb
        refine hK.out _ _ ⟨HS.out.k1, HS.out.k2⟩ (fun hH45 => ?_)
        clear hK K
        try simp only [List.setIfInBounds_toArray, List.set_cons_zero]
        refine wpAnyH_ready (rs := [3, 8]) (by kernel_rfl) (by simp) ?_
        refine AllReadyH.cons (by simp only [List.getElem?_toArray, List.getElem?_cons_succ, List.getElem?_cons_zero]; rfl) (fun K hK => ?_) ?_
        · go_simp
          refine (offN0_any _).mono ?_
          rintro e X ⟨rfl, hb⟩
          replace HS := Lib.hid (HS.out.call hb)
          replace H6 := Lib.hid (H6.out.below hb H6.out.lt)
          clear hb
          refine hK.out _ _ ⟨HS.out.k1, HS.out.k2⟩ (fun hH46 => ?_)
          clear hK K
          try simp only [List.setIfInBounds_toArray, List.set_cons_zero, List.set_cons_succ]
          refine wpAnyH_take (i := 4 ) (v := ?_) rfl (by kernel_rfl) (by kernel_rfl) (by kernel_rfl) (fun _ _ _ h => h) (Or.inl ⟨by rfl, ?_⟩) (by assumption) ?_; rotate_left; (· (intro w0 hSw; clear hSw; go_simp); first | done | with_reducible rfl); (try simp only [Act.put, List.getElem_toArray, List.getElem_cons_succ, List.getElem_cons_zero, List.setIfInBounds_toArray, List.set_cons_zero, List.set_cons_succ])
          refine wpAnyH_take (i := 5 ) (v := ?_) rfl (by kernel_rfl) (by kernel_rfl) (by kernel_rfl) (fun _ _ _ h => h) (Or.inl ⟨by rfl, ?_⟩) (by assumption) ?_; rotate_left; (· (intro w0 hSw; clear hSw; go_simp); first | done | with_reducible rfl); (try simp only [Act.put, List.getElem_toArray, List.getElem_cons_succ, List.getElem_cons_zero, List.setIfInBounds_toArray, List.set_cons_zero, List.set_cons_succ])
          refine wpAnyH_take (i := 6 ) (v := ?_) rfl (by kernel_rfl) (by kernel_rfl) (by kernel_rfl) (fun _ _ _ h => h) (Or.inl ⟨by rfl, ?_⟩) (by assumption) ?_; rotate_left; (· (intro w0 hSw; clear hSw; go_simp); first | done | with_reducible rfl); (try simp only [Act.put, List.getElem_toArray, List.getElem_cons_succ, List.getElem_cons_zero, List.setIfInBounds_toArray, List.set_cons_zero, List.set_cons_succ])
          refine wpAnyH_take (i := 7 ) (v := ?_) rfl (by kernel_rfl) (by kernel_rfl) (by kernel_rfl) (fun _ _ _ h => h) (Or.inl ⟨by rfl, ?_⟩) (by assumption) ?_; rotate_left; (· (intro w0 hSw; clear hSw; go_simp); first | done | with_reducible rfl); (try simp only [Act.put, List.getElem_toArray, List.getElem_cons_succ, List.getElem_cons_zero, List.setIfInBounds_toArray, List.set_cons_zero, List.set_cons_succ])
          refine wpAnyH_ready (rs := [8]) (by kernel_rfl) (by simp) ?_
          refine AllReadyH.cons (by simp only [List.getElem?_toArray, List.getElem?_cons_succ, List.getElem?_cons_zero]; rfl) (fun K hK => ?_) AllReadyH.nil
          go_simp
          have hb : Below X.heap.size X (X.alloc (.cells #[.int .i64 0, .int .i64 0] 23)) := (Below.refl _ _).alloc (Nat.le_refl _) _
          have H5 := Lib.hid (Blk.new X 23 #[.int .i64 0, .int .i64 0])
          have hg5 : q + 1 + 1 + 1 < X.heap.size := HS.out.k4.lt
          have hneg6g5 : g6 ≠ X.heap.size := Nat.ne_of_lt H6.out.lt
          replace HS := Lib.hid (HS.out.call hb)
          replace H6 := Lib.hid (H6.out.below hb H6.out.lt)
          clear hb
          generalize X.heap.size = g5 at *
          generalize World.alloc X _ = X at *
          refine hK.out _ _ ⟨HS.out.k1, HS.out.k2⟩ (fun hH47 => ?_)
          clear hK K
          try simp only [List.setIfInBounds_toArray, List.set_cons_zero, List.set_cons_succ]
          refine wpAnyH_ready (rs := [10]) (by kernel_rfl) (by simp) ?_
          refine AllReadyH.cons (by simp only [List.getElem?_toArray, List.getElem?_cons_succ, List.getElem?_cons_zero]; rfl) (fun K hK => ?_) AllReadyH.nil
          rw [if_pos (by rfl)]
          refine wp_store_mid 23 (.tmp 5) (.tmp 33) (by rfl) g5 0 #[.int .i64 (-12), .int .i64 16] (by rfl) (by rfl) (there_mid (o := 0) H5.out (by simp)) (by kernel_rfl) (by simp [Value.oneCell']) ?_
          replace HS := Lib.hid (HS.out.low (set2_low (x := .int .i64 (-12)) (y := .int .i64 16) (g := g5) (by omega)))
          replace H5 := Lib.hid (set2_blk (x := .int .i64 (-12)) (y := .int .i64 16) H5.out)
          replace H6 := Lib.hid (far2 (x := .int .i64 (-12)) (y := .int .i64 16) (show g6 ≠ g5 by omega) H6.out)
          refine hK.out _ _ ⟨HS.out.k1, HS.out.k2⟩ (fun hH48 => ?_)
          clear hK K
          try simp only [List.setIfInBounds_toArray, List.set_cons_zero, List.set_cons_succ]
          refine wpAnyH_ready (rs := [11]) (by kernel_rfl) (by simp) ?_
          refine AllReadyH.cons (by simp only [List.getElem?_toArray, List.getElem?_cons_succ, List.getElem?_cons_zero]; rfl) (fun K hK => ?_) AllReadyH.nil
          rw [if_pos (by rfl)]
          refine wp_store_mid 23 (.tmp 6) (.tmp 34) (by rfl) g6 0 #[.int .i64 (-70), .int .i64 40] (by rfl) (by rfl) (there_mid (o := 0) H6.out (by simp)) (by kernel_rfl) (by simp [Value.oneCell']) ?_
          replace HS := Lib.hid (HS.out.low (set2_low (x := .int .i64 (-70)) (y := .int .i64 40) (g := g6) (by omega)))
          replace H6 := Lib.hid (set2_blk (x := .int .i64 (-70)) (y := .int .i64 40) H6.out)
          replace H5 := Lib.hid (far2 (x := .int .i64 (-70)) (y := .int .i64 40) (show g5 ≠ g6 by omega) H5.out)
          refine hK.out _ _ ⟨HS.out.k1, HS.out.k2⟩ (fun hH49 => ?_)
          clear hK K
          try simp only [List.setIfInBounds_toArray, List.set_cons_zero, List.set_cons_succ]
          refine wpAnyH_take (i := 12 ) (v := ?_) rfl (by kernel_rfl) (by kernel_rfl) (by kernel_rfl) (fun _ _ _ h => h) (Or.inl ⟨by rfl, ?_⟩) (by assumption) ?_; rotate_left; (· (intro w0 hSw; clear hSw; go_simp); first | done | with_reducible rfl); (try simp only [Act.put, List.getElem_toArray, List.getElem_cons_succ, List.getElem_cons_zero, List.setIfInBounds_toArray, List.set_cons_zero, List.set_cons_succ])
          refine wpAnyH_done (by kernel_rfl) ?_ _
          go_wp2_with fail
          go_meet
          exact ⟨g5, g6, rfl, rfl, rfl, HS, H5, H6⟩
        refine AllReadyH.cons (by simp only [List.getElem?_toArray, List.getElem?_cons_succ, List.getElem?_cons_zero]; rfl) (fun K hK => ?_) ?_
        · go_simp
          have hb : Below X.heap.size X (X.alloc (.cells #[.int .i64 0, .int .i64 0] 23)) := (Below.refl _ _).alloc (Nat.le_refl _) _
          have H5 := Lib.hid (Blk.new X 23 #[.int .i64 0, .int .i64 0])
          have hg5 : q + 1 + 1 + 1 < X.heap.size := HS.out.k4.lt
          have hneg6g5 : g6 ≠ X.heap.size := Nat.ne_of_lt H6.out.lt
          replace HS := Lib.hid (HS.out.call hb)
          replace H6 := Lib.hid (H6.out.below hb H6.out.lt)
          clear hb
          generalize X.heap.size = g5 at *
          generalize World.alloc X _ = X at *
          refine hK.out _ _ ⟨HS.out.k1, HS.out.k2⟩ (fun hH50 => ?_)
          clear hK K
          try simp only [List.setIfInBounds_toArray, List.set_cons_zero, List.set_cons_succ]
          refine wpAnyH_ready (rs := [3]) (by kernel_rfl) (by simp) ?_
          refine AllReadyH.cons (by simp only [List.getElem?_toArray, List.getElem?_cons_succ, List.getElem?_cons_zero]; rfl) (fun K hK => ?_) AllReadyH.nil
          go_simp
          refine (offN0_any _).mono ?_
          rintro e X ⟨rfl, hb⟩
          replace HS := Lib.hid (HS.out.call hb)
          replace H5 := Lib.hid (H5.out.below hb H5.out.lt)
          replace H6 := Lib.hid (H6.out.below hb H6.out.lt)
          clear hb
          refine hK.out _ _ ⟨HS.out.k1, HS.out.k2⟩ (fun hH51 => ?_)
          clear hK K
          try simp only [List.setIfInBounds_toArray, List.set_cons_zero, List.set_cons_succ]
          refine wpAnyH_take (i := 4 ) (v := ?_) rfl (by kernel_rfl) (by kernel_rfl) (by kernel_rfl) (fun _ _ _ h => h) (Or.inl ⟨by rfl, ?_⟩) (by assumption) ?_; rotate_left; (· (intro w0 hSw; clear hSw; go_simp); first | done | with_reducible rfl); (try simp only [Act.put, List.getElem_toArray, List.getElem_cons_succ, List.getElem_cons_zero, List.setIfInBounds_toArray, List.set_cons_zero, List.set_cons_succ])
          refine wpAnyH_take (i := 5 ) (v := ?_) rfl (by kernel_rfl) (by kernel_rfl) (by kernel_rfl) (fun _ _ _ h => h) (Or.inl ⟨by rfl, ?_⟩) (by assumption) ?_; rotate_left; (· (intro w0 hSw; clear hSw; go_simp); first | done | with_reducible rfl); (try simp only [Act.put, List.getElem_toArray, List.getElem_cons_succ, List.getElem_cons_zero, List.setIfInBounds_toArray, List.set_cons_zero, List.set_cons_succ])
          refine wpAnyH_take (i := 6 ) (v := ?_) rfl (by kernel_rfl) (by kernel_rfl) (by kernel_rfl) (fun _ _ _ h => h) (Or.inl ⟨by rfl, ?_⟩) (by assumption) ?_; rotate_left; (· (intro w0 hSw; clear hSw; go_simp); first | done | with_reducible rfl); (try simp only [Act.put, List.getElem_toArray, List.getElem_cons_succ, List.getElem_cons_zero, List.setIfInBounds_toArray, List.set_cons_zero, List.set_cons_succ])
          refine wpAnyH_take (i := 7 ) (v := ?_) rfl (by kernel_rfl) (by kernel_rfl) (by kernel_rfl) (fun _ _ _ h => h) (Or.inl ⟨by rfl, ?_⟩) (by assumption) ?_; rotate_left; (· (intro w0 hSw; clear hSw; go_simp); first | done | with_reducible rfl); (try simp only [Act.put, List.getElem_toArray, List.getElem_cons_succ, List.getElem_cons_zero, List.setIfInBounds_toArray, List.set_cons_zero, List.set_cons_succ])
          refine wpAnyH_ready (rs := [10]) (by kernel_rfl) (by simp) ?_
          refine AllReadyH.cons (by simp only [List.getElem?_toArray, List.getElem?_cons_succ, List.getElem?_cons_zero]; rfl) (fun K hK => ?_) AllReadyH.nil
          rw [if_pos (by rfl)]
          refine wp_store_mid 23 (.tmp 5) (.tmp 33) (by rfl) g5 0 #[.int .i64 (-12), .int .i64 16] (by rfl) (by rfl) (there_mid (o := 0) H5.out (by simp)) (by kernel_rfl) (by simp [Value.oneCell']) ?_
          replace HS := Lib.hid (HS.out.low (set2_low (x := .int .i64 (-12)) (y := .int .i64 16) (g := g5) (by omega)))
          replace H5 := Lib.hid (set2_blk (x := .int .i64 (-12)) (y := .int .i64 16) H5.out)
          replace H6 := Lib.hid (far2 (x := .int .i64 (-12)) (y := .int .i64 16) (show g6 ≠ g5 by omega) H6.out)
          refine hK.out _ _ ⟨HS.out.k1, HS.out.k2⟩ (fun hH52 => ?_)
          clear hK K
          try simp only [List.setIfInBounds_toArray, List.set_cons_zero, List.set_cons_succ]
          refine wpAnyH_ready (rs := [11]) (by kernel_rfl) (by simp) ?_
          refine AllReadyH.cons (by simp only [List.getElem?_toArray, List.getElem?_cons_succ, List.getElem?_cons_zero]; rfl) (fun K hK => ?_) AllReadyH.nil
          rw [if_pos (by rfl)]
          refine wp_store_mid 23 (.tmp 6) (.tmp 34) (by rfl) g6 0 #[.int .i64 (-70), .int .i64 40] (by rfl) (by rfl) (there_mid (o := 0) H6.out (by simp)) (by kernel_rfl) (by simp [Value.oneCell']) ?_
          replace HS := Lib.hid (HS.out.low (set2_low (x := .int .i64 (-70)) (y := .int .i64 40) (g := g6) (by omega)))
          replace H6 := Lib.hid (set2_blk (x := .int .i64 (-70)) (y := .int .i64 40) H6.out)
          replace H5 := Lib.hid (far2 (x := .int .i64 (-70)) (y := .int .i64 40) (show g5 ≠ g6 by omega) H5.out)
          refine hK.out _ _ ⟨HS.out.k1, HS.out.k2⟩ (fun hH53 => ?_)
          clear hK K
          try simp only [List.setIfInBounds_toArray, List.set_cons_zero, List.set_cons_succ]
          refine wpAnyH_take (i := 12 ) (v := ?_) rfl (by kernel_rfl) (by kernel_rfl) (by kernel_rfl) (fun _ _ _ h => h) (Or.inl ⟨by rfl, ?_⟩) (by assumption) ?_; rotate_left; (· (intro w0 hSw; clear hSw; go_simp); first | done | with_reducible rfl); (try simp only [Act.put, List.getElem_toArray, List.getElem_cons_succ, List.getElem_cons_zero, List.setIfInBounds_toArray, List.set_cons_zero, List.set_cons_succ])
          refine wpAnyH_done (by kernel_rfl) ?_ _
          go_wp2_with fail
          go_meet
          exact ⟨g5, g6, rfl, rfl, rfl, HS, H5, H6⟩
        exact AllReadyH.nil
      refine AllReadyH.cons (by simp only [List.getElem?_toArray, List.getElem?_cons_succ, List.getElem?_cons_zero]; rfl) (fun K hK => ?_) ?_
      · go_simp
        have hb : Below X.heap.size X (X.alloc (.cells #[.int .i64 0, .int .i64 0] 23)) := (Below.refl _ _).alloc (Nat.le_refl _) _
        have H5 := Lib.hid (Blk.new X 23 #[.int .i64 0, .int .i64 0])
        have hg5 : q + 1 + 1 + 1 < X.heap.size := HS.out.k4.lt
        have hneg6g5 : g6 ≠ X.heap.size := Nat.ne_of_lt H6.out.lt
        replace HS := Lib.hid (HS.out.call hb)
        replace H6 := Lib.hid (H6.out.below hb H6.out.lt)
        clear hb
        generalize X.heap.size = g5 at *
        generalize World.alloc X _ = X at *
        refine hK.out _ _ ⟨HS.out.k1, HS.out.k2⟩ (fun hH54 => ?_)
        clear hK K
        try simp only [List.setIfInBounds_toArray, List.set_cons_zero, List.set_cons_succ]
        refine wpAnyH_ready (rs := [0]) (by kernel_rfl) (by simp) ?_
        refine AllReadyH.cons (by simp only [List.getElem?_toArray, List.getElem?_cons_zero]; rfl) (fun K hK => ?_) AllReadyH.nil
        go_simp
        refine (jig45_any _).mono ?_
        rintro e X ⟨rfl, hb⟩
        replace HS := Lib.hid (HS.out.call hb)
        replace H5 := Lib.hid (H5.out.below hb H5.out.lt)
        replace H6 := Lib.hid (H6.out.below hb H6.out.lt)
        clear hb
        refine hK.out _ _ ⟨HS.out.k1, HS.out.k2⟩ (fun hH55 => ?_)
        clear hK K
        try simp only [List.setIfInBounds_toArray, List.set_cons_zero]
        refine wpAnyH_ready (rs := [3]) (by kernel_rfl) (by simp) ?_
        refine AllReadyH.cons (by simp only [List.getElem?_toArray, List.getElem?_cons_succ, List.getElem?_cons_zero]; rfl) (fun K hK => ?_) AllReadyH.nil
        go_simp
        refine (offN0_any _).mono ?_
        rintro e X ⟨rfl, hb⟩
        replace HS := Lib.hid (HS.out.call hb)
        replace H5 := Lib.hid (H5.out.below hb H5.out.lt)
        replace H6 := Lib.hid (H6.out.below hb H6.out.lt)
        clear hb
        refine hK.out _ _ ⟨HS.out.k1, HS.out.k2⟩ (fun hH56 => ?_)
        clear hK K
        try simp only [List.setIfInBounds_toArray, List.set_cons_zero, List.set_cons_succ]
        refine wpAnyH_take (i := 4 ) (v := ?_) rfl (by kernel_rfl) (by kernel_rfl) (by kernel_rfl) (fun _ _ _ h => h) (Or.inl ⟨by rfl, ?_⟩) (by assumption) ?_; rotate_left; (· (intro w0 hSw; clear hSw; go_simp); first | done | with_reducible rfl); (try simp only [Act.put, List.getElem_toArray, List.getElem_cons_succ, List.getElem_cons_zero, List.setIfInBounds_toArray, List.set_cons_zero, List.set_cons_succ])
        refine wpAnyH_take (i := 5 ) (v := ?_) rfl (by kernel_rfl) (by kernel_rfl) (by kernel_rfl) (fun _ _ _ h => h) (Or.inl ⟨by rfl, ?_⟩) (by assumption) ?_; rotate_left; (· (intro w0 hSw; clear hSw; go_simp); first | done | with_reducible rfl); (try simp only [Act.put, List.getElem_toArray, List.getElem_cons_succ, List.getElem_cons_zero, List.setIfInBounds_toArray, List.set_cons_zero, List.set_cons_succ])
        refine wpAnyH_take (i := 6 ) (v := ?_) rfl (by kernel_rfl) (by kernel_rfl) (by kernel_rfl) (fun _ _ _ h => h) (Or.inl ⟨by rfl, ?_⟩) (by assumption) ?_; rotate_left; (· (intro w0 hSw; clear hSw; go_simp); first | done | with_reducible rfl); (try simp only [Act.put, List.getElem_toArray, List.getElem_cons_succ, List.getElem_cons_zero, List.setIfInBounds_toArray, List.set_cons_zero, List.set_cons_succ])
        refine wpAnyH_take (i := 7 ) (v := ?_) rfl (by kernel_rfl) (by kernel_rfl) (by kernel_rfl) (fun _ _ _ h => h) (Or.inl ⟨by rfl, ?_⟩) (by assumption) ?_; rotate_left; (· (intro w0 hSw; clear hSw; go_simp); first | done | with_reducible rfl); (try simp only [Act.put, List.getElem_toArray, List.getElem_cons_succ, List.getElem_cons_zero, List.setIfInBounds_toArray, List.set_cons_zero, List.set_cons_succ])
        refine wpAnyH_ready (rs := [10]) (by kernel_rfl) (by simp) ?_
        refine AllReadyH.cons (by simp only [List.getElem?_toArray, List.getElem?_cons_succ, List.getElem?_cons_zero]; rfl) (fun K hK => ?_) AllReadyH.nil
        rw [if_pos (by rfl)]
        refine wp_store_mid 23 (.tmp 5) (.tmp 33) (by rfl) g5 0 #[.int .i64 (-12), .int .i64 16] (by rfl) (by rfl) (there_mid (o := 0) H5.out (by simp)) (by kernel_rfl) (by simp [Value.oneCell']) ?_
        replace HS := Lib.hid (HS.out.low (set2_low (x := .int .i64 (-12)) (y := .int .i64 16) (g := g5) (by omega)))
        replace H5 := Lib.hid (set2_blk (x := .int .i64 (-12)) (y := .int .i64 16) H5.out)
        replace H6 := Lib.hid (far2 (x := .int .i64 (-12)) (y := .int .i64 16) (show g6 ≠ g5 by omega) H6.out)
        refine hK.out _ _ ⟨HS.out.k1, HS.out.k2⟩ (fun hH57 => ?_)
        clear hK K
        try simp only [List.setIfInBounds_toArray, List.set_cons_zero, List.set_cons_succ]
        refine wpAnyH_ready (rs := [11]) (by kernel_rfl) (by simp) ?_
        refine AllReadyH.cons (by simp only [List.getElem?_toArray, List.getElem?_cons_succ, List.getElem?_cons_zero]; rfl) (fun K hK => ?_) AllReadyH.nil
        rw [if_pos (by rfl)]
        refine wp_store_mid 23 (.tmp 6) (.tmp 34) (by rfl) g6 0 #[.int .i64 (-70), .int .i64 40] (by rfl) (by rfl) (there_mid (o := 0) H6.out (by simp)) (by kernel_rfl) (by simp [Value.oneCell']) ?_
        replace HS := Lib.hid (HS.out.low (set2_low (x := .int .i64 (-70)) (y := .int .i64 40) (g := g6) (by omega)))
        replace H6 := Lib.hid (set2_blk (x := .int .i64 (-70)) (y := .int .i64 40) H6.out)
        replace H5 := Lib.hid (far2 (x := .int .i64 (-70)) (y := .int .i64 40) (show g5 ≠ g6 by omega) H5.out)
        refine hK.out _ _ ⟨HS.out.k1, HS.out.k2⟩ (fun hH58 => ?_)
        clear hK K
        try simp only [List.setIfInBounds_toArray, List.set_cons_zero, List.set_cons_succ]
        refine wpAnyH_take (i := 12 ) (v := ?_) rfl (by kernel_rfl) (by kernel_rfl) (by kernel_rfl) (fun _ _ _ h => h) (Or.inl ⟨by rfl, ?_⟩) (by assumption) ?_; rotate_left; (· (intro w0 hSw; clear hSw; go_simp); first | done | with_reducible rfl); (try simp only [Act.put, List.getElem_toArray, List.getElem_cons_succ, List.getElem_cons_zero, List.setIfInBounds_toArray, List.set_cons_zero, List.set_cons_succ])
        refine wpAnyH_done (by kernel_rfl) ?_ _
        go_wp2_with fail
        go_meet
        exact ⟨g5, g6, rfl, rfl, rfl, HS, H5, H6⟩
      exact AllReadyH.nil
    exact AllReadyH.nil
  case rest => as_aux_lemma =>
    obtain ⟨g5, g6, rfl, rfl, rfl, HS, H5, H6⟩ := hcut
    go_upto_region 3 with fail
    go_cut [8, 9, 10] (fun a b c wx => ∃ g8 g9, a = .pointer (some ⟨g8, 0, none⟩) ∧ b = .pointer (some ⟨g9, 0, none⟩) ∧ c = .int .i64 0 ∧ Hid (AlS w q wx) ∧ Hid (Blk wx g5 23 #[.int .i64 (-12), .int .i64 16]) ∧ Hid (Blk wx g6 23 #[.int .i64 (-70), .int .i64 40]) ∧ Hid (Blk wx g8 23 #[.int .i64 (-10), .int .i64 22]) ∧ Hid (Blk wx g9 23 #[.int .i64 (-70), .int .i64 40]))
    case first =>
      go_wp2_with fail
      replace HS := Lib.hid (HS.out.call (Below.refl _ _).drew)
      replace H5 := Lib.hid (H5.out.below (Below.refl _ _).drew H5.out.lt)
      replace H6 := Lib.hid (H6.out.below (Below.refl _ _).drew H6.out.lt)
      refine wp_region_held_drew (S := fun W9 => Blk W9 q 37 #[.int .i64 5000, .int .i64 5010, .int .i64 1010, .int .i64 1020, .int .i64 0, .int .i64 4, .int .i64 1, .int .i64 2] ∧ Blk W9 (q + 1) 37 #[.int .i64 4980, .int .i64 4990, .int .i64 1000, .int .i64 1010, .int .i64 (-2), .int .i64 2, .int .i64 0, .int .i64 1]) (by kernel_rfl) ⟨HS.out.k1, HS.out.k2⟩ (fun hH0 => ?_)
      generalize World.drew _ = V0 at *
      simp only [List.size_toArray, List.length_cons, List.length_nil, Nat.reduceAdd, Array.replicate_succ, Array.replicate_zero, List.push_toArray, List.nil_append, List.cons_append]
      refine wpAnyH_take (i := 1) (v := _) rfl (by kernel_rfl) (by kernel_rfl) (by kernel_rfl) (fun _ _ _ h => h) (yieldsIf_load_mid (by rfl) _ _ rfl _ _ rfl [.int .i64 5000, .int .i64 5010, .int .i64 1010, .int .i64 1020, .int .i64 0, .int .i64 4, .int .i64 1, .int .i64 2] _ (fun w0 h0 => h0.1.range) (by rfl) (by rfl) (by kernel_rfl)) (by assumption) ?_
      (try simp only [Act.put, List.getElem_toArray, List.setIfInBounds_toArray, List.set_cons_zero, List.set_cons_succ])
      refine wpAnyH_take (i := 2) (v := _) rfl (by kernel_rfl) (by kernel_rfl) (by kernel_rfl) (fun _ _ _ h => h) (yieldsIf_load_mid (by rfl) _ _ rfl _ _ rfl [.int .i64 4980, .int .i64 4990, .int .i64 1000, .int .i64 1010, .int .i64 (-2), .int .i64 2, .int .i64 0, .int .i64 1] _ (fun w0 h0 => h0.2.range) (by rfl) (by rfl) (by kernel_rfl)) (by assumption) ?_
      (try simp only [Act.put, List.getElem_toArray, List.getElem_cons_succ, List.getElem_cons_zero, List.setIfInBounds_toArray, List.set_cons_zero, List.set_cons_succ])
      refine wpAnyH_ready (rs := [0, 8, 9]) (by kernel_rfl) (by simp) ?_
      refine AllReadyH.cons (by simp only [List.getElem?_toArray, List.getElem?_cons_zero]; rfl) (fun K hK => ?_) ?_
      · go_simp
        refine (jig45_any _).mono ?_
        rintro e X ⟨rfl, hb⟩
        replace HS := Lib.hid (HS.out.call hb)
        replace H5 := Lib.hid (H5.out.below hb H5.out.lt)
        replace H6 := Lib.hid (H6.out.below hb H6.out.lt)
        clear hb
        refine hK.out _ _ ⟨HS.out.k1, HS.out.k2⟩ (fun hH1 => ?_)
        clear hK K
        try simp only [List.setIfInBounds_toArray, List.set_cons_zero]
        refine wpAnyH_ready (rs := [3, 8, 9]) (by kernel_rfl) (by simp) ?_
        refine AllReadyH.cons (by simp only [List.getElem?_toArray, List.getElem?_cons_succ, List.getElem?_cons_zero]; rfl) (fun K hK => ?_) ?_
        · go_simp
          refine (offN2_any _).mono ?_
          rintro e X ⟨rfl, hb⟩
          replace HS := Lib.hid (HS.out.call hb)
          replace H5 := Lib.hid (H5.out.below hb H5.out.lt)
          replace H6 := Lib.hid (H6.out.below hb H6.out.lt)
          clear hb
          refine hK.out _ _ ⟨HS.out.k1, HS.out.k2⟩ (fun hH2 => ?_)
          clear hK K
          try simp only [List.setIfInBounds_toArray, List.set_cons_zero, List.set_cons_succ]
          refine wpAnyH_take (i := 4 ) (v := ?_) rfl (by kernel_rfl) (by kernel_rfl) (by kernel_rfl) (fun _ _ _ h => h) (Or.inl ⟨by rfl, ?_⟩) (by assumption) ?_; rotate_left; (· (intro w0 hSw; clear hSw; go_simp); first | done | with_reducible rfl); (try simp only [Act.put, List.getElem_toArray, List.getElem_cons_succ, List.getElem_cons_zero, List.setIfInBounds_toArray, List.set_cons_zero, List.set_cons_succ])
          refine wpAnyH_take (i := 5 ) (v := ?_) rfl (by kernel_rfl) (by kernel_rfl) (by kernel_rfl) (fun _ _ _ h => h) (Or.inl ⟨by rfl, ?_⟩) (by assumption) ?_; rotate_left; (· (intro w0 hSw; clear hSw; go_simp); first | done | with_reducible rfl); (try simp only [Act.put, List.getElem_toArray, List.getElem_cons_succ, List.getElem_cons_zero, List.setIfInBounds_toArray, List.set_cons_zero, List.set_cons_succ])
          refine wpAnyH_take (i := 6 ) (v := ?_) rfl (by kernel_rfl) (by kernel_rfl) (by kernel_rfl) (fun _ _ _ h => h) (Or.inl ⟨by rfl, ?_⟩) (by assumption) ?_; rotate_left; (· (intro w0 hSw; clear hSw; go_simp); first | done | with_reducible rfl); (try simp only [Act.put, List.getElem_toArray, List.getElem_cons_succ, List.getElem_cons_zero, List.setIfInBounds_toArray, List.set_cons_zero, List.set_cons_succ])
          refine wpAnyH_take (i := 7 ) (v := ?_) rfl (by kernel_rfl) (by kernel_rfl) (by kernel_rfl) (fun _ _ _ h => h) (Or.inl ⟨by rfl, ?_⟩) (by assumption) ?_; rotate_left; (· (intro w0 hSw; clear hSw; go_simp); first | done | with_reducible rfl); (try simp only [Act.put, List.getElem_toArray, List.getElem_cons_succ, List.getElem_cons_zero, List.setIfInBounds_toArray, List.set_cons_zero, List.set_cons_succ])
          refine wpAnyH_ready (rs := [8, 9]) (by kernel_rfl) (by simp) ?_
          refine AllReadyH.cons (by simp only [List.getElem?_toArray, List.getElem?_cons_succ, List.getElem?_cons_zero]; rfl) (fun K hK => ?_) ?_
          · go_simp
            have hb : Below X.heap.size X (X.alloc (.cells #[.int .i64 0, .int .i64 0] 23)) := (Below.refl _ _).alloc (Nat.le_refl _) _
            have H8 := Lib.hid (Blk.new X 23 #[.int .i64 0, .int .i64 0])
            have hg8 : q + 1 + 1 + 1 < X.heap.size := HS.out.k4.lt
            have hneg5g8 : g5 ≠ X.heap.size := Nat.ne_of_lt H5.out.lt
            have hneg6g8 : g6 ≠ X.heap.size := Nat.ne_of_lt H6.out.lt
            replace HS := Lib.hid (HS.out.call hb)
            replace H5 := Lib.hid (H5.out.below hb H5.out.lt)
            replace H6 := Lib.hid (H6.out.below hb H6.out.lt)
            clear hb
            generalize X.heap.size = g8 at *
            generalize World.alloc X _ = X at *
            refine hK.out _ _ ⟨HS.out.k1, HS.out.k2⟩ (fun hH3 => ?_)
            clear hK K
            try simp only [List.setIfInBounds_toArray, List.set_cons_zero, List.set_cons_succ]
            refine wpAnyH_ready (rs := [9]) (by kernel_rfl) (by simp) ?_
            refine AllReadyH.cons (by simp only [List.getElem?_toArray, List.getElem?_cons_succ, List.getElem?_cons_zero]; rfl) (fun K hK => ?_) AllReadyH.nil
            go_simp
            have hb : Below X.heap.size X (X.alloc (.cells #[.int .i64 0, .int .i64 0] 23)) := (Below.refl _ _).alloc (Nat.le_refl _) _
            have H9 := Lib.hid (Blk.new X 23 #[.int .i64 0, .int .i64 0])
            have hg9 : q + 1 + 1 + 1 < X.heap.size := HS.out.k4.lt
            have hneg5g9 : g5 ≠ X.heap.size := Nat.ne_of_lt H5.out.lt
            have hneg6g9 : g6 ≠ X.heap.size := Nat.ne_of_lt H6.out.lt
            have hneg8g9 : g8 ≠ X.heap.size := Nat.ne_of_lt H8.out.lt
            replace HS := Lib.hid (HS.out.call hb)
            replace H5 := Lib.hid (H5.out.below hb H5.out.lt)
            replace H6 := Lib.hid (H6.out.below hb H6.out.lt)
            replace H8 := Lib.hid (H8.out.below hb H8.out.lt)
            clear hb
            generalize X.heap.size = g9 at *
            generalize World.alloc X _ = X at *
            refine hK.out _ _ ⟨HS.out.k1, HS.out.k2⟩ (fun hH4 => ?_)
            clear hK K
            try simp only [List.setIfInBounds_toArray, List.set_cons_zero, List.set_cons_succ]
            refine wpAnyH_ready (rs := [10]) (by kernel_rfl) (by simp) ?_
            refine AllReadyH.cons (by simp only [List.getElem?_toArray, List.getElem?_cons_succ, List.getElem?_cons_zero]; rfl) (fun K hK => ?_) AllReadyH.nil
            rw [if_pos (by rfl)]
            refine wp_store_mid 23 (.tmp 8) (.tmp 41) (by rfl) g8 0 #[.int .i64 (-10), .int .i64 22] (by rfl) (by rfl) (there_mid (o := 0) H8.out (by simp)) (by kernel_rfl) (by simp [Value.oneCell']) ?_
            replace HS := Lib.hid (HS.out.low (set2_low (x := .int .i64 (-10)) (y := .int .i64 22) (g := g8) (by omega)))
            replace H8 := Lib.hid (set2_blk (x := .int .i64 (-10)) (y := .int .i64 22) H8.out)
            replace H5 := Lib.hid (far2 (x := .int .i64 (-10)) (y := .int .i64 22) (show g5 ≠ g8 by omega) H5.out)
            replace H6 := Lib.hid (far2 (x := .int .i64 (-10)) (y := .int .i64 22) (show g6 ≠ g8 by omega) H6.out)
            replace H9 := Lib.hid (far2 (x := .int .i64 (-10)) (y := .int .i64 22) (show g9 ≠ g8 by omega) H9.out)
            refine hK.out _ _ ⟨HS.out.k1, HS.out.k2⟩ (fun hH5 => ?_)
            clear hK K
            try simp only [List.setIfInBounds_toArray, List.set_cons_zero, List.set_cons_succ]
            refine wpAnyH_ready (rs := [11]) (by kernel_rfl) (by simp) ?_
            refine AllReadyH.cons (by simp only [List.getElem?_toArray, List.getElem?_cons_succ, List.getElem?_cons_zero]; rfl) (fun K hK => ?_) AllReadyH.nil
            rw [if_pos (by rfl)]
            refine wp_store_mid 23 (.tmp 9) (.tmp 42) (by rfl) g9 0 #[.int .i64 (-70), .int .i64 40] (by rfl) (by rfl) (there_mid (o := 0) H9.out (by simp)) (by kernel_rfl) (by simp [Value.oneCell']) ?_
            replace HS := Lib.hid (HS.out.low (set2_low (x := .int .i64 (-70)) (y := .int .i64 40) (g := g9) (by omega)))
            replace H9 := Lib.hid (set2_blk (x := .int .i64 (-70)) (y := .int .i64 40) H9.out)
            replace H5 := Lib.hid (far2 (x := .int .i64 (-70)) (y := .int .i64 40) (show g5 ≠ g9 by omega) H5.out)
            replace H6 := Lib.hid (far2 (x := .int .i64 (-70)) (y := .int .i64 40) (show g6 ≠ g9 by omega) H6.out)
            replace H8 := Lib.hid (far2 (x := .int .i64 (-70)) (y := .int .i64 40) (show g8 ≠ g9 by omega) H8.out)
            refine hK.out _ _ ⟨HS.out.k1, HS.out.k2⟩ (fun hH6 => ?_)
            clear hK K
            try simp only [List.setIfInBounds_toArray, List.set_cons_zero, List.set_cons_succ]
            refine wpAnyH_take (i := 12 ) (v := ?_) rfl (by kernel_rfl) (by kernel_rfl) (by kernel_rfl) (fun _ _ _ h => h) (Or.inl ⟨by rfl, ?_⟩) (by assumption) ?_; rotate_left; (· (intro w0 hSw; clear hSw; go_simp); first | done | with_reducible rfl); (try simp only [Act.put, List.getElem_toArray, List.getElem_cons_succ, List.getElem_cons_zero, List.setIfInBounds_toArray, List.set_cons_zero, List.set_cons_succ])
            refine wpAnyH_done (by kernel_rfl) ?_ _
            go_wp2_with fail
            go_meet
            exact ⟨g8, g9, rfl, rfl, rfl, HS, H5, H6, H8, H9⟩
          refine AllReadyH.cons (by simp only [List.getElem?_toArray, List.getElem?_cons_succ, List.getElem?_cons_zero]; rfl) (fun K hK => ?_) ?_
          · go_simp
            have hb : Below X.heap.size X (X.alloc (.cells #[.int .i64 0, .int .i64 0] 23)) := (Below.refl _ _).alloc (Nat.le_refl _) _
            have H9 := Lib.hid (Blk.new X 23 #[.int .i64 0, .int .i64 0])
            have hg9 : q + 1 + 1 + 1 < X.heap.size := HS.out.k4.lt
            have hneg5g9 : g5 ≠ X.heap.size := Nat.ne_of_lt H5.out.lt
            have hneg6g9 : g6 ≠ X.heap.size := Nat.ne_of_lt H6.out.lt
            replace HS := Lib.hid (HS.out.call hb)
            replace H5 := Lib.hid (H5.out.below hb H5.out.lt)
            replace H6 := Lib.hid (H6.out.below hb H6.out.lt)
            clear hb
            generalize X.heap.size = g9 at *
            generalize World.alloc X _ = X at *
            refine hK.out _ _ ⟨HS.out.k1, HS.out.k2⟩ (fun hH7 => ?_)
            clear hK K
            try simp only [List.setIfInBounds_toArray, List.set_cons_zero, List.set_cons_succ]
            refine wpAnyH_ready (rs := [8]) (by kernel_rfl) (by simp) ?_
            refine AllReadyH.cons (by simp only [List.getElem?_toArray, List.getElem?_cons_succ, List.getElem?_cons_zero]; rfl) (fun K hK => ?_) AllReadyH.nil
            go_simp
            have hb : Below X.heap.size X (X.alloc (.cells #[.int .i64 0, .int .i64 0] 23)) := (Below.refl _ _).alloc (Nat.le_refl _) _
            have H8 := Lib.hid (Blk.new X 23 #[.int .i64 0, .int .i64 0])
            have hg8 : q + 1 + 1 + 1 < X.heap.size := HS.out.k4.lt
            have hneg5g8 : g5 ≠ X.heap.size := Nat.ne_of_lt H5.out.lt
            have hneg6g8 : g6 ≠ X.heap.size := Nat.ne_of_lt H6.out.lt
            have hneg9g8 : g9 ≠ X.heap.size := Nat.ne_of_lt H9.out.lt
            replace HS := Lib.hid (HS.out.call hb)
            replace H5 := Lib.hid (H5.out.below hb H5.out.lt)
            replace H6 := Lib.hid (H6.out.below hb H6.out.lt)
            replace H9 := Lib.hid (H9.out.below hb H9.out.lt)
            clear hb
            generalize X.heap.size = g8 at *
            generalize World.alloc X _ = X at *
            refine hK.out _ _ ⟨HS.out.k1, HS.out.k2⟩ (fun hH8 => ?_)
            clear hK K
            try simp only [List.setIfInBounds_toArray, List.set_cons_zero, List.set_cons_succ]
            refine wpAnyH_ready (rs := [10]) (by kernel_rfl) (by simp) ?_
            refine AllReadyH.cons (by simp only [List.getElem?_toArray, List.getElem?_cons_succ, List.getElem?_cons_zero]; rfl) (fun K hK => ?_) AllReadyH.nil
            rw [if_pos (by rfl)]
            refine wp_store_mid 23 (.tmp 8) (.tmp 41) (by rfl) g8 0 #[.int .i64 (-10), .int .i64 22] (by rfl) (by rfl) (there_mid (o := 0) H8.out (by simp)) (by kernel_rfl) (by simp [Value.oneCell']) ?_
            replace HS := Lib.hid (HS.out.low (set2_low (x := .int .i64 (-10)) (y := .int .i64 22) (g := g8) (by omega)))
            replace H8 := Lib.hid (set2_blk (x := .int .i64 (-10)) (y := .int .i64 22) H8.out)
            replace H5 := Lib.hid (far2 (x := .int .i64 (-10)) (y := .int .i64 22) (show g5 ≠ g8 by omega) H5.out)
            replace H6 := Lib.hid (far2 (x := .int .i64 (-10)) (y := .int .i64 22) (show g6 ≠ g8 by omega) H6.out)
            replace H9 := Lib.hid (far2 (x := .int .i64 (-10)) (y := .int .i64 22) (show g9 ≠ g8 by omega) H9.out)
            refine hK.out _ _ ⟨HS.out.k1, HS.out.k2⟩ (fun hH9 => ?_)
            clear hK K
            try simp only [List.setIfInBounds_toArray, List.set_cons_zero, List.set_cons_succ]
            refine wpAnyH_ready (rs := [11]) (by kernel_rfl) (by simp) ?_
            refine AllReadyH.cons (by simp only [List.getElem?_toArray, List.getElem?_cons_succ, List.getElem?_cons_zero]; rfl) (fun K hK => ?_) AllReadyH.nil
            rw [if_pos (by rfl)]
            refine wp_store_mid 23 (.tmp 9) (.tmp 42) (by rfl) g9 0 #[.int .i64 (-70), .int .i64 40] (by rfl) (by rfl) (there_mid (o := 0) H9.out (by simp)) (by kernel_rfl) (by simp [Value.oneCell']) ?_
            replace HS := Lib.hid (HS.out.low (set2_low (x := .int .i64 (-70)) (y := .int .i64 40) (g := g9) (by omega)))
            replace H9 := Lib.hid (set2_blk (x := .int .i64 (-70)) (y := .int .i64 40) H9.out)
            replace H5 := Lib.hid (far2 (x := .int .i64 (-70)) (y := .int .i64 40) (show g5 ≠ g9 by omega) H5.out)
            replace H6 := Lib.hid (far2 (x := .int .i64 (-70)) (y := .int .i64 40) (show g6 ≠ g9 by omega) H6.out)
            replace H8 := Lib.hid (far2 (x := .int .i64 (-70)) (y := .int .i64 40) (show g8 ≠ g9 by omega) H8.out)
            refine hK.out _ _ ⟨HS.out.k1, HS.out.k2⟩ (fun hH10 => ?_)
            clear hK K
            try simp only [List.setIfInBounds_toArray, List.set_cons_zero, List.set_cons_succ]
            refine wpAnyH_take (i := 12 ) (v := ?_) rfl (by kernel_rfl) (by kernel_rfl) (by kernel_rfl) (fun _ _ _ h => h) (Or.inl ⟨by rfl, ?_⟩) (by assumption) ?_; rotate_left; (· (intro w0 hSw; clear hSw; go_simp); first | done | with_reducible rfl); (try simp only [Act.put, List.getElem_toArray, List.getElem_cons_succ, List.getElem_cons_zero, List.setIfInBounds_toArray, List.set_cons_zero, List.set_cons_succ])
            refine wpAnyH_done (by kernel_rfl) ?_ _
            go_wp2_with fail
            go_meet
            exact ⟨g8, g9, rfl, rfl, rfl, HS, H5, H6, H8, H9⟩
          exact AllReadyH.nil
        refine AllReadyH.cons (by simp only [List.getElem?_toArray, List.getElem?_cons_succ, List.getElem?_cons_zero]; rfl) (fun K hK => ?_) ?_
        · go_simp
          have hb : Below X.heap.size X (X.alloc (.cells #[.int .i64 0, .int .i64 0] 23)) := (Below.refl _ _).alloc (Nat.le_refl _) _
          have H8 := Lib.hid (Blk.new X 23 #[.int .i64 0, .int .i64 0])
          have hg8 : q + 1 + 1 + 1 < X.heap.size := HS.out.k4.lt
          have hneg5g8 : g5 ≠ X.heap.size := Nat.ne_of_lt H5.out.lt
          have hneg6g8 : g6 ≠ X.heap.size := Nat.ne_of_lt H6.out.lt
          replace HS := Lib.hid (HS.out.call hb)
          replace H5 := Lib.hid (H5.out.below hb H5.out.lt)
          replace H6 := Lib.hid (H6.out.below hb H6.out.lt)
          clear hb
          generalize X.heap.size = g8 at *
          generalize World.alloc X _ = X at *
          refine hK.out _ _ ⟨HS.out.k1, HS.out.k2⟩ (fun hH11 => ?_)
          clear hK K
          try simp only [List.setIfInBounds_toArray, List.set_cons_zero, List.set_cons_succ]
          refine wpAnyH_ready (rs := [3, 9]) (by kernel_rfl) (by simp) ?_
          refine AllReadyH.cons (by simp only [List.getElem?_toArray, List.getElem?_cons_succ, List.getElem?_cons_zero]; rfl) (fun K hK => ?_) ?_
          · go_simp
            refine (offN2_any _).mono ?_
            rintro e X ⟨rfl, hb⟩
            replace HS := Lib.hid (HS.out.call hb)
            replace H5 := Lib.hid (H5.out.below hb H5.out.lt)
            replace H6 := Lib.hid (H6.out.below hb H6.out.lt)
            replace H8 := Lib.hid (H8.out.below hb H8.out.lt)
            clear hb
            refine hK.out _ _ ⟨HS.out.k1, HS.out.k2⟩ (fun hH12 => ?_)
            clear hK K
            try simp only [List.setIfInBounds_toArray, List.set_cons_zero, List.set_cons_succ]
            refine wpAnyH_take (i := 4 ) (v := ?_) rfl (by kernel_rfl) (by kernel_rfl) (by kernel_rfl) (fun _ _ _ h => h) (Or.inl ⟨by rfl, ?_⟩) (by assumption) ?_; rotate_left; (· (intro w0 hSw; clear hSw; go_simp); first | done | with_reducible rfl); (try simp only [Act.put, List.getElem_toArray, List.getElem_cons_succ, List.getElem_cons_zero, List.setIfInBounds_toArray, List.set_cons_zero, List.set_cons_succ])
            refine wpAnyH_take (i := 5 ) (v := ?_) rfl (by kernel_rfl) (by kernel_rfl) (by kernel_rfl) (fun _ _ _ h => h) (Or.inl ⟨by rfl, ?_⟩) (by assumption) ?_; rotate_left; (· (intro w0 hSw; clear hSw; go_simp); first | done | with_reducible rfl); (try simp only [Act.put, List.getElem_toArray, List.getElem_cons_succ, List.getElem_cons_zero, List.setIfInBounds_toArray, List.set_cons_zero, List.set_cons_succ])
            refine wpAnyH_take (i := 6 ) (v := ?_) rfl (by kernel_rfl) (by kernel_rfl) (by kernel_rfl) (fun _ _ _ h => h) (Or.inl ⟨by rfl, ?_⟩) (by assumption) ?_; rotate_left; (· (intro w0 hSw; clear hSw; go_simp); first | done | with_reducible rfl); (try simp only [Act.put, List.getElem_toArray, List.getElem_cons_succ, List.getElem_cons_zero, List.setIfInBounds_toArray, List.set_cons_zero, List.set_cons_succ])
            refine wpAnyH_take (i := 7 ) (v := ?_) rfl (by kernel_rfl) (by kernel_rfl) (by kernel_rfl) (fun _ _ _ h => h) (Or.inl ⟨by rfl, ?_⟩) (by assumption) ?_; rotate_left; (· (intro w0 hSw; clear hSw; go_simp); first | done | with_reducible rfl); (try simp only [Act.put, List.getElem_toArray, List.getElem_cons_succ, List.getElem_cons_zero, List.setIfInBounds_toArray, List.set_cons_zero, List.set_cons_succ])
            refine wpAnyH_ready (rs := [9]) (by kernel_rfl) (by simp) ?_
            refine AllReadyH.cons (by simp only [List.getElem?_toArray, List.getElem?_cons_succ, List.getElem?_cons_zero]; rfl) (fun K hK => ?_) AllReadyH.nil
            go_simp
            have hb : Below X.heap.size X (X.alloc (.cells #[.int .i64 0, .int .i64 0] 23)) := (Below.refl _ _).alloc (Nat.le_refl _) _
            have H9 := Lib.hid (Blk.new X 23 #[.int .i64 0, .int .i64 0])
            have hg9 : q + 1 + 1 + 1 < X.heap.size := HS.out.k4.lt
            have hneg5g9 : g5 ≠ X.heap.size := Nat.ne_of_lt H5.out.lt
            have hneg6g9 : g6 ≠ X.heap.size := Nat.ne_of_lt H6.out.lt
            have hneg8g9 : g8 ≠ X.heap.size := Nat.ne_of_lt H8.out.lt
            replace HS := Lib.hid (HS.out.call hb)
            replace H5 := Lib.hid (H5.out.below hb H5.out.lt)
            replace H6 := Lib.hid (H6.out.below hb H6.out.lt)
            replace H8 := Lib.hid (H8.out.below hb H8.out.lt)
            clear hb
            generalize X.heap.size = g9 at *
            generalize World.alloc X _ = X at *
            refine hK.out _ _ ⟨HS.out.k1, HS.out.k2⟩ (fun hH13 => ?_)
            clear hK K
            try simp only [List.setIfInBounds_toArray, List.set_cons_zero, List.set_cons_succ]
            refine wpAnyH_ready (rs := [10]) (by kernel_rfl) (by simp) ?_
            refine AllReadyH.cons (by simp only [List.getElem?_toArray, List.getElem?_cons_succ, List.getElem?_cons_zero]; rfl) (fun K hK => ?_) AllReadyH.nil
            rw [if_pos (by rfl)]
            refine wp_store_mid 23 (.tmp 8) (.tmp 41) (by rfl) g8 0 #[.int .i64 (-10), .int .i64 22] (by rfl) (by rfl) (there_mid (o := 0) H8.out (by simp)) (by kernel_rfl) (by simp [Value.oneCell']) ?_
            replace HS := Lib.hid (HS.out.low (set2_low (x := .int .i64 (-10)) (y := .int .i64 22) (g := g8) (by omega)))
            replace H8 := Lib.hid (set2_blk (x := .int .i64 (-10)) (y := .int .i64 22) H8.out)
            replace H5 := Lib.hid (far2 (x := .int .i64 (-10)) (y := .int .i64 22) (show g5 ≠ g8 by omega) H5.out)
            replace H6 := Lib.hid (far2 (x := .int .i64 (-10)) (y := .int .i64 22) (show g6 ≠ g8 by omega) H6.out)
            replace H9 := Lib.hid (far2 (x := .int .i64 (-10)) (y := .int .i64 22) (show g9 ≠ g8 by omega) H9.out)
            refine hK.out _ _ ⟨HS.out.k1, HS.out.k2⟩ (fun hH14 => ?_)
            clear hK K
            try simp only [List.setIfInBounds_toArray, List.set_cons_zero, List.set_cons_succ]
            refine wpAnyH_ready (rs := [11]) (by kernel_rfl) (by simp) ?_
            refine AllReadyH.cons (by simp only [List.getElem?_toArray, List.getElem?_cons_succ, List.getElem?_cons_zero]; rfl) (fun K hK => ?_) AllReadyH.nil
            rw [if_pos (by rfl)]
            refine wp_store_mid 23 (.tmp 9) (.tmp 42) (by rfl) g9 0 #[.int .i64 (-70), .int .i64 40] (by rfl) (by rfl) (there_mid (o := 0) H9.out (by simp)) (by kernel_rfl) (by simp [Value.oneCell']) ?_
            replace HS := Lib.hid (HS.out.low (set2_low (x := .int .i64 (-70)) (y := .int .i64 40) (g := g9) (by omega)))
            replace H9 := Lib.hid (set2_blk (x := .int .i64 (-70)) (y := .int .i64 40) H9.out)
            replace H5 := Lib.hid (far2 (x := .int .i64 (-70)) (y := .int .i64 40) (show g5 ≠ g9 by omega) H5.out)
            replace H6 := Lib.hid (far2 (x := .int .i64 (-70)) (y := .int .i64 40) (show g6 ≠ g9 by omega) H6.out)
            replace H8 := Lib.hid (far2 (x := .int .i64 (-70)) (y := .int .i64 40) (show g8 ≠ g9 by omega) H8.out)
            refine hK.out _ _ ⟨HS.out.k1, HS.out.k2⟩ (fun hH15 => ?_)
            clear hK K
            try simp only [List.setIfInBounds_toArray, List.set_cons_zero, List.set_cons_succ]
            refine wpAnyH_take (i := 12 ) (v := ?_) rfl (by kernel_rfl) (by kernel_rfl) (by kernel_rfl) (fun _ _ _ h => h) (Or.inl ⟨by rfl, ?_⟩) (by assumption) ?_; rotate_left; (· (intro w0 hSw; clear hSw; go_simp); first | done | with_reducible rfl); (try simp only [Act.put, List.getElem_toArray, List.getElem_cons_succ, List.getElem_cons_zero, List.setIfInBounds_toArray, List.set_cons_zero, List.set_cons_succ])
            refine wpAnyH_done (by kernel_rfl) ?_ _
            go_wp2_with fail
            go_meet
            exact ⟨g8, g9, rfl, rfl, rfl, HS, H5, H6, H8, H9⟩
          refine AllReadyH.cons (by simp only [List.getElem?_toArray, List.getElem?_cons_succ, List.getElem?_cons_zero]; rfl) (fun K hK => ?_) ?_
          · go_simp
            have hb : Below X.heap.size X (X.alloc (.cells #[.int .i64 0, .int .i64 0] 23)) := (Below.refl _ _).alloc (Nat.le_refl _) _
            have H9 := Lib.hid (Blk.new X 23 #[.int .i64 0, .int .i64 0])
            have hg9 : q + 1 + 1 + 1 < X.heap.size := HS.out.k4.lt
            have hneg5g9 : g5 ≠ X.heap.size := Nat.ne_of_lt H5.out.lt
            have hneg6g9 : g6 ≠ X.heap.size := Nat.ne_of_lt H6.out.lt
            have hneg8g9 : g8 ≠ X.heap.size := Nat.ne_of_lt H8.out.lt
            replace HS := Lib.hid (HS.out.call hb)
            replace H5 := Lib.hid (H5.out.below hb H5.out.lt)
            replace H6 := Lib.hid (H6.out.below hb H6.out.lt)
            replace H8 := Lib.hid (H8.out.below hb H8.out.lt)
            clear hb
            generalize X.heap.size = g9 at *
            generalize World.alloc X _ = X at *
            refine hK.out _ _ ⟨HS.out.k1, HS.out.k2⟩ (fun hH16 => ?_)
            clear hK K
            try simp only [List.setIfInBounds_toArray, List.set_cons_zero, List.set_cons_succ]
            refine wpAnyH_ready (rs := [3]) (by kernel_rfl) (by simp) ?_
            refine AllReadyH.cons (by simp only [List.getElem?_toArray, List.getElem?_cons_succ, List.getElem?_cons_zero]; rfl) (fun K hK => ?_) AllReadyH.nil
            go_simp
            refine (offN2_any _).mono ?_
            rintro e X ⟨rfl, hb⟩
            replace HS := Lib.hid (HS.out.call hb)
            replace H5 := Lib.hid (H5.out.below hb H5.out.lt)
            replace H6 := Lib.hid (H6.out.below hb H6.out.lt)
            replace H8 := Lib.hid (H8.out.below hb H8.out.lt)
            replace H9 := Lib.hid (H9.out.below hb H9.out.lt)
            clear hb
            refine hK.out _ _ ⟨HS.out.k1, HS.out.k2⟩ (fun hH17 => ?_)
            clear hK K
            try simp only [List.setIfInBounds_toArray, List.set_cons_zero, List.set_cons_succ]
            refine wpAnyH_take (i := 4 ) (v := ?_) rfl (by kernel_rfl) (by kernel_rfl) (by kernel_rfl) (fun _ _ _ h => h) (Or.inl ⟨by rfl, ?_⟩) (by assumption) ?_; rotate_left; (· (intro w0 hSw; clear hSw; go_simp); first | done | with_reducible rfl); (try simp only [Act.put, List.getElem_toArray, List.getElem_cons_succ, List.getElem_cons_zero, List.setIfInBounds_toArray, List.set_cons_zero, List.set_cons_succ])
            refine wpAnyH_take (i := 5 ) (v := ?_) rfl (by kernel_rfl) (by kernel_rfl) (by kernel_rfl) (fun _ _ _ h => h) (Or.inl ⟨by rfl, ?_⟩) (by assumption) ?_; rotate_left; (· (intro w0 hSw; clear hSw; go_simp); first | done | with_reducible rfl); (try simp only [Act.put, List.getElem_toArray, List.getElem_cons_succ, List.getElem_cons_zero, List.setIfInBounds_toArray, List.set_cons_zero, List.set_cons_succ])
            refine wpAnyH_take (i := 6 ) (v := ?_) rfl (by kernel_rfl) (by kernel_rfl) (by kernel_rfl) (fun _ _ _ h => h) (Or.inl ⟨by rfl, ?_⟩) (by assumption) ?_; rotate_left; (· (intro w0 hSw; clear hSw; go_simp); first | done | with_reducible rfl); (try simp only [Act.put, List.getElem_toArray, List.getElem_cons_succ, List.getElem_cons_zero, List.setIfInBounds_toArray, List.set_cons_zero, List.set_cons_succ])
            refine wpAnyH_take (i := 7 ) (v := ?_) rfl (by kernel_rfl) (by kernel_rfl) (by kernel_rfl) (fun _ _ _ h => h) (Or.inl ⟨by rfl, ?_⟩) (by assumption) ?_; rotate_left; (· (intro w0 hSw; clear hSw; go_simp); first | done | with_reducible rfl); (try simp only [Act.put, List.getElem_toArray, List.getElem_cons_succ, List.getElem_cons_zero, List.setIfInBounds_toArray, List.set_cons_zero, List.set_cons_succ])
            refine wpAnyH_ready (rs := [10]) (by kernel_rfl) (by simp) ?_
            refine AllReadyH.cons (by simp only [List.getElem?_toArray, List.getElem?_cons_succ, List.getElem?_cons_zero]; rfl) (fun K hK => ?_) AllReadyH.nil
            rw [if_pos (by rfl)]
            refine wp_store_mid 23 (.tmp 8) (.tmp 41) (by rfl) g8 0 #[.int .i64 (-10), .int .i64 22] (by rfl) (by rfl) (there_mid (o := 0) H8.out (by simp)) (by kernel_rfl) (by simp [Value.oneCell']) ?_
            replace HS := Lib.hid (HS.out.low (set2_low (x := .int .i64 (-10)) (y := .int .i64 22) (g := g8) (by omega)))
            replace H8 := Lib.hid (set2_blk (x := .int .i64 (-10)) (y := .int .i64 22) H8.out)
            replace H5 := Lib.hid (far2 (x := .int .i64 (-10)) (y := .int .i64 22) (show g5 ≠ g8 by omega) H5.out)
            replace H6 := Lib.hid (far2 (x := .int .i64 (-10)) (y := .int .i64 22) (show g6 ≠ g8 by omega) H6.out)
            replace H9 := Lib.hid (far2 (x := .int .i64 (-10)) (y := .int .i64 22) (show g9 ≠ g8 by omega) H9.out)
            refine hK.out _ _ ⟨HS.out.k1, HS.out.k2⟩ (fun hH18 => ?_)
            clear hK K
            try simp only [List.setIfInBounds_toArray, List.set_cons_zero, List.set_cons_succ]
            refine wpAnyH_ready (rs := [11]) (by kernel_rfl) (by simp) ?_
            refine AllReadyH.cons (by simp only [List.getElem?_toArray, List.getElem?_cons_succ, List.getElem?_cons_zero]; rfl) (fun K hK => ?_) AllReadyH.nil
            rw [if_pos (by rfl)]
            refine wp_store_mid 23 (.tmp 9) (.tmp 42) (by rfl) g9 0 #[.int .i64 (-70), .int .i64 40] (by rfl) (by rfl) (there_mid (o := 0) H9.out (by simp)) (by kernel_rfl) (by simp [Value.oneCell']) ?_
            replace HS := Lib.hid (HS.out.low (set2_low (x := .int .i64 (-70)) (y := .int .i64 40) (g := g9) (by omega)))
            replace H9 := Lib.hid (set2_blk (x := .int .i64 (-70)) (y := .int .i64 40) H9.out)
            replace H5 := Lib.hid (far2 (x := .int .i64 (-70)) (y := .int .i64 40) (show g5 ≠ g9 by omega) H5.out)
            replace H6 := Lib.hid (far2 (x := .int .i64 (-70)) (y := .int .i64 40) (show g6 ≠ g9 by omega) H6.out)
            replace H8 := Lib.hid (far2 (x := .int .i64 (-70)) (y := .int .i64 40) (show g8 ≠ g9 by omega) H8.out)
            refine hK.out _ _ ⟨HS.out.k1, HS.out.k2⟩ (fun hH19 => ?_)
            clear hK K
            try simp only [List.setIfInBounds_toArray, List.set_cons_zero, List.set_cons_succ]
            refine wpAnyH_take (i := 12 ) (v := ?_) rfl (by kernel_rfl) (by kernel_rfl) (by kernel_rfl) (fun _ _ _ h => h) (Or.inl ⟨by rfl, ?_⟩) (by assumption) ?_; rotate_left; (· (intro w0 hSw; clear hSw; go_simp); first | done | with_reducible rfl); (try simp only [Act.put, List.getElem_toArray, List.getElem_cons_succ, List.getElem_cons_zero, List.setIfInBounds_toArray, List.set_cons_zero, List.set_cons_succ])
            refine wpAnyH_done (by kernel_rfl) ?_ _
            go_wp2_with fail
            go_meet
            exact ⟨g8, g9, rfl, rfl, rfl, HS, H5, H6, H8, H9⟩
          exact AllReadyH.nil
        refine AllReadyH.cons (by simp only [List.getElem?_toArray, List.getElem?_cons_succ, List.getElem?_cons_zero]; rfl) (fun K hK => ?_) ?_
        · go_simp
          have hb : Below X.heap.size X (X.alloc (.cells #[.int .i64 0, .int .i64 0] 23)) := (Below.refl _ _).alloc (Nat.le_refl _) _
          have H9 := Lib.hid (Blk.new X 23 #[.int .i64 0, .int .i64 0])
          have hg9 : q + 1 + 1 + 1 < X.heap.size := HS.out.k4.lt
          have hneg5g9 : g5 ≠ X.heap.size := Nat.ne_of_lt H5.out.lt
          have hneg6g9 : g6 ≠ X.heap.size := Nat.ne_of_lt H6.out.lt
          replace HS := Lib.hid (HS.out.call hb)
          replace H5 := Lib.hid (H5.out.below hb H5.out.lt)
          replace H6 := Lib.hid (H6.out.below hb H6.out.lt)
          clear hb
          generalize X.heap.size = g9 at *
          generalize World.alloc X _ = X at *
          refine hK.out _ _ ⟨HS.out.k1, HS.out.k2⟩ (fun hH20 => ?_)
          clear hK K
          try simp only [List.setIfInBounds_toArray, List.set_cons_zero, List.set_cons_succ]
          refine wpAnyH_ready (rs := [3, 8]) (by kernel_rfl) (by simp) ?_
          refine AllReadyH.cons (by simp only [List.getElem?_toArray, List.getElem?_cons_succ, List.getElem?_cons_zero]; rfl) (fun K hK => ?_) ?_
          · go_simp
            refine (offN2_any _).mono ?_
            rintro e X ⟨rfl, hb⟩
            replace HS := Lib.hid (HS.out.call hb)
            replace H5 := Lib.hid (H5.out.below hb H5.out.lt)
            replace H6 := Lib.hid (H6.out.below hb H6.out.lt)
            replace H9 := Lib.hid (H9.out.below hb H9.out.lt)
            clear hb
            refine hK.out _ _ ⟨HS.out.k1, HS.out.k2⟩ (fun hH21 => ?_)
            clear hK K
            try simp only [List.setIfInBounds_toArray, List.set_cons_zero, List.set_cons_succ]
            refine wpAnyH_take (i := 4 ) (v := ?_) rfl (by kernel_rfl) (by kernel_rfl) (by kernel_rfl) (fun _ _ _ h => h) (Or.inl ⟨by rfl, ?_⟩) (by assumption) ?_; rotate_left; (· (intro w0 hSw; clear hSw; go_simp); first | done | with_reducible rfl); (try simp only [Act.put, List.getElem_toArray, List.getElem_cons_succ, List.getElem_cons_zero, List.setIfInBounds_toArray, List.set_cons_zero, List.set_cons_succ])
            refine wpAnyH_take (i := 5 ) (v := ?_) rfl (by kernel_rfl) (by kernel_rfl) (by kernel_rfl) (fun _ _ _ h => h) (Or.inl ⟨by rfl, ?_⟩) (by assumption) ?_; rotate_left; (· (intro w0 hSw; clear hSw; go_simp); first | done | with_reducible rfl); (try simp only [Act.put, List.getElem_toArray, List.getElem_cons_succ, List.getElem_cons_zero, List.setIfInBounds_toArray, List.set_cons_zero, List.set_cons_succ])
            refine wpAnyH_take (i := 6 ) (v := ?_) rfl (by kernel_rfl) (by kernel_rfl) (by kernel_rfl) (fun _ _ _ h => h) (Or.inl ⟨by rfl, ?_⟩) (by assumption) ?_; rotate_left; (· (intro w0 hSw; clear hSw; go_simp); first | done | with_reducible rfl); (try simp only [Act.put, List.getElem_toArray, List.getElem_cons_succ, List.getElem_cons_zero, List.setIfInBounds_toArray, List.set_cons_zero, List.set_cons_succ])
            refine wpAnyH_take (i := 7 ) (v := ?_) rfl (by kernel_rfl) (by kernel_rfl) (by kernel_rfl) (fun _ _ _ h => h) (Or.inl ⟨by rfl, ?_⟩) (by assumption) ?_; rotate_left; (· (intro w0 hSw; clear hSw; go_simp); first | done | with_reducible rfl); (try simp only [Act.put, List.getElem_toArray, List.getElem_cons_succ, List.getElem_cons_zero, List.setIfInBounds_toArray, List.set_cons_zero, List.set_cons_succ])
            refine wpAnyH_ready (rs := [8]) (by kernel_rfl) (by simp) ?_
            refine AllReadyH.cons (by simp only [List.getElem?_toArray, List.getElem?_cons_succ, List.getElem?_cons_zero]; rfl) (fun K hK => ?_) AllReadyH.nil
            go_simp
            have hb : Below X.heap.size X (X.alloc (.cells #[.int .i64 0, .int .i64 0] 23)) := (Below.refl _ _).alloc (Nat.le_refl _) _
            have H8 := Lib.hid (Blk.new X 23 #[.int .i64 0, .int .i64 0])
            have hg8 : q + 1 + 1 + 1 < X.heap.size := HS.out.k4.lt
            have hneg5g8 : g5 ≠ X.heap.size := Nat.ne_of_lt H5.out.lt
            have hneg6g8 : g6 ≠ X.heap.size := Nat.ne_of_lt H6.out.lt
            have hneg9g8 : g9 ≠ X.heap.size := Nat.ne_of_lt H9.out.lt
            replace HS := Lib.hid (HS.out.call hb)
            replace H5 := Lib.hid (H5.out.below hb H5.out.lt)
            replace H6 := Lib.hid (H6.out.below hb H6.out.lt)
            replace H9 := Lib.hid (H9.out.below hb H9.out.lt)
            clear hb
            generalize X.heap.size = g8 at *
            generalize World.alloc X _ = X at *
            refine hK.out _ _ ⟨HS.out.k1, HS.out.k2⟩ (fun hH22 => ?_)
            clear hK K
            try simp only [List.setIfInBounds_toArray, List.set_cons_zero, List.set_cons_succ]
            refine wpAnyH_ready (rs := [10]) (by kernel_rfl) (by simp) ?_
            refine AllReadyH.cons (by simp only [List.getElem?_toArray, List.getElem?_cons_succ, List.getElem?_cons_zero]; rfl) (fun K hK => ?_) AllReadyH.nil
            rw [if_pos (by rfl)]
            refine wp_store_mid 23 (.tmp 8) (.tmp 41) (by rfl) g8 0 #[.int .i64 (-10), .int .i64 22] (by rfl) (by rfl) (there_mid (o := 0) H8.out (by simp)) (by kernel_rfl) (by simp [Value.oneCell']) ?_
            replace HS := Lib.hid (HS.out.low (set2_low (x := .int .i64 (-10)) (y := .int .i64 22) (g := g8) (by omega)))
            replace H8 := Lib.hid (set2_blk (x := .int .i64 (-10)) (y := .int .i64 22) H8.out)
            replace H5 := Lib.hid (far2 (x := .int .i64 (-10)) (y := .int .i64 22) (show g5 ≠ g8 by omega) H5.out)
            replace H6 := Lib.hid (far2 (x := .int .i64 (-10)) (y := .int .i64 22) (show g6 ≠ g8 by omega) H6.out)
            replace H9 := Lib.hid (far2 (x := .int .i64 (-10)) (y := .int .i64 22) (show g9 ≠ g8 by omega) H9.out)
            refine hK.out _ _ ⟨HS.out.k1, HS.out.k2⟩ (fun hH23 => ?_)
            clear hK K
            try simp only [List.setIfInBounds_toArray, List.set_cons_zero, List.set_cons_succ]
            refine wpAnyH_ready (rs := [11]) (by kernel_rfl) (by simp) ?_
            refine AllReadyH.cons (by simp only [List.getElem?_toArray, List.getElem?_cons_succ, List.getElem?_cons_zero]; rfl) (fun K hK => ?_) AllReadyH.nil
            rw [if_pos (by rfl)]
            refine wp_store_mid 23 (.tmp 9) (.tmp 42) (by rfl) g9 0 #[.int .i64 (-70), .int .i64 40] (by rfl) (by rfl) (there_mid (o := 0) H9.out (by simp)) (by kernel_rfl) (by simp [Value.oneCell']) ?_
            replace HS := Lib.hid (HS.out.low (set2_low (x := .int .i64 (-70)) (y := .int .i64 40) (g := g9) (by omega)))
            replace H9 := Lib.hid (set2_blk (x := .int .i64 (-70)) (y := .int .i64 40) H9.out)
            replace H5 := Lib.hid (far2 (x := .int .i64 (-70)) (y := .int .i64 40) (show g5 ≠ g9 by omega) H5.out)
            replace H6 := Lib.hid (far2 (x := .int .i64 (-70)) (y := .int .i64 40) (show g6 ≠ g9 by omega) H6.out)
            replace H8 := Lib.hid (far2 (x := .int .i64 (-70)) (y := .int .i64 40) (show g8 ≠ g9 by omega) H8.out)
            refine hK.out _ _ ⟨HS.out.k1, HS.out.k2⟩ (fun hH24 => ?_)
            clear hK K
            try simp only [List.setIfInBounds_toArray, List.set_cons_zero, List.set_cons_succ]
            refine wpAnyH_take (i := 12 ) (v := ?_) rfl (by kernel_rfl) (by kernel_rfl) (by kernel_rfl) (fun _ _ _ h => h) (Or.inl ⟨by rfl, ?_⟩) (by assumption) ?_; rotate_left; (· (intro w0 hSw; clear hSw; go_simp); first | done | with_reducible rfl); (try simp only [Act.put, List.getElem_toArray, List.getElem_cons_succ, List.getElem_cons_zero, List.setIfInBounds_toArray, List.set_cons_zero, List.set_cons_succ])
            refine wpAnyH_done (by kernel_rfl) ?_ _
            go_wp2_with fail
            go_meet
            exact ⟨g8, g9, rfl, rfl, rfl, HS, H5, H6, H8, H9⟩
          refine AllReadyH.cons (by simp only [List.getElem?_toArray, List.getElem?_cons_succ, List.getElem?_cons_zero]; rfl) (fun K hK => ?_) ?_
          · go_simp
            have hb : Below X.heap.size X (X.alloc (.cells #[.int .i64 0, .int .i64 0] 23)) := (Below.refl _ _).alloc (Nat.le_refl _) _
            have H8 := Lib.hid (Blk.new X 23 #[.int .i64 0, .int .i64 0])
            have hg8 : q + 1 + 1 + 1 < X.heap.size := HS.out.k4.lt
            have hneg5g8 : g5 ≠ X.heap.size := Nat.ne_of_lt H5.out.lt
            have hneg6g8 : g6 ≠ X.heap.size := Nat.ne_of_lt H6.out.lt
            have hneg9g8 : g9 ≠ X.heap.size := Nat.ne_of_lt H9.out.lt
            replace HS := Lib.hid (HS.out.call hb)
            replace H5 := Lib.hid (H5.out.below hb H5.out.lt)
            replace H6 := Lib.hid (H6.out.below hb H6.out.lt)
            replace H9 := Lib.hid (H9.out.below hb H9.out.lt)
            clear hb
            generalize X.heap.size = g8 at *
            generalize World.alloc X _ = X at *
            refine hK.out _ _ ⟨HS.out.k1, HS.out.k2⟩ (fun hH25 => ?_)
            clear hK K
            try simp only [List.setIfInBounds_toArray, List.set_cons_zero, List.set_cons_succ]
            refine wpAnyH_ready (rs := [3]) (by kernel_rfl) (by simp) ?_
            refine AllReadyH.cons (by simp only [List.getElem?_toArray, List.getElem?_cons_succ, List.getElem?_cons_zero]; rfl) (fun K hK => ?_) AllReadyH.nil
            go_simp
            refine (offN2_any _).mono ?_
            rintro e X ⟨rfl, hb⟩
            replace HS := Lib.hid (HS.out.call hb)
            replace H5 := Lib.hid (H5.out.below hb H5.out.lt)
            replace H6 := Lib.hid (H6.out.below hb H6.out.lt)
            replace H8 := Lib.hid (H8.out.below hb H8.out.lt)
            replace H9 := Lib.hid (H9.out.below hb H9.out.lt)
            clear hb
            refine hK.out _ _ ⟨HS.out.k1, HS.out.k2⟩ (fun hH26 => ?_)
            clear hK K
            try simp only [List.setIfInBounds_toArray, List.set_cons_zero, List.set_cons_succ]
            refine wpAnyH_take (i := 4 ) (v := ?_) rfl (by kernel_rfl) (by kernel_rfl) (by kernel_rfl) (fun _ _ _ h => h) (Or.inl ⟨by rfl, ?_⟩) (by assumption) ?_; rotate_left; (· (intro w0 hSw; clear hSw; go_simp); first | done | with_reducible rfl); (try simp only [Act.put, List.getElem_toArray, List.getElem_cons_succ, List.getElem_cons_zero, List.setIfInBounds_toArray, List.set_cons_zero, List.set_cons_succ])
            refine wpAnyH_take (i := 5 ) (v := ?_) rfl (by kernel_rfl) (by kernel_rfl) (by kernel_rfl) (fun _ _ _ h => h) (Or.inl ⟨by rfl, ?_⟩) (by assumption) ?_; rotate_left; (· (intro w0 hSw; clear hSw; go_simp); first | done | with_reducible rfl); (try simp only [Act.put, List.getElem_toArray, List.getElem_cons_succ, List.getElem_cons_zero, List.setIfInBounds_toArray, List.set_cons_zero, List.set_cons_succ])
            refine wpAnyH_take (i := 6 ) (v := ?_) rfl (by kernel_rfl) (by kernel_rfl) (by kernel_rfl) (fun _ _ _ h => h) (Or.inl ⟨by rfl, ?_⟩) (by assumption) ?_; rotate_left; (· (intro w0 hSw; clear hSw; go_simp); first | done | with_reducible rfl); (try simp only [Act.put, List.getElem_toArray, List.getElem_cons_succ, List.getElem_cons_zero, List.setIfInBounds_toArray, List.set_cons_zero, List.set_cons_succ])
            refine wpAnyH_take (i := 7 ) (v := ?_) rfl (by kernel_rfl) (by kernel_rfl) (by kernel_rfl) (fun _ _ _ h => h) (Or.inl ⟨by rfl, ?_⟩) (by assumption) ?_; rotate_left; (· (intro w0 hSw; clear hSw; go_simp); first | done | with_reducible rfl); (try simp only [Act.put, List.getElem_toArray, List.getElem_cons_succ, List.getElem_cons_zero, List.setIfInBounds_toArray, List.set_cons_zero, List.set_cons_succ])
            refine wpAnyH_ready (rs := [10]) (by kernel_rfl) (by simp) ?_
            refine AllReadyH.cons (by simp only [List.getElem?_toArray, List.getElem?_cons_succ, List.getElem?_cons_zero]; rfl) (fun K hK => ?_) AllReadyH.nil
            rw [if_pos (by rfl)]
            refine wp_store_mid 23 (.tmp 8) (.tmp 41) (by rfl) g8 0 #[.int .i64 (-10), .int .i64 22] (by rfl) (by rfl) (there_mid (o := 0) H8.out (by simp)) (by kernel_rfl) (by simp [Value.oneCell']) ?_
            replace HS := Lib.hid (HS.out.low (set2_low (x := .int .i64 (-10)) (y := .int .i64 22) (g := g8) (by omega)))
            replace H8 := Lib.hid (set2_blk (x := .int .i64 (-10)) (y := .int .i64 22) H8.out)
            replace H5 := Lib.hid (far2 (x := .int .i64 (-10)) (y := .int .i64 22) (show g5 ≠ g8 by omega) H5.out)
            replace H6 := Lib.hid (far2 (x := .int .i64 (-10)) (y := .int .i64 22) (show g6 ≠ g8 by omega) H6.out)
            replace H9 := Lib.hid (far2 (x := .int .i64 (-10)) (y := .int .i64 22) (show g9 ≠ g8 by omega) H9.out)
            refine hK.out _ _ ⟨HS.out.k1, HS.out.k2⟩ (fun hH27 => ?_)
            clear hK K
            try simp only [List.setIfInBounds_toArray, List.set_cons_zero, List.set_cons_succ]
            refine wpAnyH_ready (rs := [11]) (by kernel_rfl) (by simp) ?_
            refine AllReadyH.cons (by simp only [List.getElem?_toArray, List.getElem?_cons_succ, List.getElem?_cons_zero]; rfl) (fun K hK => ?_) AllReadyH.nil
            rw [if_pos (by rfl)]
            refine wp_store_mid 23 (.tmp 9) (.tmp 42) (by rfl) g9 0 #[.int .i64 (-70), .int .i64 40] (by rfl) (by rfl) (there_mid (o := 0) H9.out (by simp)) (by kernel_rfl) (by simp [Value.oneCell']) ?_
            replace HS := Lib.hid (HS.out.low (set2_low (x := .int .i64 (-70)) (y := .int .i64 40) (g := g9) (by omega)))
            replace H9 := Lib.hid (set2_blk (x := .int .i64 (-70)) (y := .int .i64 40) H9.out)
            replace H5 := Lib.hid (far2 (x := .int .i64 (-70)) (y := .int .i64 40) (show g5 ≠ g9 by omega) H5.out)
            replace H6 := Lib.hid (far2 (x := .int .i64 (-70)) (y := .int .i64 40) (show g6 ≠ g9 by omega) H6.out)
            replace H8 := Lib.hid (far2 (x := .int .i64 (-70)) (y := .int .i64 40) (show g8 ≠ g9 by omega) H8.out)
            refine hK.out _ _ ⟨HS.out.k1, HS.out.k2⟩ (fun hH28 => ?_)
            clear hK K
            try simp only [List.setIfInBounds_toArray, List.set_cons_zero, List.set_cons_succ]
            refine wpAnyH_take (i := 12 ) (v := ?_) rfl (by kernel_rfl) (by kernel_rfl) (by kernel_rfl) (fun _ _ _ h => h) (Or.inl ⟨by rfl, ?_⟩) (by assumption) ?_; rotate_left; (· (intro w0 hSw; clear hSw; go_simp); first | done | with_reducible rfl); (try simp only [Act.put, List.getElem_toArray, List.getElem_cons_succ, List.getElem_cons_zero, List.setIfInBounds_toArray, List.set_cons_zero, List.set_cons_succ])
            refine wpAnyH_done (by kernel_rfl) ?_ _
            go_wp2_with fail
            go_meet
            exact ⟨g8, g9, rfl, rfl, rfl, HS, H5, H6, H8, H9⟩
          exact AllReadyH.nil
        exact AllReadyH.nil
      refine AllReadyH.cons (by simp only [List.getElem?_toArray, List.getElem?_cons_succ, List.getElem?_cons_zero]; rfl) (fun K hK => ?_) ?_
      · go_simp
        have hb : Below V0.heap.size V0 (V0.alloc (.cells #[.int .i64 0, .int .i64 0] 23)) := (Below.refl _ _).alloc (Nat.le_refl _) _
        have H8 := Lib.hid (Blk.new V0 23 #[.int .i64 0, .int .i64 0])
        have hg8 : q + 1 + 1 + 1 < V0.heap.size := HS.out.k4.lt
        have hneg5g8 : g5 ≠ V0.heap.size := Nat.ne_of_lt H5.out.lt
        have hneg6g8 : g6 ≠ V0.heap.size := Nat.ne_of_lt H6.out.lt
        replace HS := Lib.hid (HS.out.call hb)
        replace H5 := Lib.hid (H5.out.below hb H5.out.lt)
        replace H6 := Lib.hid (H6.out.below hb H6.out.lt)
        clear hb
        generalize V0.heap.size = g8 at *
        generalize World.alloc V0 _ = X at *
        refine hK.out _ _ ⟨HS.out.k1, HS.out.k2⟩ (fun hH29 => ?_)
        clear hK K
        try simp only [List.setIfInBounds_toArray, List.set_cons_zero, List.set_cons_succ]
        refine wpAnyH_ready (rs := [0, 9]) (by kernel_rfl) (by simp) ?_
        refine AllReadyH.cons (by simp only [List.getElem?_toArray, List.getElem?_cons_zero]; rfl) (fun K hK => ?_) ?_
        · go_simp
          refine (jig45_any _).mono ?_
          rintro e X ⟨rfl, hb⟩
          replace HS := Lib.hid (HS.out.call hb)
          replace H5 := Lib.hid (H5.out.below hb H5.out.lt)
          replace H6 := Lib.hid (H6.out.below hb H6.out.lt)
          replace H8 := Lib.hid (H8.out.below hb H8.out.lt)
          clear hb
          refine hK.out _ _ ⟨HS.out.k1, HS.out.k2⟩ (fun hH30 => ?_)
          clear hK K
          try simp only [List.setIfInBounds_toArray, List.set_cons_zero]
          refine wpAnyH_ready (rs := [3, 9]) (by kernel_rfl) (by simp) ?_
          refine AllReadyH.cons (by simp only [List.getElem?_toArray, List.getElem?_cons_succ, List.getElem?_cons_zero]; rfl) (fun K hK => ?_) ?_
          · go_simp
            refine (offN2_any _).mono ?_
            rintro e X ⟨rfl, hb⟩
            replace HS := Lib.hid (HS.out.call hb)
            replace H5 := Lib.hid (H5.out.below hb H5.out.lt)
            replace H6 := Lib.hid (H6.out.below hb H6.out.lt)
            replace H8 := Lib.hid (H8.out.below hb H8.out.lt)
            clear hb
            refine hK.out _ _ ⟨HS.out.k1, HS.out.k2⟩ (fun hH31 => ?_)
            clear hK K
            try simp only [List.setIfInBounds_toArray, List.set_cons_zero, List.set_cons_succ]
            refine wpAnyH_take (i := 4 ) (v := ?_) rfl (by kernel_rfl) (by kernel_rfl) (by kernel_rfl) (fun _ _ _ h => h) (Or.inl ⟨by rfl, ?_⟩) (by assumption) ?_; rotate_left; (· (intro w0 hSw; clear hSw; go_simp); first | done | with_reducible rfl); (try simp only [Act.put, List.getElem_toArray, List.getElem_cons_succ, List.getElem_cons_zero, List.setIfInBounds_toArray, List.set_cons_zero, List.set_cons_succ])
            refine wpAnyH_take (i := 5 ) (v := ?_) rfl (by kernel_rfl) (by kernel_rfl) (by kernel_rfl) (fun _ _ _ h => h) (Or.inl ⟨by rfl, ?_⟩) (by assumption) ?_; rotate_left; (· (intro w0 hSw; clear hSw; go_simp); first | done | with_reducible rfl); (try simp only [Act.put, List.getElem_toArray, List.getElem_cons_succ, List.getElem_cons_zero, List.setIfInBounds_toArray, List.set_cons_zero, List.set_cons_succ])
            refine wpAnyH_take (i := 6 ) (v := ?_) rfl (by kernel_rfl) (by kernel_rfl) (by kernel_rfl) (fun _ _ _ h => h) (Or.inl ⟨by rfl, ?_⟩) (by assumption) ?_; rotate_left; (· (intro w0 hSw; clear hSw; go_simp); first | done | with_reducible rfl); (try simp only [Act.put, List.getElem_toArray, List.getElem_cons_succ, List.getElem_cons_zero, List.setIfInBounds_toArray, List.set_cons_zero, List.set_cons_succ])
            refine wpAnyH_take (i := 7 ) (v := ?_) rfl (by kernel_rfl) (by kernel_rfl) (by kernel_rfl) (fun _ _ _ h => h) (Or.inl ⟨by rfl, ?_⟩) (by assumption) ?_; rotate_left; (· (intro w0 hSw; clear hSw; go_simp); first | done | with_reducible rfl); (try simp only [Act.put, List.getElem_toArray, List.getElem_cons_succ, List.getElem_cons_zero, List.setIfInBounds_toArray, List.set_cons_zero, List.set_cons_succ])
            refine wpAnyH_ready (rs := [9]) (by kernel_rfl) (by simp) ?_
            refine AllReadyH.cons (by simp only [List.getElem?_toArray, List.getElem?_cons_succ, List.getElem?_cons_zero]; rfl) (fun K hK => ?_) AllReadyH.nil
            go_simp
            have hb : Below X.heap.size X (X.alloc (.cells #[.int .i64 0, .int .i64 0] 23)) := (Below.refl _ _).alloc (Nat.le_refl _) _
            have H9 := Lib.hid (Blk.new X 23 #[.int .i64 0, .int .i64 0])
            have hg9 : q + 1 + 1 + 1 < X.heap.size := HS.out.k4.lt
            have hneg5g9 : g5 ≠ X.heap.size := Nat.ne_of_lt H5.out.lt
            have hneg6g9 : g6 ≠ X.heap.size := Nat.ne_of_lt H6.out.lt
            have hneg8g9 : g8 ≠ X.heap.size := Nat.ne_of_lt H8.out.lt
            replace HS := Lib.hid (HS.out.call hb)
            replace H5 := Lib.hid (H5.out.below hb H5.out.lt)
            replace H6 := Lib.hid (H6.out.below hb H6.out.lt)
            replace H8 := Lib.hid (H8.out.below hb H8.out.lt)
            clear hb
            generalize X.heap.size = g9 at *
            generalize World.alloc X _ = X at *
            refine hK.out _ _ ⟨HS.out.k1, HS.out.k2⟩ (fun hH32 => ?_)
            clear hK K
            try simp only [List.setIfInBounds_toArray, List.set_cons_zero, List.set_cons_succ]
            refine wpAnyH_ready (rs := [10]) (by kernel_rfl) (by simp) ?_
            refine AllReadyH.cons (by simp only [List.getElem?_toArray, List.getElem?_cons_succ, List.getElem?_cons_zero]; rfl) (fun K hK => ?_) AllReadyH.nil
            rw [if_pos (by rfl)]
            refine wp_store_mid 23 (.tmp 8) (.tmp 41) (by rfl) g8 0 #[.int .i64 (-10), .int .i64 22] (by rfl) (by rfl) (there_mid (o := 0) H8.out (by simp)) (by kernel_rfl) (by simp [Value.oneCell']) ?_
            replace HS := Lib.hid (HS.out.low (set2_low (x := .int .i64 (-10)) (y := .int .i64 22) (g := g8) (by omega)))
            replace H8 := Lib.hid (set2_blk (x := .int .i64 (-10)) (y := .int .i64 22) H8.out)
            replace H5 := Lib.hid (far2 (x := .int .i64 (-10)) (y := .int .i64 22) (show g5 ≠ g8 by omega) H5.out)
            replace H6 := Lib.hid (far2 (x := .int .i64 (-10)) (y := .int .i64 22) (show g6 ≠ g8 by omega) H6.out)
            replace H9 := Lib.hid (far2 (x := .int .i64 (-10)) (y := .int .i64 22) (show g9 ≠ g8 by omega) H9.out)
            refine hK.out _ _ ⟨HS.out.k1, HS.out.k2⟩ (fun hH33 => ?_)
            clear hK K
            try simp only [List.setIfInBounds_toArray, List.set_cons_zero, List.set_cons_succ]
            refine wpAnyH_ready (rs := [11]) (by kernel_rfl) (by simp) ?_
            refine AllReadyH.cons (by simp only [List.getElem?_toArray, List.getElem?_cons_succ, List.getElem?_cons_zero]; rfl) (fun K hK => ?_) AllReadyH.nil
            rw [if_pos (by rfl)]
            refine wp_store_mid 23 (.tmp 9) (.tmp 42) (by rfl) g9 0 #[.int .i64 (-70), .int .i64 40] (by rfl) (by rfl) (there_mid (o := 0) H9.out (by simp)) (by kernel_rfl) (by simp [Value.oneCell']) ?_
            replace HS := Lib.hid (HS.out.low (set2_low (x := .int .i64 (-70)) (y := .int .i64 40) (g := g9) (by omega)))
            replace H9 := Lib.hid (set2_blk (x := .int .i64 (-70)) (y := .int .i64 40) H9.out)
            replace H5 := Lib.hid (far2 (x := .int .i64 (-70)) (y := .int .i64 40) (show g5 ≠ g9 by omega) H5.out)
            replace H6 := Lib.hid (far2 (x := .int .i64 (-70)) (y := .int .i64 40) (show g6 ≠ g9 by omega) H6.out)
            replace H8 := Lib.hid (far2 (x := .int .i64 (-70)) (y := .int .i64 40) (show g8 ≠ g9 by omega) H8.out)
            refine hK.out _ _ ⟨HS.out.k1, HS.out.k2⟩ (fun hH34 => ?_)
            clear hK K
            try simp only [List.setIfInBounds_toArray, List.set_cons_zero, List.set_cons_succ]
            refine wpAnyH_take (i := 12 ) (v := ?_) rfl (by kernel_rfl) (by kernel_rfl) (by kernel_rfl) (fun _ _ _ h => h) (Or.inl ⟨by rfl, ?_⟩) (by assumption) ?_; rotate_left; (· (intro w0 hSw; clear hSw; go_simp); first | done | with_reducible rfl); (try simp only [Act.put, List.getElem_toArray, List.getElem_cons_succ, List.getElem_cons_zero, List.setIfInBounds_toArray, List.set_cons_zero, List.set_cons_succ])
            refine wpAnyH_done (by kernel_rfl) ?_ _
            go_wp2_with fail
            go_meet
            exact ⟨g8, g9, rfl, rfl, rfl, HS, H5, H6, H8, H9⟩
          refine AllReadyH.cons (by simp only [List.getElem?_toArray, List.getElem?_cons_succ, List.getElem?_cons_zero]; rfl) (fun K hK => ?_) ?_
          · go_simp
            have hb : Below X.heap.size X (X.alloc (.cells #[.int .i64 0, .int .i64 0] 23)) := (Below.refl _ _).alloc (Nat.le_refl _) _
            have H9 := Lib.hid (Blk.new X 23 #[.int .i64 0, .int .i64 0])
            have hg9 : q + 1 + 1 + 1 < X.heap.size := HS.out.k4.lt
            have hneg5g9 : g5 ≠ X.heap.size := Nat.ne_of_lt H5.out.lt
            have hneg6g9 : g6 ≠ X.heap.size := Nat.ne_of_lt H6.out.lt
            have hneg8g9 : g8 ≠ X.heap.size := Nat.ne_of_lt H8.out.lt
            replace HS := Lib.hid (HS.out.call hb)
            replace H5 := Lib.hid (H5.out.below hb H5.out.lt)
            replace H6 := Lib.hid (H6.out.below hb H6.out.lt)
            replace H8 := Lib.hid (H8.out.below hb H8.out.lt)
            clear hb
            generalize X.heap.size = g9 at *
            generalize World.alloc X _ = X at *
            refine hK.out _ _ ⟨HS.out.k1, HS.out.k2⟩ (fun hH35 => ?_)
            clear hK K
            try simp only [List.setIfInBounds_toArray, List.set_cons_zero, List.set_cons_succ]
            refine wpAnyH_ready (rs := [3]) (by kernel_rfl) (by simp) ?_
            refine AllReadyH.cons (by simp only [List.getElem?_toArray, List.getElem?_cons_succ, List.getElem?_cons_zero]; rfl) (fun K hK => ?_) AllReadyH.nil
            go_simp
            refine (offN2_any _).mono ?_
            rintro e X ⟨rfl, hb⟩
            replace HS := Lib.hid (HS.out.call hb)
            replace H5 := Lib.hid (H5.out.below hb H5.out.lt)
            replace H6 := Lib.hid (H6.out.below hb H6.out.lt)
            replace H8 := Lib.hid (H8.out.below hb H8.out.lt)
            replace H9 := Lib.hid (H9.out.below hb H9.out.lt)
            clear hb
            refine hK.out _ _ ⟨HS.out.k1, HS.out.k2⟩ (fun hH36 => ?_)
            clear hK K
            try simp only [List.setIfInBounds_toArray, List.set_cons_zero, List.set_cons_succ]
            refine wpAnyH_take (i := 4 ) (v := ?_) rfl (by kernel_rfl) (by kernel_rfl) (by kernel_rfl) (fun _ _ _ h => h) (Or.inl ⟨by rfl, ?_⟩) (by assumption) ?_; rotate_left; (· (intro w0 hSw; clear hSw; go_simp); first | done | with_reducible rfl); (try simp only [Act.put, List.getElem_toArray, List.getElem_cons_succ, List.getElem_cons_zero, List.setIfInBounds_toArray, List.set_cons_zero, List.set_cons_succ])
            refine wpAnyH_take (i := 5 ) (v := ?_) rfl (by kernel_rfl) (by kernel_rfl) (by kernel_rfl) (fun _ _ _ h => h) (Or.inl ⟨by rfl, ?_⟩) (by assumption) ?_; rotate_left; (· (intro w0 hSw; clear hSw; go_simp); first | done | with_reducible rfl); (try simp only [Act.put, List.getElem_toArray, List.getElem_cons_succ, List.getElem_cons_zero, List.setIfInBounds_toArray, List.set_cons_zero, List.set_cons_succ])
            refine wpAnyH_take (i := 6 ) (v := ?_) rfl (by kernel_rfl) (by kernel_rfl) (by kernel_rfl) (fun _ _ _ h => h) (Or.inl ⟨by rfl, ?_⟩) (by assumption) ?_; rotate_left; (· (intro w0 hSw; clear hSw; go_simp); first | done | with_reducible rfl); (try simp only [Act.put, List.getElem_toArray, List.getElem_cons_succ, List.getElem_cons_zero, List.setIfInBounds_toArray, List.set_cons_zero, List.set_cons_succ])
            refine wpAnyH_take (i := 7 ) (v := ?_) rfl (by kernel_rfl) (by kernel_rfl) (by kernel_rfl) (fun _ _ _ h => h) (Or.inl ⟨by rfl, ?_⟩) (by assumption) ?_; rotate_left; (· (intro w0 hSw; clear hSw; go_simp); first | done | with_reducible rfl); (try simp only [Act.put, List.getElem_toArray, List.getElem_cons_succ, List.getElem_cons_zero, List.setIfInBounds_toArray, List.set_cons_zero, List.set_cons_succ])
            refine wpAnyH_ready (rs := [10]) (by kernel_rfl) (by simp) ?_
            refine AllReadyH.cons (by simp only [List.getElem?_toArray, List.getElem?_cons_succ, List.getElem?_cons_zero]; rfl) (fun K hK => ?_) AllReadyH.nil
            rw [if_pos (by rfl)]
            refine wp_store_mid 23 (.tmp 8) (.tmp 41) (by rfl) g8 0 #[.int .i64 (-10), .int .i64 22] (by rfl) (by rfl) (there_mid (o := 0) H8.out (by simp)) (by kernel_rfl) (by simp [Value.oneCell']) ?_
            replace HS := Lib.hid (HS.out.low (set2_low (x := .int .i64 (-10)) (y := .int .i64 22) (g := g8) (by omega)))
            replace H8 := Lib.hid (set2_blk (x := .int .i64 (-10)) (y := .int .i64 22) H8.out)
            replace H5 := Lib.hid (far2 (x := .int .i64 (-10)) (y := .int .i64 22) (show g5 ≠ g8 by omega) H5.out)
            replace H6 := Lib.hid (far2 (x := .int .i64 (-10)) (y := .int .i64 22) (show g6 ≠ g8 by omega) H6.out)
            replace H9 := Lib.hid (far2 (x := .int .i64 (-10)) (y := .int .i64 22) (show g9 ≠ g8 by omega) H9.out)
            refine hK.out _ _ ⟨HS.out.k1, HS.out.k2⟩ (fun hH37 => ?_)
            clear hK K
            try simp only [List.setIfInBounds_toArray, List.set_cons_zero, List.set_cons_succ]
            refine wpAnyH_ready (rs := [11]) (by kernel_rfl) (by simp) ?_
            refine AllReadyH.cons (by simp only [List.getElem?_toArray, List.getElem?_cons_succ, List.getElem?_cons_zero]; rfl) (fun K hK => ?_) AllReadyH.nil
            rw [if_pos (by rfl)]
            refine wp_store_mid 23 (.tmp 9) (.tmp 42) (by rfl) g9 0 #[.int .i64 (-70), .int .i64 40] (by rfl) (by rfl) (there_mid (o := 0) H9.out (by simp)) (by kernel_rfl) (by simp [Value.oneCell']) ?_
            replace HS := Lib.hid (HS.out.low (set2_low (x := .int .i64 (-70)) (y := .int .i64 40) (g := g9) (by omega)))
            replace H9 := Lib.hid (set2_blk (x := .int .i64 (-70)) (y := .int .i64 40) H9.out)
            replace H5 := Lib.hid (far2 (x := .int .i64 (-70)) (y := .int .i64 40) (show g5 ≠ g9 by omega) H5.out)
            replace H6 := Lib.hid (far2 (x := .int .i64 (-70)) (y := .int .i64 40) (show g6 ≠ g9 by omega) H6.out)
            replace H8 := Lib.hid (far2 (x := .int .i64 (-70)) (y := .int .i64 40) (show g8 ≠ g9 by omega) H8.out)
            refine hK.out _ _ ⟨HS.out.k1, HS.out.k2⟩ (fun hH38 => ?_)
            clear hK K
            try simp only [List.setIfInBounds_toArray, List.set_cons_zero, List.set_cons_succ]
            refine wpAnyH_take (i := 12 ) (v := ?_) rfl (by kernel_rfl) (by kernel_rfl) (by kernel_rfl) (fun _ _ _ h => h) (Or.inl ⟨by rfl, ?_⟩) (by assumption) ?_; rotate_left; (· (intro w0 hSw; clear hSw; go_simp); first | done | with_reducible rfl); (try simp only [Act.put, List.getElem_toArray, List.getElem_cons_succ, List.getElem_cons_zero, List.setIfInBounds_toArray, List.set_cons_zero, List.set_cons_succ])
            refine wpAnyH_done (by kernel_rfl) ?_ _
            go_wp2_with fail
            go_meet
            exact ⟨g8, g9, rfl, rfl, rfl, HS, H5, H6, H8, H9⟩
          exact AllReadyH.nil
        refine AllReadyH.cons (by simp only [List.getElem?_toArray, List.getElem?_cons_succ, List.getElem?_cons_zero]; rfl) (fun K hK => ?_) ?_
        · go_simp
          have hb : Below X.heap.size X (X.alloc (.cells #[.int .i64 0, .int .i64 0] 23)) := (Below.refl _ _).alloc (Nat.le_refl _) _
          have H9 := Lib.hid (Blk.new X 23 #[.int .i64 0, .int .i64 0])
          have hg9 : q + 1 + 1 + 1 < X.heap.size := HS.out.k4.lt
          have hneg5g9 : g5 ≠ X.heap.size := Nat.ne_of_lt H5.out.lt
          have hneg6g9 : g6 ≠ X.heap.size := Nat.ne_of_lt H6.out.lt
          have hneg8g9 : g8 ≠ X.heap.size := Nat.ne_of_lt H8.out.lt
          replace HS := Lib.hid (HS.out.call hb)
          replace H5 := Lib.hid (H5.out.below hb H5.out.lt)
          replace H6 := Lib.hid (H6.out.below hb H6.out.lt)
          replace H8 := Lib.hid (H8.out.below hb H8.out.lt)
          clear hb
          generalize X.heap.size = g9 at *
          generalize World.alloc X _ = X at *
          refine hK.out _ _ ⟨HS.out.k1, HS.out.k2⟩ (fun hH39 => ?_)
          clear hK K
          try simp only [List.setIfInBounds_toArray, List.set_cons_zero, List.set_cons_succ]
          refine wpAnyH_ready (rs := [0]) (by kernel_rfl) (by simp) ?_
          refine AllReadyH.cons (by simp only [List.getElem?_toArray, List.getElem?_cons_zero]; rfl) (fun K hK => ?_) AllReadyH.nil
          go_simp
          refine (jig45_any _).mono ?_
          rintro e X ⟨rfl, hb⟩
          replace HS := Lib.hid (HS.out.call hb)
          replace H5 := Lib.hid (H5.out.below hb H5.out.lt)
          replace H6 := Lib.hid (H6.out.below hb H6.out.lt)
          replace H8 := Lib.hid (H8.out.below hb H8.out.lt)
          replace H9 := Lib.hid (H9.out.below hb H9.out.lt)
          clear hb
          refine hK.out _ _ ⟨HS.out.k1, HS.out.k2⟩ (fun hH40 => ?_)
          clear hK K
          try simp only [List.setIfInBounds_toArray, List.set_cons_zero]
          refine wpAnyH_ready (rs := [3]) (by kernel_rfl) (by simp) ?_
          refine AllReadyH.cons (by simp only [List.getElem?_toArray, List.getElem?_cons_succ, List.getElem?_cons_zero]; rfl) (fun K hK => ?_) AllReadyH.nil
          go_simp
          refine (offN2_any _).mono ?_
          rintro e X ⟨rfl, hb⟩
          replace HS := Lib.hid (HS.out.call hb)
          replace H5 := Lib.hid (H5.out.below hb H5.out.lt)
          replace H6 := Lib.hid (H6.out.below hb H6.out.lt)
          replace H8 := Lib.hid (H8.out.below hb H8.out.lt)
          replace H9 := Lib.hid (H9.out.below hb H9.out.lt)
          clear hb
          refine hK.out _ _ ⟨HS.out.k1, HS.out.k2⟩ (fun hH41 => ?_)
          clear hK K
          try simp only [List.setIfInBounds_toArray, List.set_cons_zero, List.set_cons_succ]
          refine wpAnyH_take (i := 4 ) (v := ?_) rfl (by kernel_rfl) (by kernel_rfl) (by kernel_rfl) (fun _ _ _ h => h) (Or.inl ⟨by rfl, ?_⟩) (by assumption) ?_; rotate_left; (· (intro w0 hSw; clear hSw; go_simp); first | done | with_reducible rfl); (try simp only [Act.put, List.getElem_toArray, List.getElem_cons_succ, List.getElem_cons_zero, List.setIfInBounds_toArray, List.set_cons_zero, List.set_cons_succ])
          refine wpAnyH_take (i := 5 ) (v := ?_) rfl (by kernel_rfl) (by kernel_rfl) (by kernel_rfl) (fun _ _ _ h => h) (Or.inl ⟨by rfl, ?_⟩) (by assumption) ?_; rotate_left; (· (intro w0 hSw; clear hSw; go_simp); first | done | with_reducible rfl); (try simp only [Act.put, List.getElem_toArray, List.getElem_cons_succ, List.getElem_cons_zero, List.setIfInBounds_toArray, List.set_cons_zero, List.set_cons_succ])
          refine wpAnyH_take (i := 6 ) (v := ?_) rfl (by kernel_rfl) (by kernel_rfl) (by kernel_rfl) (fun _ _ _ h => h) (Or.inl ⟨by rfl, ?_⟩) (by assumption) ?_; rotate_left; (· (intro w0 hSw; clear hSw; go_simp); first | done | with_reducible rfl); (try simp only [Act.put, List.getElem_toArray, List.getElem_cons_succ, List.getElem_cons_zero, List.setIfInBounds_toArray, List.set_cons_zero, List.set_cons_succ])
          refine wpAnyH_take (i := 7 ) (v := ?_) rfl (by kernel_rfl) (by kernel_rfl) (by kernel_rfl) (fun _ _ _ h => h) (Or.inl ⟨by rfl, ?_⟩) (by assumption) ?_; rotate_left; (· (intro w0 hSw; clear hSw; go_simp); first | done | with_reducible rfl); (try simp only [Act.put, List.getElem_toArray, List.getElem_cons_succ, List.getElem_cons_zero, List.setIfInBounds_toArray, List.set_cons_zero, List.set_cons_succ])
          refine wpAnyH_ready (rs := [10]) (by kernel_rfl) (by simp) ?_
          refine AllReadyH.cons (by simp only [List.getElem?_toArray, List.getElem?_cons_succ, List.getElem?_cons_zero]; rfl) (fun K hK => ?_) AllReadyH.nil
          rw [if_pos (by rfl)]
          refine wp_store_mid 23 (.tmp 8) (.tmp 41) (by rfl) g8 0 #[.int .i64 (-10), .int .i64 22] (by rfl) (by rfl) (there_mid (o := 0) H8.out (by simp)) (by kernel_rfl) (by simp [Value.oneCell']) ?_
          replace HS := Lib.hid (HS.out.low (set2_low (x := .int .i64 (-10)) (y := .int .i64 22) (g := g8) (by omega)))
          replace H8 := Lib.hid (set2_blk (x := .int .i64 (-10)) (y := .int .i64 22) H8.out)
          replace H5 := Lib.hid (far2 (x := .int .i64 (-10)) (y := .int .i64 22) (show g5 ≠ g8 by omega) H5.out)
          replace H6 := Lib.hid (far2 (x := .int .i64 (-10)) (y := .int .i64 22) (show g6 ≠ g8 by omega) H6.out)
          replace H9 := Lib.hid (far2 (x := .int .i64 (-10)) (y := .int .i64 22) (show g9 ≠ g8 by omega) H9.out)
          refine hK.out _ _ ⟨HS.out.k1, HS.out.k2⟩ (fun hH42 => ?_)
          clear hK K
          try simp only [List.setIfInBounds_toArray, List.set_cons_zero, List.set_cons_succ]
          refine wpAnyH_ready (rs := [11]) (by kernel_rfl) (by simp) ?_
          refine AllReadyH.cons (by simp only [List.getElem?_toArray, List.getElem?_cons_succ, List.getElem?_cons_zero]; rfl) (fun K hK => ?_) AllReadyH.nil
          rw [if_pos (by rfl)]
          refine wp_store_mid 23 (.tmp 9) (.tmp 42) (by rfl) g9 0 #[.int .i64 (-70), .int .i64 40] (by rfl) (by rfl) (there_mid (o := 0) H9.out (by simp)) (by kernel_rfl) (by simp [Value.oneCell']) ?_
          replace HS := Lib.hid (HS.out.low (set2_low (x := .int .i64 (-70)) (y := .int .i64 40) (g := g9) (by omega)))
          replace H9 := Lib.hid (set2_blk (x := .int .i64 (-70)) (y := .int .i64 40) H9.out)
          replace H5 := Lib.hid (far2 (x := .int .i64 (-70)) (y := .int .i64 40) (show g5 ≠ g9 by omega) H5.out)
          replace H6 := Lib.hid (far2 (x := .int .i64 (-70)) (y := .int .i64 40) (show g6 ≠ g9 by omega) H6.out)
          replace H8 := Lib.hid (far2 (x := .int .i64 (-70)) (y := .int .i64 40) (show g8 ≠ g9 by omega) H8.out)
          refine hK.out _ _ ⟨HS.out.k1, HS.out.k2⟩ (fun hH43 => ?_)
          clear hK K
          try simp only [List.setIfInBounds_toArray, List.set_cons_zero, List.set_cons_succ]
          refine wpAnyH_take (i := 12 ) (v := ?_) rfl (by kernel_rfl) (by kernel_rfl) (by kernel_rfl) (fun _ _ _ h => h) (Or.inl ⟨by rfl, ?_⟩) (by assumption) ?_; rotate_left; (· (intro w0 hSw; clear hSw; go_simp); first | done | with_reducible rfl); (try simp only [Act.put, List.getElem_toArray, List.getElem_cons_succ, List.getElem_cons_zero, List.setIfInBounds_toArray, List.set_cons_zero, List.set_cons_succ])
          refine wpAnyH_done (by kernel_rfl) ?_ _
          go_wp2_with fail
          go_meet
          exact ⟨g8, g9, rfl, rfl, rfl, HS, H5, H6, H8, H9⟩
        exact AllReadyH.nil
      refine AllReadyH.cons (by simp only [List.getElem?_toArray, List.getElem?_cons_succ, List.getElem?_cons_zero]; rfl) (fun K hK => ?_) ?_
      · go_simp
        have hb : Below V0.heap.size V0 (V0.alloc (.cells #[.int .i64 0, .int .i64 0] 23)) := (Below.refl _ _).alloc (Nat.le_refl _) _
        have H9 := Lib.hid (Blk.new V0 23 #[.int .i64 0, .int .i64 0])
        have hg9 : q + 1 + 1 + 1 < V0.heap.size := HS.out.k4.lt
        have hneg5g9 : g5 ≠ V0.heap.size := Nat.ne_of_lt H5.out.lt
        have hneg6g9 : g6 ≠ V0.heap.size := Nat.ne_of_lt H6.out.lt
        replace HS := Lib.hid (HS.out.call hb)
        replace H5 := Lib.hid (H5.out.below hb H5.out.lt)
        replace H6 := Lib.hid (H6.out.below hb H6.out.lt)
        clear hb
        generalize V0.heap.size = g9 at *
        generalize World.alloc V0 _ = X at *
        refine hK.out _ _ ⟨HS.out.k1, HS.out.k2⟩ (fun hH44 => ?_)
        clear hK K
        try simp only [List.setIfInBounds_toArray, List.set_cons_zero, List.set_cons_succ]
        refine wpAnyH_ready (rs := [0, 8]) (by kernel_rfl) (by simp) ?_
        refine AllReadyH.cons (by simp only [List.getElem?_toArray, List.getElem?_cons_zero]; rfl) (fun K hK => ?_) ?_
        · go_simp
          refine (jig45_any _).mono ?_
          rintro e X ⟨rfl, hb⟩
          replace HS := Lib.hid (HS.out.call hb)
          replace H5 := Lib.hid (H5.out.below hb H5.out.lt)
          replace H6 := Lib.hid (H6.out.below hb H6.out.lt)
          replace H9 := Lib.hid (H9.out.below hb H9.out.lt)
          clear hb
          refine hK.out _ _ ⟨HS.out.k1, HS.out.k2⟩ (fun hH45 => ?_)
          clear hK K
          try simp only [List.setIfInBounds_toArray, List.set_cons_zero]
          refine wpAnyH_ready (rs := [3, 8]) (by kernel_rfl) (by simp) ?_
          refine AllReadyH.cons (by simp only [List.getElem?_toArray, List.getElem?_cons_succ, List.getElem?_cons_zero]; rfl) (fun K hK => ?_) ?_
          · go_simp
            refine (offN2_any _).mono ?_
            rintro e X ⟨rfl, hb⟩
            replace HS := Lib.hid (HS.out.call hb)
            replace H5 := Lib.hid (H5.out.below hb H5.out.lt)
            replace H6 := Lib.hid (H6.out.below hb H6.out.lt)
            replace H9 := Lib.hid (H9.out.below hb H9.out.lt)
            clear hb
            refine hK.out _ _ ⟨HS.out.k1, HS.out.k2⟩ (fun hH46 => ?_)
            clear hK K
            try simp only [List.setIfInBounds_toArray, List.set_cons_zero, List.set_cons_succ]
            refine wpAnyH_take (i := 4 ) (v := ?_) rfl (by kernel_rfl) (by kernel_rfl) (by kernel_rfl) (fun _ _ _ h => h) (Or.inl ⟨by rfl, ?_⟩) (by assumption) ?_; rotate_left; (· (intro w0 hSw; clear hSw; go_simp); first | done | with_reducible rfl); (try simp only [Act.put, List.getElem_toArray, List.getElem_cons_succ, List.getElem_cons_zero, List.setIfInBounds_toArray, List.set_cons_zero, List.set_cons_succ])
            refine wpAnyH_take (i := 5 ) (v := ?_) rfl (by kernel_rfl) (by kernel_rfl) (by kernel_rfl) (fun _ _ _ h => h) (Or.inl ⟨by rfl, ?_⟩) (by assumption) ?_; rotate_left; (· (intro w0 hSw; clear hSw; go_simp); first | done | with_reducible rfl); (try simp only [Act.put, List.getElem_toArray, List.getElem_cons_succ, List.getElem_cons_zero, List.setIfInBounds_toArray, List.set_cons_zero, List.set_cons_succ])
            refine wpAnyH_take (i := 6 ) (v := ?_) rfl (by kernel_rfl) (by kernel_rfl) (by kernel_rfl) (fun _ _ _ h => h) (Or.inl ⟨by rfl, ?_⟩) (by assumption) ?_; rotate_left; (· (intro w0 hSw; clear hSw; go_simp); first | done | with_reducible rfl); (try simp only [Act.put, List.getElem_toArray, List.getElem_cons_succ, List.getElem_cons_zero, List.setIfInBounds_toArray, List.set_cons_zero, List.set_cons_succ])
            refine wpAnyH_take (i := 7 ) (v := ?_) rfl (by kernel_rfl) (by kernel_rfl) (by kernel_rfl) (fun _ _ _ h => h) (Or.inl ⟨by rfl, ?_⟩) (by assumption) ?_; rotate_left; (· (intro w0 hSw; clear hSw; go_simp); first | done | with_reducible rfl); (try simp only [Act.put, List.getElem_toArray, List.getElem_cons_succ, List.getElem_cons_zero, List.setIfInBounds_toArray, List.set_cons_zero, List.set_cons_succ])
            refine wpAnyH_ready (rs := [8]) (by kernel_rfl) (by simp) ?_
            refine AllReadyH.cons (by simp only [List.getElem?_toArray, List.getElem?_cons_succ, List.getElem?_cons_zero]; rfl) (fun K hK => ?_) AllReadyH.nil
            go_simp
            have hb : Below X.heap.size X (X.alloc (.cells #[.int .i64 0, .int .i64 0] 23)) := (Below.refl _ _).alloc (Nat.le_refl _) _
            have H8 := Lib.hid (Blk.new X 23 #[.int .i64 0, .int .i64 0])
            have hg8 : q + 1 + 1 + 1 < X.heap.size := HS.out.k4.lt
            have hneg5g8 : g5 ≠ X.heap.size := Nat.ne_of_lt H5.out.lt
            have hneg6g8 : g6 ≠ X.heap.size := Nat.ne_of_lt H6.out.lt
            have hneg9g8 : g9 ≠ X.heap.size := Nat.ne_of_lt H9.out.lt
            replace HS := Lib.hid (HS.out.call hb)
            replace H5 := Lib.hid (H5.out.below hb H5.out.lt)
            replace H6 := Lib.hid (H6.out.below hb H6.out.lt)
            replace H9 := Lib.hid (H9.out.below hb H9.out.lt)
            clear hb
            generalize X.heap.size = g8 at *
            generalize World.alloc X _ = X at *
            refine hK.out _ _ ⟨HS.out.k1, HS.out.k2⟩ (fun hH47 => ?_)
            clear hK K
            try simp only [List.setIfInBounds_toArray, List.set_cons_zero, List.set_cons_succ]
            refine wpAnyH_ready (rs := [10]) (by kernel_rfl) (by simp) ?_
            refine AllReadyH.cons (by simp only [List.getElem?_toArray, List.getElem?_cons_succ, List.getElem?_cons_zero]; rfl) (fun K hK => ?_) AllReadyH.nil
            rw [if_pos (by rfl)]
            refine wp_store_mid 23 (.tmp 8) (.tmp 41) (by rfl) g8 0 #[.int .i64 (-10), .int .i64 22] (by rfl) (by rfl) (there_mid (o := 0) H8.out (by simp)) (by kernel_rfl) (by simp [Value.oneCell']) ?_
            replace HS := Lib.hid (HS.out.low (set2_low (x := .int .i64 (-10)) (y := .int .i64 22) (g := g8) (by omega)))
            replace H8 := Lib.hid (set2_blk (x := .int .i64 (-10)) (y := .int .i64 22) H8.out)
            replace H5 := Lib.hid (far2 (x := .int .i64 (-10)) (y := .int .i64 22) (show g5 ≠ g8 by omega) H5.out)
            replace H6 := Lib.hid (far2 (x := .int .i64 (-10)) (y := .int .i64 22) (show g6 ≠ g8 by omega) H6.out)
            replace H9 := Lib.hid (far2 (x := .int .i64 (-10)) (y := .int .i64 22) (show g9 ≠ g8 by omega) H9.out)
            refine hK.out _ _ ⟨HS.out.k1, HS.out.k2⟩ (fun hH48 => ?_)
            clear hK K
            try simp only [List.setIfInBounds_toArray, List.set_cons_zero, List.set_cons_succ]
            refine wpAnyH_ready (rs := [11]) (by kernel_rfl) (by simp) ?_
            refine AllReadyH.cons (by simp only [List.getElem?_toArray, List.getElem?_cons_succ, List.getElem?_cons_zero]; rfl) (fun K hK => ?_) AllReadyH.nil
            rw [if_pos (by rfl)]
            refine wp_store_mid 23 (.tmp 9) (.tmp 42) (by rfl) g9 0 #[.int .i64 (-70), .int .i64 40] (by rfl) (by rfl) (there_mid (o := 0) H9.out (by simp)) (by kernel_rfl) (by simp [Value.oneCell']) ?_
            replace HS := Lib.hid (HS.out.low (set2_low (x := .int .i64 (-70)) (y := .int .i64 40) (g := g9) (by omega)))
            replace H9 := Lib.hid (set2_blk (x := .int .i64 (-70)) (y := .int .i64 40) H9.out)
            replace H5 := Lib.hid (far2 (x := .int .i64 (-70)) (y := .int .i64 40) (show g5 ≠ g9 by omega) H5.out)
            replace H6 := Lib.hid (far2 (x := .int .i64 (-70)) (y := .int .i64 40) (show g6 ≠ g9 by omega) H6.out)
            replace H8 := Lib.hid (far2 (x := .int .i64 (-70)) (y := .int .i64 40) (show g8 ≠ g9 by omega) H8.out)
            refine hK.out _ _ ⟨HS.out.k1, HS.out.k2⟩ (fun hH49 => ?_)
            clear hK K
            try simp only [List.setIfInBounds_toArray, List.set_cons_zero, List.set_cons_succ]
            refine wpAnyH_take (i := 12 ) (v := ?_) rfl (by kernel_rfl) (by kernel_rfl) (by kernel_rfl) (fun _ _ _ h => h) (Or.inl ⟨by rfl, ?_⟩) (by assumption) ?_; rotate_left; (· (intro w0 hSw; clear hSw; go_simp); first | done | with_reducible rfl); (try simp only [Act.put, List.getElem_toArray, List.getElem_cons_succ, List.getElem_cons_zero, List.setIfInBounds_toArray, List.set_cons_zero, List.set_cons_succ])
            refine wpAnyH_done (by kernel_rfl) ?_ _
            go_wp2_with fail
            go_meet
            exact ⟨g8, g9, rfl, rfl, rfl, HS, H5, H6, H8, H9⟩
          refine AllReadyH.cons (by simp only [List.getElem?_toArray, List.getElem?_cons_succ, List.getElem?_cons_zero]; rfl) (fun K hK => ?_) ?_
          · go_simp
            have hb : Below X.heap.size X (X.alloc (.cells #[.int .i64 0, .int .i64 0] 23)) := (Below.refl _ _).alloc (Nat.le_refl _) _
            have H8 := Lib.hid (Blk.new X 23 #[.int .i64 0, .int .i64 0])
            have hg8 : q + 1 + 1 + 1 < X.heap.size := HS.out.k4.lt
            have hneg5g8 : g5 ≠ X.heap.size := Nat.ne_of_lt H5.out.lt
            have hneg6g8 : g6 ≠ X.heap.size := Nat.ne_of_lt H6.out.lt
            have hneg9g8 : g9 ≠ X.heap.size := Nat.ne_of_lt H9.out.lt
            replace HS := Lib.hid (HS.out.call hb)
            replace H5 := Lib.hid (H5.out.below hb H5.out.lt)
            replace H6 := Lib.hid (H6.out.below hb H6.out.lt)
            replace H9 := Lib.hid (H9.out.below hb H9.out.lt)
            clear hb
            generalize X.heap.size = g8 at *
            generalize World.alloc X _ = X at *
            refine hK.out _ _ ⟨HS.out.k1, HS.out.k2⟩ (fun hH50 => ?_)
            clear hK K
            try simp only [List.setIfInBounds_toArray, List.set_cons_zero, List.set_cons_succ]
            refine wpAnyH_ready (rs := [3]) (by kernel_rfl) (by simp) ?_
            refine AllReadyH.cons (by simp only [List.getElem?_toArray, List.getElem?_cons_succ, List.getElem?_cons_zero]; rfl) (fun K hK => ?_) AllReadyH.nil
            go_simp
            refine (offN2_any _).mono ?_
            rintro e X ⟨rfl, hb⟩
            replace HS := Lib.hid (HS.out.call hb)
            replace H5 := Lib.hid (H5.out.below hb H5.out.lt)
            replace H6 := Lib.hid (H6.out.below hb H6.out.lt)
            replace H8 := Lib.hid (H8.out.below hb H8.out.lt)
            replace H9 := Lib.hid (H9.out.below hb H9.out.lt)
            clear hb
            refine hK.out _ _ ⟨HS.out.k1, HS.out.k2⟩ (fun hH51 => ?_)
            clear hK K
            try simp only [List.setIfInBounds_toArray, List.set_cons_zero, List.set_cons_succ]
            refine wpAnyH_take (i := 4 ) (v := ?_) rfl (by kernel_rfl) (by kernel_rfl) (by kernel_rfl) (fun _ _ _ h => h) (Or.inl ⟨by rfl, ?_⟩) (by assumption) ?_; rotate_left; (· (intro w0 hSw; clear hSw; go_simp); first | done | with_reducible rfl); (try simp only [Act.put, List.getElem_toArray, List.getElem_cons_succ, List.getElem_cons_zero, List.setIfInBounds_toArray, List.set_cons_zero, List.set_cons_succ])
            refine wpAnyH_take (i := 5 ) (v := ?_) rfl (by kernel_rfl) (by kernel_rfl) (by kernel_rfl) (fun _ _ _ h => h) (Or.inl ⟨by rfl, ?_⟩) (by assumption) ?_; rotate_left; (· (intro w0 hSw; clear hSw; go_simp); first | done | with_reducible rfl); (try simp only [Act.put, List.getElem_toArray, List.getElem_cons_succ, List.getElem_cons_zero, List.setIfInBounds_toArray, List.set_cons_zero, List.set_cons_succ])
            refine wpAnyH_take (i := 6 ) (v := ?_) rfl (by kernel_rfl) (by kernel_rfl) (by kernel_rfl) (fun _ _ _ h => h) (Or.inl ⟨by rfl, ?_⟩) (by assumption) ?_; rotate_left; (· (intro w0 hSw; clear hSw; go_simp); first | done | with_reducible rfl); (try simp only [Act.put, List.getElem_toArray, List.getElem_cons_succ, List.getElem_cons_zero, List.setIfInBounds_toArray, List.set_cons_zero, List.set_cons_succ])
            refine wpAnyH_take (i := 7 ) (v := ?_) rfl (by kernel_rfl) (by kernel_rfl) (by kernel_rfl) (fun _ _ _ h => h) (Or.inl ⟨by rfl, ?_⟩) (by assumption) ?_; rotate_left; (· (intro w0 hSw; clear hSw; go_simp); first | done | with_reducible rfl); (try simp only [Act.put, List.getElem_toArray, List.getElem_cons_succ, List.getElem_cons_zero, List.setIfInBounds_toArray, List.set_cons_zero, List.set_cons_succ])
            refine wpAnyH_ready (rs := [10]) (by kernel_rfl) (by simp) ?_
            refine AllReadyH.cons (by simp only [List.getElem?_toArray, List.getElem?_cons_succ, List.getElem?_cons_zero]; rfl) (fun K hK => ?_) AllReadyH.nil
            rw [if_pos (by rfl)]
            refine wp_store_mid 23 (.tmp 8) (.tmp 41) (by rfl) g8 0 #[.int .i64 (-10), .int .i64 22] (by rfl) (by rfl) (there_mid (o := 0) H8.out (by simp)) (by kernel_rfl) (by simp [Value.oneCell']) ?_
            replace HS := Lib.hid (HS.out.low (set2_low (x := .int .i64 (-10)) (y := .int .i64 22) (g := g8) (by omega)))
            replace H8 := Lib.hid (set2_blk (x := .int .i64 (-10)) (y := .int .i64 22) H8.out)
            replace H5 := Lib.hid (far2 (x := .int .i64 (-10)) (y := .int .i64 22) (show g5 ≠ g8 by omega) H5.out)
            replace H6 := Lib.hid (far2 (x := .int .i64 (-10)) (y := .int .i64 22) (show g6 ≠ g8 by omega) H6.out)
            replace H9 := Lib.hid (far2 (x := .int .i64 (-10)) (y := .int .i64 22) (show g9 ≠ g8 by omega) H9.out)
            refine hK.out _ _ ⟨HS.out.k1, HS.out.k2⟩ (fun hH52 => ?_)
            clear hK K
            try simp only [List.setIfInBounds_toArray, List.set_cons_zero, List.set_cons_succ]
            refine wpAnyH_ready (rs := [11]) (by kernel_rfl) (by simp) ?_
            refine AllReadyH.cons (by simp only [List.getElem?_toArray, List.getElem?_cons_succ, List.getElem?_cons_zero]; rfl) (fun K hK => ?_) AllReadyH.nil
            rw [if_pos (by rfl)]
            refine wp_store_mid 23 (.tmp 9) (.tmp 42) (by rfl) g9 0 #[.int .i64 (-70), .int .i64 40] (by rfl) (by rfl) (there_mid (o := 0) H9.out (by simp)) (by kernel_rfl) (by simp [Value.oneCell']) ?_
            replace HS := Lib.hid (HS.out.low (set2_low (x := .int .i64 (-70)) (y := .int .i64 40) (g := g9) (by omega)))
            replace H9 := Lib.hid (set2_blk (x := .int .i64 (-70)) (y := .int .i64 40) H9.out)
            replace H5 := Lib.hid (far2 (x := .int .i64 (-70)) (y := .int .i64 40) (show g5 ≠ g9 by omega) H5.out)
            replace H6 := Lib.hid (far2 (x := .int .i64 (-70)) (y := .int .i64 40) (show g6 ≠ g9 by omega) H6.out)
            replace H8 := Lib.hid (far2 (x := .int .i64 (-70)) (y := .int .i64 40) (show g8 ≠ g9 by omega) H8.out)
            refine hK.out _ _ ⟨HS.out.k1, HS.out.k2⟩ (fun hH53 => ?_)
            clear hK K
            try simp only [List.setIfInBounds_toArray, List.set_cons_zero, List.set_cons_succ]
            refine wpAnyH_take (i := 12 ) (v := ?_) rfl (by kernel_rfl) (by kernel_rfl) (by kernel_rfl) (fun _ _ _ h => h) (Or.inl ⟨by rfl, ?_⟩) (by assumption) ?_; rotate_left; (· (intro w0 hSw; clear hSw; go_simp); first | done | with_reducible rfl); (try simp only [Act.put, List.getElem_toArray, List.getElem_cons_succ, List.getElem_cons_zero, List.setIfInBounds_toArray, List.set_cons_zero, List.set_cons_succ])
            refine wpAnyH_done (by kernel_rfl) ?_ _
            go_wp2_with fail
            go_meet
            exact ⟨g8, g9, rfl, rfl, rfl, HS, H5, H6, H8, H9⟩
          exact AllReadyH.nil
        refine AllReadyH.cons (by simp only [List.getElem?_toArray, List.getElem?_cons_succ, List.getElem?_cons_zero]; rfl) (fun K hK => ?_) ?_
        · go_simp
          have hb : Below X.heap.size X (X.alloc (.cells #[.int .i64 0, .int .i64 0] 23)) := (Below.refl _ _).alloc (Nat.le_refl _) _
          have H8 := Lib.hid (Blk.new X 23 #[.int .i64 0, .int .i64 0])
          have hg8 : q + 1 + 1 + 1 < X.heap.size := HS.out.k4.lt
          have hneg5g8 : g5 ≠ X.heap.size := Nat.ne_of_lt H5.out.lt
          have hneg6g8 : g6 ≠ X.heap.size := Nat.ne_of_lt H6.out.lt
          have hneg9g8 : g9 ≠ X.heap.size := Nat.ne_of_lt H9.out.lt
          replace HS := Lib.hid (HS.out.call hb)
          replace H5 := Lib.hid (H5.out.below hb H5.out.lt)
          replace H6 := Lib.hid (H6.out.below hb H6.out.lt)
          replace H9 := Lib.hid (H9.out.below hb H9.out.lt)
          clear hb
          generalize X.heap.size = g8 at *
          generalize World.alloc X _ = X at *
          refine hK.out _ _ ⟨HS.out.k1, HS.out.k2⟩ (fun hH54 => ?_)
          clear hK K
          try simp only [List.setIfInBounds_toArray, List.set_cons_zero, List.set_cons_succ]
          refine wpAnyH_ready (rs := [0]) (by kernel_rfl) (by simp) ?_
          refine AllReadyH.cons (by simp only [List.getElem?_toArray, List.getElem?_cons_zero]; rfl) (fun K hK => ?_) AllReadyH.nil
          go_simp
          refine (jig45_any _).mono ?_
          rintro e X ⟨rfl, hb⟩
          replace HS := Lib.hid (HS.out.call hb)
          replace H5 := Lib.hid (H5.out.below hb H5.out.lt)
          replace H6 := Lib.hid (H6.out.below hb H6.out.lt)
          replace H8 := Lib.hid (H8.out.below hb H8.out.lt)
          replace H9 := Lib.hid (H9.out.below hb H9.out.lt)
          clear hb
          refine hK.out _ _ ⟨HS.out.k1, HS.out.k2⟩ (fun hH55 => ?_)
          clear hK K
          try simp only [List.setIfInBounds_toArray, List.set_cons_zero]
          refine wpAnyH_ready (rs := [3]) (by kernel_rfl) (by simp) ?_
          refine AllReadyH.cons (by simp only [List.getElem?_toArray, List.getElem?_cons_succ, List.getElem?_cons_zero]; rfl) (fun K hK => ?_) AllReadyH.nil
          go_simp
          refine (offN2_any _).mono ?_
          rintro e X ⟨rfl, hb⟩
          replace HS := Lib.hid (HS.out.call hb)
          replace H5 := Lib.hid (H5.out.below hb H5.out.lt)
          replace H6 := Lib.hid (H6.out.below hb H6.out.lt)
          replace H8 := Lib.hid (H8.out.below hb H8.out.lt)
          replace H9 := Lib.hid (H9.out.below hb H9.out.lt)
          clear hb
          refine hK.out _ _ ⟨HS.out.k1, HS.out.k2⟩ (fun hH56 => ?_)
          clear hK K
          try simp only [List.setIfInBounds_toArray, List.set_cons_zero, List.set_cons_succ]
          refine wpAnyH_take (i := 4 ) (v := ?_) rfl (by kernel_rfl) (by kernel_rfl) (by kernel_rfl) (fun _ _ _ h => h) (Or.inl ⟨by rfl, ?_⟩) (by assumption) ?_; rotate_left; (· (intro w0 hSw; clear hSw; go_simp); first | done | with_reducible rfl); (try simp only [Act.put, List.getElem_toArray, List.getElem_cons_succ, List.getElem_cons_zero, List.setIfInBounds_toArray, List.set_cons_zero, List.set_cons_succ])
          refine wpAnyH_take (i := 5 ) (v := ?_) rfl (by kernel_rfl) (by kernel_rfl) (by kernel_rfl) (fun _ _ _ h => h) (Or.inl ⟨by rfl, ?_⟩) (by assumption) ?_; rotate_left; (· (intro w0 hSw; clear hSw; go_simp); first | done | with_reducible rfl); (try simp only [Act.put, List.getElem_toArray, List.getElem_cons_succ, List.getElem_cons_zero, List.setIfInBounds_toArray, List.set_cons_zero, List.set_cons_succ])
          refine wpAnyH_take (i := 6 ) (v := ?_) rfl (by kernel_rfl) (by kernel_rfl) (by kernel_rfl) (fun _ _ _ h => h) (Or.inl ⟨by rfl, ?_⟩) (by assumption) ?_; rotate_left; (· (intro w0 hSw; clear hSw; go_simp); first | done | with_reducible rfl); (try simp only [Act.put, List.getElem_toArray, List.getElem_cons_succ, List.getElem_cons_zero, List.setIfInBounds_toArray, List.set_cons_zero, List.set_cons_succ])
          refine wpAnyH_take (i := 7 ) (v := ?_) rfl (by kernel_rfl) (by kernel_rfl) (by kernel_rfl) (fun _ _ _ h => h) (Or.inl ⟨by rfl, ?_⟩) (by assumption) ?_; rotate_left; (· (intro w0 hSw; clear hSw; go_simp); first | done | with_reducible rfl); (try simp only [Act.put, List.getElem_toArray, List.getElem_cons_succ, List.getElem_cons_zero, List.setIfInBounds_toArray, List.set_cons_zero, List.set_cons_succ])
          refine wpAnyH_ready (rs := [10]) (by kernel_rfl) (by simp) ?_
          refine AllReadyH.cons (by simp only [List.getElem?_toArray, List.getElem?_cons_succ, List.getElem?_cons_zero]; rfl) (fun K hK => ?_) AllReadyH.nil
          rw [if_pos (by rfl)]
          refine wp_store_mid 23 (.tmp 8) (.tmp 41) (by rfl) g8 0 #[.int .i64 (-10), .int .i64 22] (by rfl) (by rfl) (there_mid (o := 0) H8.out (by simp)) (by kernel_rfl) (by simp [Value.oneCell']) ?_
          replace HS := Lib.hid (HS.out.low (set2_low (x := .int .i64 (-10)) (y := .int .i64 22) (g := g8) (by omega)))
          replace H8 := Lib.hid (set2_blk (x := .int .i64 (-10)) (y := .int .i64 22) H8.out)
          replace H5 := Lib.hid (far2 (x := .int .i64 (-10)) (y := .int .i64 22) (show g5 ≠ g8 by omega) H5.out)
          replace H6 := Lib.hid (far2 (x := .int .i64 (-10)) (y := .int .i64 22) (show g6 ≠ g8 by omega) H6.out)
          replace H9 := Lib.hid (far2 (x := .int .i64 (-10)) (y := .int .i64 22) (show g9 ≠ g8 by omega) H9.out)
          refine hK.out _ _ ⟨HS.out.k1, HS.out.k2⟩ (fun hH57 => ?_)
          clear hK K
          try simp only [List.setIfInBounds_toArray, List.set_cons_zero, List.set_cons_succ]
          refine wpAnyH_ready (rs := [11]) (by kernel_rfl) (by simp) ?_
          refine AllReadyH.cons (by simp only [List.getElem?_toArray, List.getElem?_cons_succ, List.getElem?_cons_zero]; rfl) (fun K hK => ?_) AllReadyH.nil
          rw [if_pos (by rfl)]
          refine wp_store_mid 23 (.tmp 9) (.tmp 42) (by rfl) g9 0 #[.int .i64 (-70), .int .i64 40] (by rfl) (by rfl) (there_mid (o := 0) H9.out (by simp)) (by kernel_rfl) (by simp [Value.oneCell']) ?_
          replace HS := Lib.hid (HS.out.low (set2_low (x := .int .i64 (-70)) (y := .int .i64 40) (g := g9) (by omega)))
          replace H9 := Lib.hid (set2_blk (x := .int .i64 (-70)) (y := .int .i64 40) H9.out)
          replace H5 := Lib.hid (far2 (x := .int .i64 (-70)) (y := .int .i64 40) (show g5 ≠ g9 by omega) H5.out)
          replace H6 := Lib.hid (far2 (x := .int .i64 (-70)) (y := .int .i64 40) (show g6 ≠ g9 by omega) H6.out)
          replace H8 := Lib.hid (far2 (x := .int .i64 (-70)) (y := .int .i64 40) (show g8 ≠ g9 by omega) H8.out)
          refine hK.out _ _ ⟨HS.out.k1, HS.out.k2⟩ (fun hH58 => ?_)
          clear hK K
          try simp only [List.setIfInBounds_toArray, List.set_cons_zero, List.set_cons_succ]
          refine wpAnyH_take (i := 12 ) (v := ?_) rfl (by kernel_rfl) (by kernel_rfl) (by kernel_rfl) (fun _ _ _ h => h) (Or.inl ⟨by rfl, ?_⟩) (by assumption) ?_; rotate_left; (· (intro w0 hSw; clear hSw; go_simp); first | done | with_reducible rfl); (try simp only [Act.put, List.getElem_toArray, List.getElem_cons_succ, List.getElem_cons_zero, List.setIfInBounds_toArray, List.set_cons_zero, List.set_cons_succ])
          refine wpAnyH_done (by kernel_rfl) ?_ _
          go_wp2_with fail
          go_meet
          exact ⟨g8, g9, rfl, rfl, rfl, HS, H5, H6, H8, H9⟩
        exact AllReadyH.nil
      exact AllReadyH.nil
    case rest => as_aux_lemma =>
      obtain ⟨g8, g9, rfl, rfl, rfl, HS, H5, H6, H8, H9⟩ := hcut
      go_wp2_with fail
      refine (jig45_any _).mono ?_
      rintro e U1 ⟨rfl, hb⟩
      replace HS := Lib.hid (HS.out.call hb)
      replace H5 := Lib.hid (H5.out.below hb H5.out.lt)
      replace H6 := Lib.hid (H6.out.below hb H6.out.lt)
      replace H8 := Lib.hid (H8.out.below hb H8.out.lt)
      replace H9 := Lib.hid (H9.out.below hb H9.out.lt)
      clear hb
      go_wp2_with fail
      refine (jig45_any _).mono ?_
      rintro e U2 ⟨rfl, hb⟩
      replace HS := Lib.hid (HS.out.call hb)
      replace H5 := Lib.hid (H5.out.below hb H5.out.lt)
      replace H6 := Lib.hid (H6.out.below hb H6.out.lt)
      replace H8 := Lib.hid (H8.out.below hb H8.out.lt)
      replace H9 := Lib.hid (H9.out.below hb H9.out.lt)
      clear hb
      have HJ := Lib.hid (JgS.start U2 #[.int .i64 10, .int .i64 20, .int .i64 2000, .int .i64 2020, .int .i64 (-5), .int .i64 5, .int .i64 (-10), .int .i64 10, .int .i64 40, .int .i64 3] #[.int .i64 10, .int .i64 20, .int .i64 2000, .int .i64 2020, .int .i64 (-5), .int .i64 5, .int .i64 (-10), .int .i64 10, .int .i64 40, .int .i64 3])
      go_upto_region 5 with fail
      generalize World.alloc (World.alloc U2 _) _ = X0 at HJ ⊢
      go_wp2_with fail
      refine (span46_any _ _ _).mono ?_
      rintro e X1 ⟨rfl, hb⟩
      replace HJ := Lib.hid (HJ.out.call hb)
      clear hb
      go_wp2_with fail
      refine (span46_any _ _ _).mono ?_
      rintro e X2 ⟨rfl, hb⟩
      replace HJ := Lib.hid (HJ.out.call hb)
      clear hb
      have HT0 := Lib.hid (there_mid (o := 0) HJ.out.k0 (by simp))
      have HJ2 := Lib.hid (HJ.out.two0 0 (.int .i64 9) (.int .i64 20))
      have HT1 := Lib.hid (there_mid (o := 2) HJ2.out.k1 (by simp))
      have HJ4 : Hid (JgS U2 #[.int .i64 9, .int .i64 20, .int .i64 2000, .int .i64 2020, .int .i64 (-5), .int .i64 5, .int .i64 (-10), .int .i64 10, .int .i64 40, .int .i64 3] #[.int .i64 10, .int .i64 20, .int .i64 2051, .int .i64 2060, .int .i64 (-5), .int .i64 5, .int .i64 (-10), .int .i64 10, .int .i64 40, .int .i64 3] _) := Lib.hid (HJ2.out.two1 2 (.int .i64 2051) (.int .i64 2060))
      clear HJ HJ2
      go_upto_region 6 with (first | (refine wpList_store_mid (by rfl) 23 (.tmp 48) (.tmp 46) (by rfl) (U2.heap.size) 0 #[.int .i64 9, .int .i64 20] (by rfl) (by rfl) HT0.out (by kernel_rfl) (by simp [Value.oneCell']) ?_) | (refine wpList_store_mid (by rfl) 23 (.tmp 49) (.tmp 47) (by rfl) (U2.heap.size + 1) 2 #[.int .i64 2051, .int .i64 2060] (by rfl) (by rfl) HT1.out (by kernel_rfl) (by simp [Value.oneCell']) ?_))
      have hb := HJ4.out.hb
      have KT := Lib.hid HJ4.out.k0
      have KK := Lib.hid HJ4.out.k1
      clear HJ4 HT0 HT1
      replace HS := Lib.hid (HS.out.call hb)
      replace H5 := Lib.hid (H5.out.below hb H5.out.lt)
      replace H6 := Lib.hid (H6.out.below hb H6.out.lt)
      replace H8 := Lib.hid (H8.out.below hb H8.out.lt)
      replace H9 := Lib.hid (H9.out.below hb H9.out.lt)
      clear hb
      generalize World.setCells (World.setCells _ _ _ _) _ _ _ = X3 at *
      generalize U2.heap.size = g11 at *
      have KA := Lib.hid HS.out.k1
      have KB := Lib.hid HS.out.k2
      go_wp2_with (first | (with_reducible refine wpList_load_mid (by with_unfolding_all rfl) 25 _ (by with_unfolding_all rfl) _ _ (by with_unfolding_all rfl) [.int .i64 9, .int .i64 20, .int .i64 2000, .int .i64 2020, .int .i64 (-5), .int .i64 5, .int .i64 (-10), .int .i64 10, .int .i64 40, .int .i64 3] _ KT.out.range (by with_unfolding_all rfl) (by with_unfolding_all rfl) (by kernel_rfl) ?_) | (with_reducible refine wpList_load_mid (by with_unfolding_all rfl) 37 _ (by with_unfolding_all rfl) _ _ (by with_unfolding_all rfl) [.int .i64 5000, .int .i64 5010, .int .i64 1010, .int .i64 1020, .int .i64 0, .int .i64 4, .int .i64 1, .int .i64 2] _ KA.out.range (by with_unfolding_all rfl) (by with_unfolding_all rfl) (by kernel_rfl) ?_) | (with_reducible refine wpList_load_mid (by with_unfolding_all rfl) 37 _ (by with_unfolding_all rfl) _ _ (by with_unfolding_all rfl) [.int .i64 4980, .int .i64 4990, .int .i64 1000, .int .i64 1010, .int .i64 (-2), .int .i64 2, .int .i64 0, .int .i64 1] _ KB.out.range (by with_unfolding_all rfl) (by with_unfolding_all rfl) (by kernel_rfl) ?_))
      refine (closesT_any _).mono ?_
      rintro e U3 ⟨rfl, hb⟩
      replace HS := Lib.hid (HS.out.call hb)
      replace H5 := Lib.hid (H5.out.below hb H5.out.lt)
      replace H6 := Lib.hid (H6.out.below hb H6.out.lt)
      replace H8 := Lib.hid (H8.out.below hb H8.out.lt)
      replace H9 := Lib.hid (H9.out.below hb H9.out.lt)
      replace KK := Lib.hid (KK.out.below hb KK.out.lt)
      replace KA := Lib.hid (KA.out.below hb KA.out.lt)
      replace KB := Lib.hid (KB.out.below hb KB.out.lt)
      clear hb
      go_wp2_with (first | (with_reducible refine wpList_load_mid (by with_unfolding_all rfl) 25 _ (by with_unfolding_all rfl) _ _ (by with_unfolding_all rfl) [.int .i64 10, .int .i64 20, .int .i64 2051, .int .i64 2060, .int .i64 (-5), .int .i64 5, .int .i64 (-10), .int .i64 10, .int .i64 40, .int .i64 3] _ KK.out.range (by with_unfolding_all rfl) (by with_unfolding_all rfl) (by kernel_rfl) ?_) | (with_reducible refine wpList_load_mid (by with_unfolding_all rfl) 37 _ (by with_unfolding_all rfl) _ _ (by with_unfolding_all rfl) [.int .i64 5000, .int .i64 5010, .int .i64 1010, .int .i64 1020, .int .i64 0, .int .i64 4, .int .i64 1, .int .i64 2] _ KA.out.range (by with_unfolding_all rfl) (by with_unfolding_all rfl) (by kernel_rfl) ?_) | (with_reducible refine wpList_load_mid (by with_unfolding_all rfl) 37 _ (by with_unfolding_all rfl) _ _ (by with_unfolding_all rfl) [.int .i64 4980, .int .i64 4990, .int .i64 1000, .int .i64 1010, .int .i64 (-2), .int .i64 2, .int .i64 0, .int .i64 1] _ KB.out.range (by with_unfolding_all rfl) (by with_unfolding_all rfl) (by kernel_rfl) ?_))
      refine (closesK_any _).mono ?_
      rintro e U4 ⟨rfl, hb⟩
      replace HS := Lib.hid (HS.out.call hb)
      replace H5 := Lib.hid (H5.out.below hb H5.out.lt)
      replace H6 := Lib.hid (H6.out.below hb H6.out.lt)
      replace H8 := Lib.hid (H8.out.below hb H8.out.lt)
      replace H9 := Lib.hid (H9.out.below hb H9.out.lt)
      clear hb
      clear KT KK KA KB
      go_upto_region 8 with fail
      go_cut [17, 18] (fun a b wx => ∃ A17 c17, a = .slice A17 3 c17 ∧ b = .int .i64 0 ∧ Hid (AlS w q wx) ∧ Hid (Blk wx g5 23 #[.int .i64 (-12), .int .i64 16]) ∧ Hid (Blk wx g8 23 #[.int .i64 (-10), .int .i64 22]) ∧ Hid (PlanAt wx (.slice A17 3 c17) [-1, -1, -1]))
      case first =>
        go_wp2_with fail
        clear H6 H9
        replace HS := Lib.hid (HS.out.call (Below.refl _ _).drew)
        replace H5 := Lib.hid (H5.out.below (Below.refl _ _).drew H5.out.lt)
        replace H8 := Lib.hid (H8.out.below (Below.refl _ _).drew H8.out.lt)
        refine wp_region_held_drew (S := fun W9 => Blk W9 q 37 #[.int .i64 5000, .int .i64 5010, .int .i64 1010, .int .i64 1020, .int .i64 0, .int .i64 4, .int .i64 1, .int .i64 2] ∧ Blk W9 (q + 1) 37 #[.int .i64 4980, .int .i64 4990, .int .i64 1000, .int .i64 1010, .int .i64 (-2), .int .i64 2, .int .i64 0, .int .i64 1]) (by kernel_rfl) ⟨HS.out.k1, HS.out.k2⟩ (fun hH0 => ?_)
        generalize World.drew _ = V0 at *
        simp only [List.size_toArray, List.length_cons, List.length_nil, Nat.reduceAdd, Array.replicate_succ, Array.replicate_zero, List.push_toArray, List.nil_append, List.cons_append]
        refine wpAnyH_take (i := 1) (v := _) rfl (by kernel_rfl) (by kernel_rfl) (by kernel_rfl) (fun _ _ _ h => h) (yieldsIf_load_mid (by rfl) _ _ rfl _ _ rfl [.int .i64 5000, .int .i64 5010, .int .i64 1010, .int .i64 1020, .int .i64 0, .int .i64 4, .int .i64 1, .int .i64 2] _ (fun w0 h0 => h0.1.range) (by rfl) (by rfl) (by kernel_rfl)) (by assumption) ?_
        (try simp only [Act.put, List.getElem_toArray, List.setIfInBounds_toArray, List.set_cons_zero, List.set_cons_succ])
        refine wpAnyH_take (i := 2) (v := _) rfl (by kernel_rfl) (by kernel_rfl) (by kernel_rfl) (fun _ _ _ h => h) (yieldsIf_load_mid (by rfl) _ _ rfl _ _ rfl [.int .i64 4980, .int .i64 4990, .int .i64 1000, .int .i64 1010, .int .i64 (-2), .int .i64 2, .int .i64 0, .int .i64 1] _ (fun w0 h0 => h0.2.range) (by rfl) (by rfl) (by kernel_rfl)) (by assumption) ?_
        (try simp only [Act.put, List.getElem_toArray, List.getElem_cons_succ, List.getElem_cons_zero, List.setIfInBounds_toArray, List.set_cons_zero, List.set_cons_succ])
        refine wpAnyH_ready (rs := [0, 3]) (by kernel_rfl) (by simp) ?_
        refine AllReadyH.cons (by simp only [List.getElem?_toArray, List.getElem?_cons_zero]; rfl) (fun K hK => ?_) ?_
        · go_simp
          refine (jig45_any _).mono ?_
          rintro e X ⟨rfl, hb⟩
          replace HS := Lib.hid (HS.out.call hb)
          replace H5 := Lib.hid (H5.out.below hb H5.out.lt)
          replace H8 := Lib.hid (H8.out.below hb H8.out.lt)
          clear hb
          refine hK.out _ _ ⟨HS.out.k1, HS.out.k2⟩ (fun hH1 => ?_)
          clear hK K
          try simp only [List.setIfInBounds_toArray, List.set_cons_zero]
          refine wpAnyH_ready (rs := [3]) (by kernel_rfl) (by simp) ?_
          refine AllReadyH.cons (by simp only [List.getElem?_toArray, List.getElem?_cons_succ, List.getElem?_cons_zero]; rfl) (fun K hK => ?_) AllReadyH.nil
          go_simp
          have hb : Below X.heap.size X (X.alloc (.cells #[.int .i64 30] 3)) := (Below.refl _ _).alloc (Nat.le_refl _) _
          have H1 := Lib.hid (Blk.new X 3 #[.int .i64 30])
          have hg1 : q + 1 + 1 + 1 < X.heap.size := HS.out.k4.lt
          replace HS := Lib.hid (HS.out.call hb)
          replace H5 := Lib.hid (H5.out.below hb H5.out.lt)
          replace H8 := Lib.hid (H8.out.below hb H8.out.lt)
          clear hb
          generalize X.heap.size = g1 at *
          generalize World.alloc X _ = X at *
          refine hK.out _ _ ⟨HS.out.k1, HS.out.k2⟩ (fun hH2 => ?_)
          clear hK K
          try simp only [List.setIfInBounds_toArray, List.set_cons_zero, List.set_cons_succ]
          refine wpAnyH_ready (rs := [4]) (by kernel_rfl) (by simp) ?_
          refine AllReadyH.cons (by simp only [List.getElem?_toArray, List.getElem?_cons_succ, List.getElem?_cons_zero]; rfl) (fun K hK => ?_) AllReadyH.nil
          go_simp
          refine (gradesM_any _ g1 H1.out).mono ?_
          rintro e X ⟨A17, c17, rfl, hp, hb⟩
          replace HS := Lib.hid (HS.out.call hb)
          have P17 := Lib.hid (gr_plan hp)
          replace H5 := Lib.hid (H5.out.below hb H5.out.lt)
          replace H8 := Lib.hid (H8.out.below hb H8.out.lt)
          clear hb hp
          refine hK.out _ _ ⟨HS.out.k1, HS.out.k2⟩ (fun hH3 => ?_)
          clear hK K
          try simp only [List.setIfInBounds_toArray, List.set_cons_zero, List.set_cons_succ]
          refine wpAnyH_take (i := 5 ) (v := ?_) rfl (by kernel_rfl) (by kernel_rfl) (by kernel_rfl) (fun _ _ _ h => h) (Or.inl ⟨by rfl, ?_⟩) (by assumption) ?_; rotate_left; (· (intro w0 hSw; clear hSw; go_simp); first | done | with_reducible rfl); (try simp only [Act.put, List.getElem_toArray, List.getElem_cons_succ, List.getElem_cons_zero, List.setIfInBounds_toArray, List.set_cons_zero, List.set_cons_succ])
          refine wpAnyH_take (i := 6 ) (v := ?_) rfl (by kernel_rfl) (by kernel_rfl) (by kernel_rfl) (fun _ _ _ h => h) (Or.inl ⟨by rfl, ?_⟩) (by assumption) ?_; rotate_left; (· (intro w0 hSw; clear hSw; go_simp); first | done | with_reducible rfl); (try simp only [Act.put, List.getElem_toArray, List.getElem_cons_succ, List.getElem_cons_zero, List.setIfInBounds_toArray, List.set_cons_zero, List.set_cons_succ])
          refine wpAnyH_take (i := 7 ) (v := ?_) rfl (by kernel_rfl) (by kernel_rfl) (by kernel_rfl) (fun _ _ _ h => h) (Or.inl ⟨by rfl, ?_⟩) (by assumption) ?_; rotate_left; (· (intro w0 hSw; clear hSw; go_simp); first | done | with_reducible rfl); (try simp only [Act.put, List.getElem_toArray, List.getElem_cons_succ, List.getElem_cons_zero, List.setIfInBounds_toArray, List.set_cons_zero, List.set_cons_succ])
          refine wpAnyH_take (i := 8 ) (v := ?_) rfl (by kernel_rfl) (by kernel_rfl) (by kernel_rfl) (fun _ _ _ h => h) (Or.inl ⟨by rfl, ?_⟩) (by assumption) ?_; rotate_left; (· (intro w0 hSw; clear hSw; go_simp); first | done | with_reducible rfl); (try simp only [Act.put, List.getElem_toArray, List.getElem_cons_succ, List.getElem_cons_zero, List.setIfInBounds_toArray, List.set_cons_zero, List.set_cons_succ])
          refine wpAnyH_take (i := 9 ) (v := ?_) rfl (by kernel_rfl) (by kernel_rfl) (by kernel_rfl) (fun _ _ _ h => h) (Or.inl ⟨by rfl, ?_⟩) (by assumption) ?_; rotate_left; (· (intro w0 hSw; clear hSw; go_simp); first | done | with_reducible rfl); (try simp only [Act.put, List.getElem_toArray, List.getElem_cons_succ, List.getElem_cons_zero, List.setIfInBounds_toArray, List.set_cons_zero, List.set_cons_succ])
          refine wpAnyH_done (by kernel_rfl) ?_ _
          go_wp2_with fail
          go_meet
          exact ⟨A17, c17, rfl, rfl, HS, H5, H8, P17⟩
        refine AllReadyH.cons (by simp only [List.getElem?_toArray, List.getElem?_cons_succ, List.getElem?_cons_zero]; rfl) (fun K hK => ?_) ?_
        · go_simp
          have hb : Below V0.heap.size V0 (V0.alloc (.cells #[.int .i64 30] 3)) := (Below.refl _ _).alloc (Nat.le_refl _) _
          have H1 := Lib.hid (Blk.new V0 3 #[.int .i64 30])
          have hg1 : q + 1 + 1 + 1 < V0.heap.size := HS.out.k4.lt
          replace HS := Lib.hid (HS.out.call hb)
          replace H5 := Lib.hid (H5.out.below hb H5.out.lt)
          replace H8 := Lib.hid (H8.out.below hb H8.out.lt)
          clear hb
          generalize V0.heap.size = g1 at *
          generalize World.alloc V0 _ = X at *
          refine hK.out _ _ ⟨HS.out.k1, HS.out.k2⟩ (fun hH4 => ?_)
          clear hK K
          try simp only [List.setIfInBounds_toArray, List.set_cons_zero, List.set_cons_succ]
          refine wpAnyH_ready (rs := [0]) (by kernel_rfl) (by simp) ?_
          refine AllReadyH.cons (by simp only [List.getElem?_toArray, List.getElem?_cons_zero]; rfl) (fun K hK => ?_) AllReadyH.nil
          go_simp
          refine (jig45_any _).mono ?_
          rintro e X ⟨rfl, hb⟩
          replace HS := Lib.hid (HS.out.call hb)
          replace H5 := Lib.hid (H5.out.below hb H5.out.lt)
          replace H8 := Lib.hid (H8.out.below hb H8.out.lt)
          replace H1 := Lib.hid (H1.out.below hb H1.out.lt)
          clear hb
          refine hK.out _ _ ⟨HS.out.k1, HS.out.k2⟩ (fun hH5 => ?_)
          clear hK K
          try simp only [List.setIfInBounds_toArray, List.set_cons_zero]
          refine wpAnyH_ready (rs := [4]) (by kernel_rfl) (by simp) ?_
          refine AllReadyH.cons (by simp only [List.getElem?_toArray, List.getElem?_cons_succ, List.getElem?_cons_zero]; rfl) (fun K hK => ?_) AllReadyH.nil
          go_simp
          refine (gradesM_any _ g1 H1.out).mono ?_
          rintro e X ⟨A17, c17, rfl, hp, hb⟩
          replace HS := Lib.hid (HS.out.call hb)
          have P17 := Lib.hid (gr_plan hp)
          replace H5 := Lib.hid (H5.out.below hb H5.out.lt)
          replace H8 := Lib.hid (H8.out.below hb H8.out.lt)
          clear hb hp
          refine hK.out _ _ ⟨HS.out.k1, HS.out.k2⟩ (fun hH6 => ?_)
          clear hK K
          try simp only [List.setIfInBounds_toArray, List.set_cons_zero, List.set_cons_succ]
          refine wpAnyH_take (i := 5 ) (v := ?_) rfl (by kernel_rfl) (by kernel_rfl) (by kernel_rfl) (fun _ _ _ h => h) (Or.inl ⟨by rfl, ?_⟩) (by assumption) ?_; rotate_left; (· (intro w0 hSw; clear hSw; go_simp); first | done | with_reducible rfl); (try simp only [Act.put, List.getElem_toArray, List.getElem_cons_succ, List.getElem_cons_zero, List.setIfInBounds_toArray, List.set_cons_zero, List.set_cons_succ])
          refine wpAnyH_take (i := 6 ) (v := ?_) rfl (by kernel_rfl) (by kernel_rfl) (by kernel_rfl) (fun _ _ _ h => h) (Or.inl ⟨by rfl, ?_⟩) (by assumption) ?_; rotate_left; (· (intro w0 hSw; clear hSw; go_simp); first | done | with_reducible rfl); (try simp only [Act.put, List.getElem_toArray, List.getElem_cons_succ, List.getElem_cons_zero, List.setIfInBounds_toArray, List.set_cons_zero, List.set_cons_succ])
          refine wpAnyH_take (i := 7 ) (v := ?_) rfl (by kernel_rfl) (by kernel_rfl) (by kernel_rfl) (fun _ _ _ h => h) (Or.inl ⟨by rfl, ?_⟩) (by assumption) ?_; rotate_left; (· (intro w0 hSw; clear hSw; go_simp); first | done | with_reducible rfl); (try simp only [Act.put, List.getElem_toArray, List.getElem_cons_succ, List.getElem_cons_zero, List.setIfInBounds_toArray, List.set_cons_zero, List.set_cons_succ])
          refine wpAnyH_take (i := 8 ) (v := ?_) rfl (by kernel_rfl) (by kernel_rfl) (by kernel_rfl) (fun _ _ _ h => h) (Or.inl ⟨by rfl, ?_⟩) (by assumption) ?_; rotate_left; (· (intro w0 hSw; clear hSw; go_simp); first | done | with_reducible rfl); (try simp only [Act.put, List.getElem_toArray, List.getElem_cons_succ, List.getElem_cons_zero, List.setIfInBounds_toArray, List.set_cons_zero, List.set_cons_succ])
          refine wpAnyH_take (i := 9 ) (v := ?_) rfl (by kernel_rfl) (by kernel_rfl) (by kernel_rfl) (fun _ _ _ h => h) (Or.inl ⟨by rfl, ?_⟩) (by assumption) ?_; rotate_left; (· (intro w0 hSw; clear hSw; go_simp); first | done | with_reducible rfl); (try simp only [Act.put, List.getElem_toArray, List.getElem_cons_succ, List.getElem_cons_zero, List.setIfInBounds_toArray, List.set_cons_zero, List.set_cons_succ])
          refine wpAnyH_done (by kernel_rfl) ?_ _
          go_wp2_with fail
          go_meet
          exact ⟨A17, c17, rfl, rfl, HS, H5, H8, P17⟩
        exact AllReadyH.nil
      case rest => as_aux_lemma =>
        obtain ⟨A17, c17, rfl, rfl, HS, H5, H8, P17⟩ := hcut
        go_upto_region 9 with fail
        go_cut [19, 20, 21] (fun a b c wx => ∃ A19 c19, a = .slice A19 2 c19 ∧ b = .int .i64 6 ∧ c = .int .i64 0 ∧ Hid (AlS w q wx) ∧ Hid (Blk wx g5 23 #[.int .i64 (-12), .int .i64 16]) ∧ Hid (Blk wx g8 23 #[.int .i64 (-10), .int .i64 22]) ∧ Hid (PlanAt wx (.slice A17 3 c17) [-1, -1, -1]) ∧ Hid (PlanAt wx (.slice A19 2 c19) [0, 1]))
        case first =>
          go_wp2_with fail
          replace HS := Lib.hid (HS.out.call (Below.refl _ _).drew)
          replace H5 := Lib.hid (H5.out.below (Below.refl _ _).drew H5.out.lt)
          replace H8 := Lib.hid (H8.out.below (Below.refl _ _).drew H8.out.lt)
          replace P17 := Lib.hid (P17.out.below (Below.refl _ _).drew)
          refine wp_region_held_drew (S := fun W9 => (Blk W9 q 37 #[.int .i64 5000, .int .i64 5010, .int .i64 1010, .int .i64 1020, .int .i64 0, .int .i64 4, .int .i64 1, .int .i64 2] ∧ Blk W9 (q + 1) 37 #[.int .i64 4980, .int .i64 4990, .int .i64 1000, .int .i64 1010, .int .i64 (-2), .int .i64 2, .int .i64 0, .int .i64 1]) ∧ Blk W9 (q + 1 + 1) 37 #[.int .i64 4900, .int .i64 4910, .int .i64 1010, .int .i64 1020, .int .i64 0, .int .i64 4, .int .i64 1, .int .i64 2] ∧ Blk W9 (q + 1 + 1 + 1) 37 #[.int .i64 4880, .int .i64 4890, .int .i64 1000, .int .i64 1010, .int .i64 (-2), .int .i64 2, .int .i64 0, .int .i64 1]) (by kernel_rfl) ⟨⟨HS.out.k1, HS.out.k2⟩, HS.out.k3, HS.out.k4⟩ (fun hH0 => ?_)
          generalize World.drew _ = V0 at *
          simp only [List.size_toArray, List.length_cons, List.length_nil, Nat.reduceAdd, Array.replicate_succ, Array.replicate_zero, List.push_toArray, List.nil_append, List.cons_append]
          refine wpAnyH_take (i := 1) (v := _) rfl (by kernel_rfl) (by kernel_rfl) (by kernel_rfl) (fun _ _ _ h => h) (yieldsIf_load_mid (by rfl) _ _ rfl _ _ rfl [.int .i64 5000, .int .i64 5010, .int .i64 1010, .int .i64 1020, .int .i64 0, .int .i64 4, .int .i64 1, .int .i64 2] _ (fun w0 h0 => h0.1.1.range) (by rfl) (by rfl) (by kernel_rfl)) (by assumption) ?_
          (try simp only [Act.put, List.getElem_toArray, List.setIfInBounds_toArray, List.set_cons_zero, List.set_cons_succ])
          refine wpAnyH_take (i := 2) (v := _) rfl (by kernel_rfl) (by kernel_rfl) (by kernel_rfl) (fun _ _ _ h => h) (yieldsIf_load_mid (by rfl) _ _ rfl _ _ rfl [.int .i64 4900, .int .i64 4910, .int .i64 1010, .int .i64 1020, .int .i64 0, .int .i64 4, .int .i64 1, .int .i64 2] _ (fun w0 h0 => h0.2.1.range) (by rfl) (by rfl) (by kernel_rfl)) (by assumption) ?_
          (try simp only [Act.put, List.getElem_toArray, List.getElem_cons_succ, List.getElem_cons_zero, List.setIfInBounds_toArray, List.set_cons_zero, List.set_cons_succ])
          refine wpAnyH_take (i := 4) (v := _) rfl (by kernel_rfl) (by kernel_rfl) (by kernel_rfl) (fun _ _ _ h => h) (yieldsIf_load_mid (by rfl) _ _ rfl _ _ rfl [.int .i64 4980, .int .i64 4990, .int .i64 1000, .int .i64 1010, .int .i64 (-2), .int .i64 2, .int .i64 0, .int .i64 1] _ (fun w0 h0 => h0.1.2.range) (by rfl) (by rfl) (by kernel_rfl)) (by assumption) ?_
          (try simp only [Act.put, List.getElem_toArray, List.getElem_cons_succ, List.getElem_cons_zero, List.setIfInBounds_toArray, List.set_cons_zero, List.set_cons_succ])
          refine wpAnyH_take (i := 5) (v := _) rfl (by kernel_rfl) (by kernel_rfl) (by kernel_rfl) (fun _ _ _ h => h) (yieldsIf_load_mid (by rfl) _ _ rfl _ _ rfl [.int .i64 4880, .int .i64 4890, .int .i64 1000, .int .i64 1010, .int .i64 (-2), .int .i64 2, .int .i64 0, .int .i64 1] _ (fun w0 h0 => h0.2.2.range) (by rfl) (by rfl) (by kernel_rfl)) (by assumption) ?_
          (try simp only [Act.put, List.getElem_toArray, List.getElem_cons_succ, List.getElem_cons_zero, List.setIfInBounds_toArray, List.set_cons_zero, List.set_cons_succ])
          refine wpAnyH_ready (rs := [0, 3, 6]) (by kernel_rfl) (by simp) ?_
          refine AllReadyH.cons (by simp only [List.getElem?_toArray, List.getElem?_cons_zero]; rfl) (fun K hK => ?_) ?_
          · go_simp
            refine (jig45_any _).mono ?_
            rintro e X ⟨rfl, hb⟩
            replace HS := Lib.hid (HS.out.call hb)
            replace H5 := Lib.hid (H5.out.below hb H5.out.lt)
            replace H8 := Lib.hid (H8.out.below hb H8.out.lt)
            replace P17 := Lib.hid (P17.out.below hb)
            clear hb
            refine hK.out _ _ ⟨⟨HS.out.k1, HS.out.k2⟩, HS.out.k3, HS.out.k4⟩ (fun hH1 => ?_)
            clear hK K
            try simp only [List.setIfInBounds_toArray, List.set_cons_zero]
            refine wpAnyH_ready (rs := [3, 6]) (by kernel_rfl) (by simp) ?_
            refine AllReadyH.cons (by simp only [List.getElem?_toArray, List.getElem?_cons_succ, List.getElem?_cons_zero]; rfl) (fun K hK => ?_) ?_
            · rw [if_pos (by rfl)]
              refine wp_bs 26 37 2 _ (by rfl) #[.int .i64 5000, .int .i64 5010, .int .i64 1010, .int .i64 1020, .int .i64 0, .int .i64 4, .int .i64 1, .int .i64 2, .int .i64 4900, .int .i64 4910, .int .i64 1010, .int .i64 1020, .int .i64 0, .int .i64 4, .int .i64 1, .int .i64 2] [.agg #[.int .i64 5000, .int .i64 5010, .int .i64 1010, .int .i64 1020, .int .i64 0, .int .i64 4, .int .i64 1, .int .i64 2], .agg #[.int .i64 4900, .int .i64 4910, .int .i64 1010, .int .i64 1020, .int .i64 0, .int .i64 4, .int .i64 1, .int .i64 2]] (.agg #[.int .i64 0, .int .i64 0, .int .i64 0, .int .i64 0, .int .i64 0, .int .i64 0, .int .i64 0, .int .i64 0]) 8 (by kernel_rfl) (by kernel_rfl) (by decide) (by rfl) (by rfl) (by rfl) (by rfl) ?_
              simp only [Act.put, List.setIfInBounds_toArray, List.set_cons_zero, List.set_cons_succ]
              have hb : Below X.heap.size X (X.alloc (.cells #[.int .i64 5000, .int .i64 5010, .int .i64 1010, .int .i64 1020, .int .i64 0, .int .i64 4, .int .i64 1, .int .i64 2, .int .i64 4900, .int .i64 4910, .int .i64 1010, .int .i64 1020, .int .i64 0, .int .i64 4, .int .i64 1, .int .i64 2] 37)) := (Below.refl _ _).alloc (Nat.le_refl _) _
              have H1 := Lib.hid (Blk.new X 37 #[.int .i64 5000, .int .i64 5010, .int .i64 1010, .int .i64 1020, .int .i64 0, .int .i64 4, .int .i64 1, .int .i64 2, .int .i64 4900, .int .i64 4910, .int .i64 1010, .int .i64 1020, .int .i64 0, .int .i64 4, .int .i64 1, .int .i64 2])
              have hg1 : q + 1 + 1 + 1 < X.heap.size := HS.out.k4.lt
              replace HS := Lib.hid (HS.out.call hb)
              replace H5 := Lib.hid (H5.out.below hb H5.out.lt)
              replace H8 := Lib.hid (H8.out.below hb H8.out.lt)
              replace P17 := Lib.hid (P17.out.below hb)
              clear hb
              generalize X.heap.size = g1 at *
              generalize World.alloc X _ = X at *
              refine hK.out _ _ ⟨⟨HS.out.k1, HS.out.k2⟩, HS.out.k3, HS.out.k4⟩ (fun hH2 => ?_)
              clear hK K
              try simp only [List.setIfInBounds_toArray, List.set_cons_zero, List.set_cons_succ]
              refine wpAnyH_ready (rs := [6]) (by kernel_rfl) (by simp) ?_
              refine AllReadyH.cons (by simp only [List.getElem?_toArray, List.getElem?_cons_succ, List.getElem?_cons_zero]; rfl) (fun K hK => ?_) AllReadyH.nil
              rw [if_pos (by rfl)]
              refine wp_bs 26 37 2 _ (by rfl) #[.int .i64 4980, .int .i64 4990, .int .i64 1000, .int .i64 1010, .int .i64 (-2), .int .i64 2, .int .i64 0, .int .i64 1, .int .i64 4880, .int .i64 4890, .int .i64 1000, .int .i64 1010, .int .i64 (-2), .int .i64 2, .int .i64 0, .int .i64 1] [.agg #[.int .i64 4980, .int .i64 4990, .int .i64 1000, .int .i64 1010, .int .i64 (-2), .int .i64 2, .int .i64 0, .int .i64 1], .agg #[.int .i64 4880, .int .i64 4890, .int .i64 1000, .int .i64 1010, .int .i64 (-2), .int .i64 2, .int .i64 0, .int .i64 1]] (.agg #[.int .i64 0, .int .i64 0, .int .i64 0, .int .i64 0, .int .i64 0, .int .i64 0, .int .i64 0, .int .i64 0]) 8 (by kernel_rfl) (by kernel_rfl) (by decide) (by rfl) (by rfl) (by rfl) (by rfl) ?_
              simp only [Act.put, List.setIfInBounds_toArray, List.set_cons_zero, List.set_cons_succ]
              have hb : Below X.heap.size X (X.alloc (.cells #[.int .i64 4980, .int .i64 4990, .int .i64 1000, .int .i64 1010, .int .i64 (-2), .int .i64 2, .int .i64 0, .int .i64 1, .int .i64 4880, .int .i64 4890, .int .i64 1000, .int .i64 1010, .int .i64 (-2), .int .i64 2, .int .i64 0, .int .i64 1] 37)) := (Below.refl _ _).alloc (Nat.le_refl _) _
              have H2 := Lib.hid (Blk.new X 37 #[.int .i64 4980, .int .i64 4990, .int .i64 1000, .int .i64 1010, .int .i64 (-2), .int .i64 2, .int .i64 0, .int .i64 1, .int .i64 4880, .int .i64 4890, .int .i64 1000, .int .i64 1010, .int .i64 (-2), .int .i64 2, .int .i64 0, .int .i64 1])
              have hg2 : q + 1 + 1 + 1 < X.heap.size := HS.out.k4.lt
              replace HS := Lib.hid (HS.out.call hb)
              replace H5 := Lib.hid (H5.out.below hb H5.out.lt)
              replace H8 := Lib.hid (H8.out.below hb H8.out.lt)
              replace P17 := Lib.hid (P17.out.below hb)
              replace H1 := Lib.hid (H1.out.below hb H1.out.lt)
              clear hb
              generalize X.heap.size = g2 at *
              generalize World.alloc X _ = X at *
              refine hK.out _ _ ⟨⟨HS.out.k1, HS.out.k2⟩, HS.out.k3, HS.out.k4⟩ (fun hH3 => ?_)
              clear hK K
              try simp only [List.setIfInBounds_toArray, List.set_cons_zero, List.set_cons_succ]
              refine wpAnyH_ready (rs := [7]) (by kernel_rfl) (by simp) ?_
              refine AllReadyH.cons (by simp only [List.getElem?_toArray, List.getElem?_cons_succ, List.getElem?_cons_zero]; rfl) (fun K hK => ?_) AllReadyH.nil
              go_simp
              refine (pairM_any _ g1 g2 H1.out H2.out).mono ?_
              rintro e X ⟨A19, c19, rfl, hp, hb⟩
              replace HS := Lib.hid (HS.out.call hb)
              have P19 := Lib.hid hp
              replace H5 := Lib.hid (H5.out.below hb H5.out.lt)
              replace H8 := Lib.hid (H8.out.below hb H8.out.lt)
              replace P17 := Lib.hid (P17.out.below hb)
              clear hb hp
              refine hK.out _ _ ⟨⟨HS.out.k1, HS.out.k2⟩, HS.out.k3, HS.out.k4⟩ (fun hH4 => ?_)
              clear hK K
              try simp only [List.setIfInBounds_toArray, List.set_cons_zero, List.set_cons_succ]
              refine wpAnyH_take (i := 8 ) (v := ?_) rfl (by kernel_rfl) (by kernel_rfl) (by kernel_rfl) (fun _ _ _ h => h) (Or.inl ⟨by rfl, ?_⟩) (by assumption) ?_; rotate_left; (· (intro w0 hSw; clear hSw; go_simp); first | done | with_reducible rfl); (try simp only [Act.put, List.getElem_toArray, List.getElem_cons_succ, List.getElem_cons_zero, List.setIfInBounds_toArray, List.set_cons_zero, List.set_cons_succ])
              refine wpAnyH_take (i := 9 ) (v := ?_) rfl (by kernel_rfl) (by kernel_rfl) (by kernel_rfl) (fun _ _ _ h => h) (Or.inl ⟨by rfl, ?_⟩) (by assumption) ?_; rotate_left; (· (intro w0 hSw; clear hSw; go_simp); first | done | with_reducible rfl); (try simp only [Act.put, List.getElem_toArray, List.getElem_cons_succ, List.getElem_cons_zero, List.setIfInBounds_toArray, List.set_cons_zero, List.set_cons_succ])
              refine wpAnyH_take (i := 10 ) (v := ?_) rfl (by kernel_rfl) (by kernel_rfl) (by kernel_rfl) (fun _ _ _ h => h) (Or.inl ⟨by rfl, ?_⟩) (by assumption) ?_; rotate_left; (· (intro w0 hSw; clear hSw; go_simp); first | done | with_reducible rfl); (try simp only [Act.put, List.getElem_toArray, List.getElem_cons_succ, List.getElem_cons_zero, List.setIfInBounds_toArray, List.set_cons_zero, List.set_cons_succ])
              refine wpAnyH_take (i := 11 ) (v := ?_) rfl (by kernel_rfl) (by kernel_rfl) (by kernel_rfl) (fun _ _ _ h => h) (Or.inl ⟨by rfl, ?_⟩) (by assumption) ?_; rotate_left; (· (intro w0 hSw; clear hSw; go_simp); first | done | with_reducible rfl); (try simp only [Act.put, List.getElem_toArray, List.getElem_cons_succ, List.getElem_cons_zero, List.setIfInBounds_toArray, List.set_cons_zero, List.set_cons_succ])
              refine wpAnyH_take (i := 12 ) (v := ?_) rfl (by kernel_rfl) (by kernel_rfl) (by kernel_rfl) (fun _ _ _ h => h) (Or.inl ⟨by rfl, ?_⟩) (by assumption) ?_; rotate_left; (· (intro w0 hSw; clear hSw; go_simp); first | done | with_reducible rfl); (try simp only [Act.put, List.getElem_toArray, List.getElem_cons_succ, List.getElem_cons_zero, List.setIfInBounds_toArray, List.set_cons_zero, List.set_cons_succ])
              refine wpAnyH_take (i := 13 ) (v := ?_) rfl (by kernel_rfl) (by kernel_rfl) (by kernel_rfl) (fun _ _ _ h => h) (Or.inl ⟨by rfl, ?_⟩) (by assumption) ?_; rotate_left; (· (intro w0 hSw; clear hSw; go_simp); first | done | with_reducible rfl); (try simp only [Act.put, List.getElem_toArray, List.getElem_cons_succ, List.getElem_cons_zero, List.setIfInBounds_toArray, List.set_cons_zero, List.set_cons_succ])
              refine wpAnyH_take (i := 14 ) (v := ?_) rfl (by kernel_rfl) (by kernel_rfl) (by kernel_rfl) (fun _ _ _ h => h) (Or.inl ⟨by rfl, ?_⟩) (by assumption) ?_; rotate_left; (· (intro w0 hSw; clear hSw; go_simp); first | done | with_reducible rfl); (try simp only [Act.put, List.getElem_toArray, List.getElem_cons_succ, List.getElem_cons_zero, List.setIfInBounds_toArray, List.set_cons_zero, List.set_cons_succ])
              refine wpAnyH_done (by kernel_rfl) ?_ _
              go_wp2_with fail
              go_meet
              exact ⟨A19, c19, rfl, rfl, rfl, HS, H5, H8, P17, P19⟩
            refine AllReadyH.cons (by simp only [List.getElem?_toArray, List.getElem?_cons_succ, List.getElem?_cons_zero]; rfl) (fun K hK => ?_) ?_
            · rw [if_pos (by rfl)]
              refine wp_bs 26 37 2 _ (by rfl) #[.int .i64 4980, .int .i64 4990, .int .i64 1000, .int .i64 1010, .int .i64 (-2), .int .i64 2, .int .i64 0, .int .i64 1, .int .i64 4880, .int .i64 4890, .int .i64 1000, .int .i64 1010, .int .i64 (-2), .int .i64 2, .int .i64 0, .int .i64 1] [.agg #[.int .i64 4980, .int .i64 4990, .int .i64 1000, .int .i64 1010, .int .i64 (-2), .int .i64 2, .int .i64 0, .int .i64 1], .agg #[.int .i64 4880, .int .i64 4890, .int .i64 1000, .int .i64 1010, .int .i64 (-2), .int .i64 2, .int .i64 0, .int .i64 1]] (.agg #[.int .i64 0, .int .i64 0, .int .i64 0, .int .i64 0, .int .i64 0, .int .i64 0, .int .i64 0, .int .i64 0]) 8 (by kernel_rfl) (by kernel_rfl) (by decide) (by rfl) (by rfl) (by rfl) (by rfl) ?_
              simp only [Act.put, List.setIfInBounds_toArray, List.set_cons_zero, List.set_cons_succ]
              have hb : Below X.heap.size X (X.alloc (.cells #[.int .i64 4980, .int .i64 4990, .int .i64 1000, .int .i64 1010, .int .i64 (-2), .int .i64 2, .int .i64 0, .int .i64 1, .int .i64 4880, .int .i64 4890, .int .i64 1000, .int .i64 1010, .int .i64 (-2), .int .i64 2, .int .i64 0, .int .i64 1] 37)) := (Below.refl _ _).alloc (Nat.le_refl _) _
              have H2 := Lib.hid (Blk.new X 37 #[.int .i64 4980, .int .i64 4990, .int .i64 1000, .int .i64 1010, .int .i64 (-2), .int .i64 2, .int .i64 0, .int .i64 1, .int .i64 4880, .int .i64 4890, .int .i64 1000, .int .i64 1010, .int .i64 (-2), .int .i64 2, .int .i64 0, .int .i64 1])
              have hg2 : q + 1 + 1 + 1 < X.heap.size := HS.out.k4.lt
              replace HS := Lib.hid (HS.out.call hb)
              replace H5 := Lib.hid (H5.out.below hb H5.out.lt)
              replace H8 := Lib.hid (H8.out.below hb H8.out.lt)
              replace P17 := Lib.hid (P17.out.below hb)
              clear hb
              generalize X.heap.size = g2 at *
              generalize World.alloc X _ = X at *
              refine hK.out _ _ ⟨⟨HS.out.k1, HS.out.k2⟩, HS.out.k3, HS.out.k4⟩ (fun hH5 => ?_)
              clear hK K
              try simp only [List.setIfInBounds_toArray, List.set_cons_zero, List.set_cons_succ]
              refine wpAnyH_ready (rs := [3]) (by kernel_rfl) (by simp) ?_
              refine AllReadyH.cons (by simp only [List.getElem?_toArray, List.getElem?_cons_succ, List.getElem?_cons_zero]; rfl) (fun K hK => ?_) AllReadyH.nil
              rw [if_pos (by rfl)]
              refine wp_bs 26 37 2 _ (by rfl) #[.int .i64 5000, .int .i64 5010, .int .i64 1010, .int .i64 1020, .int .i64 0, .int .i64 4, .int .i64 1, .int .i64 2, .int .i64 4900, .int .i64 4910, .int .i64 1010, .int .i64 1020, .int .i64 0, .int .i64 4, .int .i64 1, .int .i64 2] [.agg #[.int .i64 5000, .int .i64 5010, .int .i64 1010, .int .i64 1020, .int .i64 0, .int .i64 4, .int .i64 1, .int .i64 2], .agg #[.int .i64 4900, .int .i64 4910, .int .i64 1010, .int .i64 1020, .int .i64 0, .int .i64 4, .int .i64 1, .int .i64 2]] (.agg #[.int .i64 0, .int .i64 0, .int .i64 0, .int .i64 0, .int .i64 0, .int .i64 0, .int .i64 0, .int .i64 0]) 8 (by kernel_rfl) (by kernel_rfl) (by decide) (by rfl) (by rfl) (by rfl) (by rfl) ?_
              simp only [Act.put, List.setIfInBounds_toArray, List.set_cons_zero, List.set_cons_succ]
              have hb : Below X.heap.size X (X.alloc (.cells #[.int .i64 5000, .int .i64 5010, .int .i64 1010, .int .i64 1020, .int .i64 0, .int .i64 4, .int .i64 1, .int .i64 2, .int .i64 4900, .int .i64 4910, .int .i64 1010, .int .i64 1020, .int .i64 0, .int .i64 4, .int .i64 1, .int .i64 2] 37)) := (Below.refl _ _).alloc (Nat.le_refl _) _
              have H1 := Lib.hid (Blk.new X 37 #[.int .i64 5000, .int .i64 5010, .int .i64 1010, .int .i64 1020, .int .i64 0, .int .i64 4, .int .i64 1, .int .i64 2, .int .i64 4900, .int .i64 4910, .int .i64 1010, .int .i64 1020, .int .i64 0, .int .i64 4, .int .i64 1, .int .i64 2])
              have hg1 : q + 1 + 1 + 1 < X.heap.size := HS.out.k4.lt
              replace HS := Lib.hid (HS.out.call hb)
              replace H5 := Lib.hid (H5.out.below hb H5.out.lt)
              replace H8 := Lib.hid (H8.out.below hb H8.out.lt)
              replace P17 := Lib.hid (P17.out.below hb)
              replace H2 := Lib.hid (H2.out.below hb H2.out.lt)
              clear hb
              generalize X.heap.size = g1 at *
              generalize World.alloc X _ = X at *
              refine hK.out _ _ ⟨⟨HS.out.k1, HS.out.k2⟩, HS.out.k3, HS.out.k4⟩ (fun hH6 => ?_)
              clear hK K
              try simp only [List.setIfInBounds_toArray, List.set_cons_zero, List.set_cons_succ]
              refine wpAnyH_ready (rs := [7]) (by kernel_rfl) (by simp) ?_
              refine AllReadyH.cons (by simp only [List.getElem?_toArray, List.getElem?_cons_succ, List.getElem?_cons_zero]; rfl) (fun K hK => ?_) AllReadyH.nil
              go_simp
              refine (pairM_any _ g1 g2 H1.out H2.out).mono ?_
              rintro e X ⟨A19, c19, rfl, hp, hb⟩
              replace HS := Lib.hid (HS.out.call hb)
              have P19 := Lib.hid hp
              replace H5 := Lib.hid (H5.out.below hb H5.out.lt)
              replace H8 := Lib.hid (H8.out.below hb H8.out.lt)
              replace P17 := Lib.hid (P17.out.below hb)
              clear hb hp
              refine hK.out _ _ ⟨⟨HS.out.k1, HS.out.k2⟩, HS.out.k3, HS.out.k4⟩ (fun hH7 => ?_)
              clear hK K
              try simp only [List.setIfInBounds_toArray, List.set_cons_zero, List.set_cons_succ]
              refine wpAnyH_take (i := 8 ) (v := ?_) rfl (by kernel_rfl) (by kernel_rfl) (by kernel_rfl) (fun _ _ _ h => h) (Or.inl ⟨by rfl, ?_⟩) (by assumption) ?_; rotate_left; (· (intro w0 hSw; clear hSw; go_simp); first | done | with_reducible rfl); (try simp only [Act.put, List.getElem_toArray, List.getElem_cons_succ, List.getElem_cons_zero, List.setIfInBounds_toArray, List.set_cons_zero, List.set_cons_succ])
              refine wpAnyH_take (i := 9 ) (v := ?_) rfl (by kernel_rfl) (by kernel_rfl) (by kernel_rfl) (fun _ _ _ h => h) (Or.inl ⟨by rfl, ?_⟩) (by assumption) ?_; rotate_left; (· (intro w0 hSw; clear hSw; go_simp); first | done | with_reducible rfl); (try simp only [Act.put, List.getElem_toArray, List.getElem_cons_succ, List.getElem_cons_zero, List.setIfInBounds_toArray, List.set_cons_zero, List.set_cons_succ])
              refine wpAnyH_take (i := 10 ) (v := ?_) rfl (by kernel_rfl) (by kernel_rfl) (by kernel_rfl) (fun _ _ _ h => h) (Or.inl ⟨by rfl, ?_⟩) (by assumption) ?_; rotate_left; (· (intro w0 hSw; clear hSw; go_simp); first | done | with_reducible rfl); (try simp only [Act.put, List.getElem_toArray, List.getElem_cons_succ, List.getElem_cons_zero, List.setIfInBounds_toArray, List.set_cons_zero, List.set_cons_succ])
              refine wpAnyH_take (i := 11 ) (v := ?_) rfl (by kernel_rfl) (by kernel_rfl) (by kernel_rfl) (fun _ _ _ h => h) (Or.inl ⟨by rfl, ?_⟩) (by assumption) ?_; rotate_left; (· (intro w0 hSw; clear hSw; go_simp); first | done | with_reducible rfl); (try simp only [Act.put, List.getElem_toArray, List.getElem_cons_succ, List.getElem_cons_zero, List.setIfInBounds_toArray, List.set_cons_zero, List.set_cons_succ])
              refine wpAnyH_take (i := 12 ) (v := ?_) rfl (by kernel_rfl) (by kernel_rfl) (by kernel_rfl) (fun _ _ _ h => h) (Or.inl ⟨by rfl, ?_⟩) (by assumption) ?_; rotate_left; (· (intro w0 hSw; clear hSw; go_simp); first | done | with_reducible rfl); (try simp only [Act.put, List.getElem_toArray, List.getElem_cons_succ, List.getElem_cons_zero, List.setIfInBounds_toArray, List.set_cons_zero, List.set_cons_succ])
              refine wpAnyH_take (i := 13 ) (v := ?_) rfl (by kernel_rfl) (by kernel_rfl) (by kernel_rfl) (fun _ _ _ h => h) (Or.inl ⟨by rfl, ?_⟩) (by assumption) ?_; rotate_left; (· (intro w0 hSw; clear hSw; go_simp); first | done | with_reducible rfl); (try simp only [Act.put, List.getElem_toArray, List.getElem_cons_succ, List.getElem_cons_zero, List.setIfInBounds_toArray, List.set_cons_zero, List.set_cons_succ])
              refine wpAnyH_take (i := 14 ) (v := ?_) rfl (by kernel_rfl) (by kernel_rfl) (by kernel_rfl) (fun _ _ _ h => h) (Or.inl ⟨by rfl, ?_⟩) (by assumption) ?_; rotate_left; (· (intro w0 hSw; clear hSw; go_simp); first | done | with_reducible rfl); (try simp only [Act.put, List.getElem_toArray, List.getElem_cons_succ, List.getElem_cons_zero, List.setIfInBounds_toArray, List.set_cons_zero, List.set_cons_succ])
              refine wpAnyH_done (by kernel_rfl) ?_ _
              go_wp2_with fail
              go_meet
              exact ⟨A19, c19, rfl, rfl, rfl, HS, H5, H8, P17, P19⟩
            exact AllReadyH.nil
          refine AllReadyH.cons (by simp only [List.getElem?_toArray, List.getElem?_cons_succ, List.getElem?_cons_zero]; rfl) (fun K hK => ?_) ?_
          · rw [if_pos (by rfl)]
            refine wp_bs 26 37 2 _ (by rfl) #[.int .i64 5000, .int .i64 5010, .int .i64 1010, .int .i64 1020, .int .i64 0, .int .i64 4, .int .i64 1, .int .i64 2, .int .i64 4900, .int .i64 4910, .int .i64 1010, .int .i64 1020, .int .i64 0, .int .i64 4, .int .i64 1, .int .i64 2] [.agg #[.int .i64 5000, .int .i64 5010, .int .i64 1010, .int .i64 1020, .int .i64 0, .int .i64 4, .int .i64 1, .int .i64 2], .agg #[.int .i64 4900, .int .i64 4910, .int .i64 1010, .int .i64 1020, .int .i64 0, .int .i64 4, .int .i64 1, .int .i64 2]] (.agg #[.int .i64 0, .int .i64 0, .int .i64 0, .int .i64 0, .int .i64 0, .int .i64 0, .int .i64 0, .int .i64 0]) 8 (by kernel_rfl) (by kernel_rfl) (by decide) (by rfl) (by rfl) (by rfl) (by rfl) ?_
            simp only [Act.put, List.setIfInBounds_toArray, List.set_cons_zero, List.set_cons_succ]
            have hb : Below V0.heap.size V0 (V0.alloc (.cells #[.int .i64 5000, .int .i64 5010, .int .i64 1010, .int .i64 1020, .int .i64 0, .int .i64 4, .int .i64 1, .int .i64 2, .int .i64 4900, .int .i64 4910, .int .i64 1010, .int .i64 1020, .int .i64 0, .int .i64 4, .int .i64 1, .int .i64 2] 37)) := (Below.refl _ _).alloc (Nat.le_refl _) _
            have H1 := Lib.hid (Blk.new V0 37 #[.int .i64 5000, .int .i64 5010, .int .i64 1010, .int .i64 1020, .int .i64 0, .int .i64 4, .int .i64 1, .int .i64 2, .int .i64 4900, .int .i64 4910, .int .i64 1010, .int .i64 1020, .int .i64 0, .int .i64 4, .int .i64 1, .int .i64 2])
            have hg1 : q + 1 + 1 + 1 < V0.heap.size := HS.out.k4.lt
            replace HS := Lib.hid (HS.out.call hb)
            replace H5 := Lib.hid (H5.out.below hb H5.out.lt)
            replace H8 := Lib.hid (H8.out.below hb H8.out.lt)
            replace P17 := Lib.hid (P17.out.below hb)
            clear hb
            generalize V0.heap.size = g1 at *
            generalize World.alloc V0 _ = X at *
            refine hK.out _ _ ⟨⟨HS.out.k1, HS.out.k2⟩, HS.out.k3, HS.out.k4⟩ (fun hH8 => ?_)
            clear hK K
            try simp only [List.setIfInBounds_toArray, List.set_cons_zero, List.set_cons_succ]
            refine wpAnyH_ready (rs := [0, 6]) (by kernel_rfl) (by simp) ?_
            refine AllReadyH.cons (by simp only [List.getElem?_toArray, List.getElem?_cons_zero]; rfl) (fun K hK => ?_) ?_
            · go_simp
              refine (jig45_any _).mono ?_
              rintro e X ⟨rfl, hb⟩
              replace HS := Lib.hid (HS.out.call hb)
              replace H5 := Lib.hid (H5.out.below hb H5.out.lt)
              replace H8 := Lib.hid (H8.out.below hb H8.out.lt)
              replace P17 := Lib.hid (P17.out.below hb)
              replace H1 := Lib.hid (H1.out.below hb H1.out.lt)
              clear hb
              refine hK.out _ _ ⟨⟨HS.out.k1, HS.out.k2⟩, HS.out.k3, HS.out.k4⟩ (fun hH9 => ?_)
              clear hK K
              try simp only [List.setIfInBounds_toArray, List.set_cons_zero]
              refine wpAnyH_ready (rs := [6]) (by kernel_rfl) (by simp) ?_
              refine AllReadyH.cons (by simp only [List.getElem?_toArray, List.getElem?_cons_succ, List.getElem?_cons_zero]; rfl) (fun K hK => ?_) AllReadyH.nil
              rw [if_pos (by rfl)]
              refine wp_bs 26 37 2 _ (by rfl) #[.int .i64 4980, .int .i64 4990, .int .i64 1000, .int .i64 1010, .int .i64 (-2), .int .i64 2, .int .i64 0, .int .i64 1, .int .i64 4880, .int .i64 4890, .int .i64 1000, .int .i64 1010, .int .i64 (-2), .int .i64 2, .int .i64 0, .int .i64 1] [.agg #[.int .i64 4980, .int .i64 4990, .int .i64 1000, .int .i64 1010, .int .i64 (-2), .int .i64 2, .int .i64 0, .int .i64 1], .agg #[.int .i64 4880, .int .i64 4890, .int .i64 1000, .int .i64 1010, .int .i64 (-2), .int .i64 2, .int .i64 0, .int .i64 1]] (.agg #[.int .i64 0, .int .i64 0, .int .i64 0, .int .i64 0, .int .i64 0, .int .i64 0, .int .i64 0, .int .i64 0]) 8 (by kernel_rfl) (by kernel_rfl) (by decide) (by rfl) (by rfl) (by rfl) (by rfl) ?_
              simp only [Act.put, List.setIfInBounds_toArray, List.set_cons_zero, List.set_cons_succ]
              have hb : Below X.heap.size X (X.alloc (.cells #[.int .i64 4980, .int .i64 4990, .int .i64 1000, .int .i64 1010, .int .i64 (-2), .int .i64 2, .int .i64 0, .int .i64 1, .int .i64 4880, .int .i64 4890, .int .i64 1000, .int .i64 1010, .int .i64 (-2), .int .i64 2, .int .i64 0, .int .i64 1] 37)) := (Below.refl _ _).alloc (Nat.le_refl _) _
              have H2 := Lib.hid (Blk.new X 37 #[.int .i64 4980, .int .i64 4990, .int .i64 1000, .int .i64 1010, .int .i64 (-2), .int .i64 2, .int .i64 0, .int .i64 1, .int .i64 4880, .int .i64 4890, .int .i64 1000, .int .i64 1010, .int .i64 (-2), .int .i64 2, .int .i64 0, .int .i64 1])
              have hg2 : q + 1 + 1 + 1 < X.heap.size := HS.out.k4.lt
              replace HS := Lib.hid (HS.out.call hb)
              replace H5 := Lib.hid (H5.out.below hb H5.out.lt)
              replace H8 := Lib.hid (H8.out.below hb H8.out.lt)
              replace P17 := Lib.hid (P17.out.below hb)
              replace H1 := Lib.hid (H1.out.below hb H1.out.lt)
              clear hb
              generalize X.heap.size = g2 at *
              generalize World.alloc X _ = X at *
              refine hK.out _ _ ⟨⟨HS.out.k1, HS.out.k2⟩, HS.out.k3, HS.out.k4⟩ (fun hH10 => ?_)
              clear hK K
              try simp only [List.setIfInBounds_toArray, List.set_cons_zero, List.set_cons_succ]
              refine wpAnyH_ready (rs := [7]) (by kernel_rfl) (by simp) ?_
              refine AllReadyH.cons (by simp only [List.getElem?_toArray, List.getElem?_cons_succ, List.getElem?_cons_zero]; rfl) (fun K hK => ?_) AllReadyH.nil
              go_simp
              refine (pairM_any _ g1 g2 H1.out H2.out).mono ?_
              rintro e X ⟨A19, c19, rfl, hp, hb⟩
              replace HS := Lib.hid (HS.out.call hb)
              have P19 := Lib.hid hp
              replace H5 := Lib.hid (H5.out.below hb H5.out.lt)
              replace H8 := Lib.hid (H8.out.below hb H8.out.lt)
              replace P17 := Lib.hid (P17.out.below hb)
              clear hb hp
              refine hK.out _ _ ⟨⟨HS.out.k1, HS.out.k2⟩, HS.out.k3, HS.out.k4⟩ (fun hH11 => ?_)
              clear hK K
              try simp only [List.setIfInBounds_toArray, List.set_cons_zero, List.set_cons_succ]
              refine wpAnyH_take (i := 8 ) (v := ?_) rfl (by kernel_rfl) (by kernel_rfl) (by kernel_rfl) (fun _ _ _ h => h) (Or.inl ⟨by rfl, ?_⟩) (by assumption) ?_; rotate_left; (· (intro w0 hSw; clear hSw; go_simp); first | done | with_reducible rfl); (try simp only [Act.put, List.getElem_toArray, List.getElem_cons_succ, List.getElem_cons_zero, List.setIfInBounds_toArray, List.set_cons_zero, List.set_cons_succ])
              refine wpAnyH_take (i := 9 ) (v := ?_) rfl (by kernel_rfl) (by kernel_rfl) (by kernel_rfl) (fun _ _ _ h => h) (Or.inl ⟨by rfl, ?_⟩) (by assumption) ?_; rotate_left; (· (intro w0 hSw; clear hSw; go_simp); first | done | with_reducible rfl); (try simp only [Act.put, List.getElem_toArray, List.getElem_cons_succ, List.getElem_cons_zero, List.setIfInBounds_toArray, List.set_cons_zero, List.set_cons_succ])
              refine wpAnyH_take (i := 10 ) (v := ?_) rfl (by kernel_rfl) (by kernel_rfl) (by kernel_rfl) (fun _ _ _ h => h) (Or.inl ⟨by rfl, ?_⟩) (by assumption) ?_; rotate_left; (· (intro w0 hSw; clear hSw; go_simp); first | done | with_reducible rfl); (try simp only [Act.put, List.getElem_toArray, List.getElem_cons_succ, List.getElem_cons_zero, List.setIfInBounds_toArray, List.set_cons_zero, List.set_cons_succ])
              refine wpAnyH_take (i := 11 ) (v := ?_) rfl (by kernel_rfl) (by kernel_rfl) (by kernel_rfl) (fun _ _ _ h => h) (Or.inl ⟨by rfl, ?_⟩) (by assumption) ?_; rotate_left; (· (intro w0 hSw; clear hSw; go_simp); first | done | with_reducible rfl); (try simp only [Act.put, List.getElem_toArray, List.getElem_cons_succ, List.getElem_cons_zero, List.setIfInBounds_toArray, List.set_cons_zero, List.set_cons_succ])
              refine wpAnyH_take (i := 12 ) (v := ?_) rfl (by kernel_rfl) (by kernel_rfl) (by kernel_rfl) (fun _ _ _ h => h) (Or.inl ⟨by rfl, ?_⟩) (by assumption) ?_; rotate_left; (· (intro w0 hSw; clear hSw; go_simp); first | done | with_reducible rfl); (try simp only [Act.put, List.getElem_toArray, List.getElem_cons_succ, List.getElem_cons_zero, List.setIfInBounds_toArray, List.set_cons_zero, List.set_cons_succ])
              refine wpAnyH_take (i := 13 ) (v := ?_) rfl (by kernel_rfl) (by kernel_rfl) (by kernel_rfl) (fun _ _ _ h => h) (Or.inl ⟨by rfl, ?_⟩) (by assumption) ?_; rotate_left; (· (intro w0 hSw; clear hSw; go_simp); first | done | with_reducible rfl); (try simp only [Act.put, List.getElem_toArray, List.getElem_cons_succ, List.getElem_cons_zero, List.setIfInBounds_toArray, List.set_cons_zero, List.set_cons_succ])
              refine wpAnyH_take (i := 14 ) (v := ?_) rfl (by kernel_rfl) (by kernel_rfl) (by kernel_rfl) (fun _ _ _ h => h) (Or.inl ⟨by rfl, ?_⟩) (by assumption) ?_; rotate_left; (· (intro w0 hSw; clear hSw; go_simp); first | done | with_reducible rfl); (try simp only [Act.put, List.getElem_toArray, List.getElem_cons_succ, List.getElem_cons_zero, List.setIfInBounds_toArray, List.set_cons_zero, List.set_cons_succ])
              refine wpAnyH_done (by kernel_rfl) ?_ _
              go_wp2_with fail
              go_meet
              exact ⟨A19, c19, rfl, rfl, rfl, HS, H5, H8, P17, P19⟩
            refine AllReadyH.cons (by simp only [List.getElem?_toArray, List.getElem?_cons_succ, List.getElem?_cons_zero]; rfl) (fun K hK => ?_) ?_
            · rw [if_pos (by rfl)]
              refine wp_bs 26 37 2 _ (by rfl) #[.int .i64 4980, .int .i64 4990, .int .i64 1000, .int .i64 1010, .int .i64 (-2), .int .i64 2, .int .i64 0, .int .i64 1, .int .i64 4880, .int .i64 4890, .int .i64 1000, .int .i64 1010, .int .i64 (-2), .int .i64 2, .int .i64 0, .int .i64 1] [.agg #[.int .i64 4980, .int .i64 4990, .int .i64 1000, .int .i64 1010, .int .i64 (-2), .int .i64 2, .int .i64 0, .int .i64 1], .agg #[.int .i64 4880, .int .i64 4890, .int .i64 1000, .int .i64 1010, .int .i64 (-2), .int .i64 2, .int .i64 0, .int .i64 1]] (.agg #[.int .i64 0, .int .i64 0, .int .i64 0, .int .i64 0, .int .i64 0, .int .i64 0, .int .i64 0, .int .i64 0]) 8 (by kernel_rfl) (by kernel_rfl) (by decide) (by rfl) (by rfl) (by rfl) (by rfl) ?_
              simp only [Act.put, List.setIfInBounds_toArray, List.set_cons_zero, List.set_cons_succ]
              have hb : Below X.heap.size X (X.alloc (.cells #[.int .i64 4980, .int .i64 4990, .int .i64 1000, .int .i64 1010, .int .i64 (-2), .int .i64 2, .int .i64 0, .int .i64 1, .int .i64 4880, .int .i64 4890, .int .i64 1000, .int .i64 1010, .int .i64 (-2), .int .i64 2, .int .i64 0, .int .i64 1] 37)) := (Below.refl _ _).alloc (Nat.le_refl _) _
              have H2 := Lib.hid (Blk.new X 37 #[.int .i64 4980, .int .i64 4990, .int .i64 1000, .int .i64 1010, .int .i64 (-2), .int .i64 2, .int .i64 0, .int .i64 1, .int .i64 4880, .int .i64 4890, .int .i64 1000, .int .i64 1010, .int .i64 (-2), .int .i64 2, .int .i64 0, .int .i64 1])
              have hg2 : q + 1 + 1 + 1 < X.heap.size := HS.out.k4.lt
              replace HS := Lib.hid (HS.out.call hb)
              replace H5 := Lib.hid (H5.out.below hb H5.out.lt)
              replace H8 := Lib.hid (H8.out.below hb H8.out.lt)
              replace P17 := Lib.hid (P17.out.below hb)
              replace H1 := Lib.hid (H1.out.below hb H1.out.lt)
              clear hb
              generalize X.heap.size = g2 at *
              generalize World.alloc X _ = X at *
              refine hK.out _ _ ⟨⟨HS.out.k1, HS.out.k2⟩, HS.out.k3, HS.out.k4⟩ (fun hH12 => ?_)
              clear hK K
              try simp only [List.setIfInBounds_toArray, List.set_cons_zero, List.set_cons_succ]
              refine wpAnyH_ready (rs := [0]) (by kernel_rfl) (by simp) ?_
              refine AllReadyH.cons (by simp only [List.getElem?_toArray, List.getElem?_cons_zero]; rfl) (fun K hK => ?_) AllReadyH.nil
              go_simp
              refine (jig45_any _).mono ?_
              rintro e X ⟨rfl, hb⟩
              replace HS := Lib.hid (HS.out.call hb)
              replace H5 := Lib.hid (H5.out.below hb H5.out.lt)
              replace H8 := Lib.hid (H8.out.below hb H8.out.lt)
              replace P17 := Lib.hid (P17.out.below hb)
              replace H1 := Lib.hid (H1.out.below hb H1.out.lt)
              replace H2 := Lib.hid (H2.out.below hb H2.out.lt)
              clear hb
              refine hK.out _ _ ⟨⟨HS.out.k1, HS.out.k2⟩, HS.out.k3, HS.out.k4⟩ (fun hH13 => ?_)
              clear hK K
              try simp only [List.setIfInBounds_toArray, List.set_cons_zero]
              refine wpAnyH_ready (rs := [7]) (by kernel_rfl) (by simp) ?_
              refine AllReadyH.cons (by simp only [List.getElem?_toArray, List.getElem?_cons_succ, List.getElem?_cons_zero]; rfl) (fun K hK => ?_) AllReadyH.nil
              go_simp
              refine (pairM_any _ g1 g2 H1.out H2.out).mono ?_
              rintro e X ⟨A19, c19, rfl, hp, hb⟩
              replace HS := Lib.hid (HS.out.call hb)
              have P19 := Lib.hid hp
              replace H5 := Lib.hid (H5.out.below hb H5.out.lt)
              replace H8 := Lib.hid (H8.out.below hb H8.out.lt)
              replace P17 := Lib.hid (P17.out.below hb)
              clear hb hp
              refine hK.out _ _ ⟨⟨HS.out.k1, HS.out.k2⟩, HS.out.k3, HS.out.k4⟩ (fun hH14 => ?_)
              clear hK K
              try simp only [List.setIfInBounds_toArray, List.set_cons_zero, List.set_cons_succ]
              refine wpAnyH_take (i := 8 ) (v := ?_) rfl (by kernel_rfl) (by kernel_rfl) (by kernel_rfl) (fun _ _ _ h => h) (Or.inl ⟨by rfl, ?_⟩) (by assumption) ?_; rotate_left; (· (intro w0 hSw; clear hSw; go_simp); first | done | with_reducible rfl); (try simp only [Act.put, List.getElem_toArray, List.getElem_cons_succ, List.getElem_cons_zero, List.setIfInBounds_toArray, List.set_cons_zero, List.set_cons_succ])
              refine wpAnyH_take (i := 9 ) (v := ?_) rfl (by kernel_rfl) (by kernel_rfl) (by kernel_rfl) (fun _ _ _ h => h) (Or.inl ⟨by rfl, ?_⟩) (by assumption) ?_; rotate_left; (· (intro w0 hSw; clear hSw; go_simp); first | done | with_reducible rfl); (try simp only [Act.put, List.getElem_toArray, List.getElem_cons_succ, List.getElem_cons_zero, List.setIfInBounds_toArray, List.set_cons_zero, List.set_cons_succ])
              refine wpAnyH_take (i := 10 ) (v := ?_) rfl (by kernel_rfl) (by kernel_rfl) (by kernel_rfl) (fun _ _ _ h => h) (Or.inl ⟨by rfl, ?_⟩) (by assumption) ?_; rotate_left; (· (intro w0 hSw; clear hSw; go_simp); first | done | with_reducible rfl); (try simp only [Act.put, List.getElem_toArray, List.getElem_cons_succ, List.getElem_cons_zero, List.setIfInBounds_toArray, List.set_cons_zero, List.set_cons_succ])
              refine wpAnyH_take (i := 11 ) (v := ?_) rfl (by kernel_rfl) (by kernel_rfl) (by kernel_rfl) (fun _ _ _ h => h) (Or.inl ⟨by rfl, ?_⟩) (by assumption) ?_; rotate_left; (· (intro w0 hSw; clear hSw; go_simp); first | done | with_reducible rfl); (try simp only [Act.put, List.getElem_toArray, List.getElem_cons_succ, List.getElem_cons_zero, List.setIfInBounds_toArray, List.set_cons_zero, List.set_cons_succ])
              refine wpAnyH_take (i := 12 ) (v := ?_) rfl (by kernel_rfl) (by kernel_rfl) (by kernel_rfl) (fun _ _ _ h => h) (Or.inl ⟨by rfl, ?_⟩) (by assumption) ?_; rotate_left; (· (intro w0 hSw; clear hSw; go_simp); first | done | with_reducible rfl); (try simp only [Act.put, List.getElem_toArray, List.getElem_cons_succ, List.getElem_cons_zero, List.setIfInBounds_toArray, List.set_cons_zero, List.set_cons_succ])
              refine wpAnyH_take (i := 13 ) (v := ?_) rfl (by kernel_rfl) (by kernel_rfl) (by kernel_rfl) (fun _ _ _ h => h) (Or.inl ⟨by rfl, ?_⟩) (by assumption) ?_; rotate_left; (· (intro w0 hSw; clear hSw; go_simp); first | done | with_reducible rfl); (try simp only [Act.put, List.getElem_toArray, List.getElem_cons_succ, List.getElem_cons_zero, List.setIfInBounds_toArray, List.set_cons_zero, List.set_cons_succ])
              refine wpAnyH_take (i := 14 ) (v := ?_) rfl (by kernel_rfl) (by kernel_rfl) (by kernel_rfl) (fun _ _ _ h => h) (Or.inl ⟨by rfl, ?_⟩) (by assumption) ?_; rotate_left; (· (intro w0 hSw; clear hSw; go_simp); first | done | with_reducible rfl); (try simp only [Act.put, List.getElem_toArray, List.getElem_cons_succ, List.getElem_cons_zero, List.setIfInBounds_toArray, List.set_cons_zero, List.set_cons_succ])
              refine wpAnyH_done (by kernel_rfl) ?_ _
              go_wp2_with fail
              go_meet
              exact ⟨A19, c19, rfl, rfl, rfl, HS, H5, H8, P17, P19⟩
            exact AllReadyH.nil
          refine AllReadyH.cons (by simp only [List.getElem?_toArray, List.getElem?_cons_succ, List.getElem?_cons_zero]; rfl) (fun K hK => ?_) ?_
          · rw [if_pos (by rfl)]
            refine wp_bs 26 37 2 _ (by rfl) #[.int .i64 4980, .int .i64 4990, .int .i64 1000, .int .i64 1010, .int .i64 (-2), .int .i64 2, .int .i64 0, .int .i64 1, .int .i64 4880, .int .i64 4890, .int .i64 1000, .int .i64 1010, .int .i64 (-2), .int .i64 2, .int .i64 0, .int .i64 1] [.agg #[.int .i64 4980, .int .i64 4990, .int .i64 1000, .int .i64 1010, .int .i64 (-2), .int .i64 2, .int .i64 0, .int .i64 1], .agg #[.int .i64 4880, .int .i64 4890, .int .i64 1000, .int .i64 1010, .int .i64 (-2), .int .i64 2, .int .i64 0, .int .i64 1]] (.agg #[.int .i64 0, .int .i64 0, .int .i64 0, .int .i64 0, .int .i64 0, .int .i64 0, .int .i64 0, .int .i64 0]) 8 (by kernel_rfl) (by kernel_rfl) (by decide) (by rfl) (by rfl) (by rfl) (by rfl) ?_
            simp only [Act.put, List.setIfInBounds_toArray, List.set_cons_zero, List.set_cons_succ]
            have hb : Below V0.heap.size V0 (V0.alloc (.cells #[.int .i64 4980, .int .i64 4990, .int .i64 1000, .int .i64 1010, .int .i64 (-2), .int .i64 2, .int .i64 0, .int .i64 1, .int .i64 4880, .int .i64 4890, .int .i64 1000, .int .i64 1010, .int .i64 (-2), .int .i64 2, .int .i64 0, .int .i64 1] 37)) := (Below.refl _ _).alloc (Nat.le_refl _) _
            have H2 := Lib.hid (Blk.new V0 37 #[.int .i64 4980, .int .i64 4990, .int .i64 1000, .int .i64 1010, .int .i64 (-2), .int .i64 2, .int .i64 0, .int .i64 1, .int .i64 4880, .int .i64 4890, .int .i64 1000, .int .i64 1010, .int .i64 (-2), .int .i64 2, .int .i64 0, .int .i64 1])
            have hg2 : q + 1 + 1 + 1 < V0.heap.size := HS.out.k4.lt
            replace HS := Lib.hid (HS.out.call hb)
            replace H5 := Lib.hid (H5.out.below hb H5.out.lt)
            replace H8 := Lib.hid (H8.out.below hb H8.out.lt)
            replace P17 := Lib.hid (P17.out.below hb)
            clear hb
            generalize V0.heap.size = g2 at *
            generalize World.alloc V0 _ = X at *
            refine hK.out _ _ ⟨⟨HS.out.k1, HS.out.k2⟩, HS.out.k3, HS.out.k4⟩ (fun hH15 => ?_)
            clear hK K
            try simp only [List.setIfInBounds_toArray, List.set_cons_zero, List.set_cons_succ]
            refine wpAnyH_ready (rs := [0, 3]) (by kernel_rfl) (by simp) ?_
            refine AllReadyH.cons (by simp only [List.getElem?_toArray, List.getElem?_cons_zero]; rfl) (fun K hK => ?_) ?_
            · go_simp
              refine (jig45_any _).mono ?_
              rintro e X ⟨rfl, hb⟩
              replace HS := Lib.hid (HS.out.call hb)
              replace H5 := Lib.hid (H5.out.below hb H5.out.lt)
              replace H8 := Lib.hid (H8.out.below hb H8.out.lt)
              replace P17 := Lib.hid (P17.out.below hb)
              replace H2 := Lib.hid (H2.out.below hb H2.out.lt)
              clear hb
              refine hK.out _ _ ⟨⟨HS.out.k1, HS.out.k2⟩, HS.out.k3, HS.out.k4⟩ (fun hH16 => ?_)
              clear hK K
              try simp only [List.setIfInBounds_toArray, List.set_cons_zero]
              refine wpAnyH_ready (rs := [3]) (by kernel_rfl) (by simp) ?_
              refine AllReadyH.cons (by simp only [List.getElem?_toArray, List.getElem?_cons_succ, List.getElem?_cons_zero]; rfl) (fun K hK => ?_) AllReadyH.nil
              rw [if_pos (by rfl)]
              refine wp_bs 26 37 2 _ (by rfl) #[.int .i64 5000, .int .i64 5010, .int .i64 1010, .int .i64 1020, .int .i64 0, .int .i64 4, .int .i64 1, .int .i64 2, .int .i64 4900, .int .i64 4910, .int .i64 1010, .int .i64 1020, .int .i64 0, .int .i64 4, .int .i64 1, .int .i64 2] [.agg #[.int .i64 5000, .int .i64 5010, .int .i64 1010, .int .i64 1020, .int .i64 0, .int .i64 4, .int .i64 1, .int .i64 2], .agg #[.int .i64 4900, .int .i64 4910, .int .i64 1010, .int .i64 1020, .int .i64 0, .int .i64 4, .int .i64 1, .int .i64 2]] (.agg #[.int .i64 0, .int .i64 0, .int .i64 0, .int .i64 0, .int .i64 0, .int .i64 0, .int .i64 0, .int .i64 0]) 8 (by kernel_rfl) (by kernel_rfl) (by decide) (by rfl) (by rfl) (by rfl) (by rfl) ?_
              simp only [Act.put, List.setIfInBounds_toArray, List.set_cons_zero, List.set_cons_succ]
              have hb : Below X.heap.size X (X.alloc (.cells #[.int .i64 5000, .int .i64 5010, .int .i64 1010, .int .i64 1020, .int .i64 0, .int .i64 4, .int .i64 1, .int .i64 2, .int .i64 4900, .int .i64 4910, .int .i64 1010, .int .i64 1020, .int .i64 0, .int .i64 4, .int .i64 1, .int .i64 2] 37)) := (Below.refl _ _).alloc (Nat.le_refl _) _
              have H1 := Lib.hid (Blk.new X 37 #[.int .i64 5000, .int .i64 5010, .int .i64 1010, .int .i64 1020, .int .i64 0, .int .i64 4, .int .i64 1, .int .i64 2, .int .i64 4900, .int .i64 4910, .int .i64 1010, .int .i64 1020, .int .i64 0, .int .i64 4, .int .i64 1, .int .i64 2])
              have hg1 : q + 1 + 1 + 1 < X.heap.size := HS.out.k4.lt
              replace HS := Lib.hid (HS.out.call hb)
              replace H5 := Lib.hid (H5.out.below hb H5.out.lt)
              replace H8 := Lib.hid (H8.out.below hb H8.out.lt)
              replace P17 := Lib.hid (P17.out.below hb)
              replace H2 := Lib.hid (H2.out.below hb H2.out.lt)
              clear hb
              generalize X.heap.size = g1 at *
              generalize World.alloc X _ = X at *
              refine hK.out _ _ ⟨⟨HS.out.k1, HS.out.k2⟩, HS.out.k3, HS.out.k4⟩ (fun hH17 => ?_)
              clear hK K
              try simp only [List.setIfInBounds_toArray, List.set_cons_zero, List.set_cons_succ]
              refine wpAnyH_ready (rs := [7]) (by kernel_rfl) (by simp) ?_
              refine AllReadyH.cons (by simp only [List.getElem?_toArray, List.getElem?_cons_succ, List.getElem?_cons_zero]; rfl) (fun K hK => ?_) AllReadyH.nil
              go_simp
              refine (pairM_any _ g1 g2 H1.out H2.out).mono ?_
              rintro e X ⟨A19, c19, rfl, hp, hb⟩
              replace HS := Lib.hid (HS.out.call hb)
              have P19 := Lib.hid hp
              replace H5 := Lib.hid (H5.out.below hb H5.out.lt)
              replace H8 := Lib.hid (H8.out.below hb H8.out.lt)
              replace P17 := Lib.hid (P17.out.below hb)
              clear hb hp
              refine hK.out _ _ ⟨⟨HS.out.k1, HS.out.k2⟩, HS.out.k3, HS.out.k4⟩ (fun hH18 => ?_)
              clear hK K
              try simp only [List.setIfInBounds_toArray, List.set_cons_zero, List.set_cons_succ]
              refine wpAnyH_take (i := 8 ) (v := ?_) rfl (by kernel_rfl) (by kernel_rfl) (by kernel_rfl) (fun _ _ _ h => h) (Or.inl ⟨by rfl, ?_⟩) (by assumption) ?_; rotate_left; (· (intro w0 hSw; clear hSw; go_simp); first | done | with_reducible rfl); (try simp only [Act.put, List.getElem_toArray, List.getElem_cons_succ, List.getElem_cons_zero, List.setIfInBounds_toArray, List.set_cons_zero, List.set_cons_succ])
              refine wpAnyH_take (i := 9 ) (v := ?_) rfl (by kernel_rfl) (by kernel_rfl) (by kernel_rfl) (fun _ _ _ h => h) (Or.inl ⟨by rfl, ?_⟩) (by assumption) ?_; rotate_left; (· (intro w0 hSw; clear hSw; go_simp); first | done | with_reducible rfl); (try simp only [Act.put, List.getElem_toArray, List.getElem_cons_succ, List.getElem_cons_zero, List.setIfInBounds_toArray, List.set_cons_zero, List.set_cons_succ])
              refine wpAnyH_take (i := 10 ) (v := ?_) rfl (by kernel_rfl) (by kernel_rfl) (by kernel_rfl) (fun _ _ _ h => h) (Or.inl ⟨by rfl, ?_⟩) (by assumption) ?_; rotate_left; (· (intro w0 hSw; clear hSw; go_simp); first | done | with_reducible rfl); (try simp only [Act.put, List.getElem_toArray, List.getElem_cons_succ, List.getElem_cons_zero, List.setIfInBounds_toArray, List.set_cons_zero, List.set_cons_succ])
              refine wpAnyH_take (i := 11 ) (v := ?_) rfl (by kernel_rfl) (by kernel_rfl) (by kernel_rfl) (fun _ _ _ h => h) (Or.inl ⟨by rfl, ?_⟩) (by assumption) ?_; rotate_left; (· (intro w0 hSw; clear hSw; go_simp); first | done | with_reducible rfl); (try simp only [Act.put, List.getElem_toArray, List.getElem_cons_succ, List.getElem_cons_zero, List.setIfInBounds_toArray, List.set_cons_zero, List.set_cons_succ])
              refine wpAnyH_take (i := 12 ) (v := ?_) rfl (by kernel_rfl) (by kernel_rfl) (by kernel_rfl) (fun _ _ _ h => h) (Or.inl ⟨by rfl, ?_⟩) (by assumption) ?_; rotate_left; (· (intro w0 hSw; clear hSw; go_simp); first | done | with_reducible rfl); (try simp only [Act.put, List.getElem_toArray, List.getElem_cons_succ, List.getElem_cons_zero, List.setIfInBounds_toArray, List.set_cons_zero, List.set_cons_succ])
              refine wpAnyH_take (i := 13 ) (v := ?_) rfl (by kernel_rfl) (by kernel_rfl) (by kernel_rfl) (fun _ _ _ h => h) (Or.inl ⟨by rfl, ?_⟩) (by assumption) ?_; rotate_left; (· (intro w0 hSw; clear hSw; go_simp); first | done | with_reducible rfl); (try simp only [Act.put, List.getElem_toArray, List.getElem_cons_succ, List.getElem_cons_zero, List.setIfInBounds_toArray, List.set_cons_zero, List.set_cons_succ])
              refine wpAnyH_take (i := 14 ) (v := ?_) rfl (by kernel_rfl) (by kernel_rfl) (by kernel_rfl) (fun _ _ _ h => h) (Or.inl ⟨by rfl, ?_⟩) (by assumption) ?_; rotate_left; (· (intro w0 hSw; clear hSw; go_simp); first | done | with_reducible rfl); (try simp only [Act.put, List.getElem_toArray, List.getElem_cons_succ, List.getElem_cons_zero, List.setIfInBounds_toArray, List.set_cons_zero, List.set_cons_succ])
              refine wpAnyH_done (by kernel_rfl) ?_ _
              go_wp2_with fail
              go_meet
              exact ⟨A19, c19, rfl, rfl, rfl, HS, H5, H8, P17, P19⟩
            refine AllReadyH.cons (by simp only [List.getElem?_toArray, List.getElem?_cons_succ, List.getElem?_cons_zero]; rfl) (fun K hK => ?_) ?_
            · rw [if_pos (by rfl)]
              refine wp_bs 26 37 2 _ (by rfl) #[.int .i64 5000, .int .i64 5010, .int .i64 1010, .int .i64 1020, .int .i64 0, .int .i64 4, .int .i64 1, .int .i64 2, .int .i64 4900, .int .i64 4910, .int .i64 1010, .int .i64 1020, .int .i64 0, .int .i64 4, .int .i64 1, .int .i64 2] [.agg #[.int .i64 5000, .int .i64 5010, .int .i64 1010, .int .i64 1020, .int .i64 0, .int .i64 4, .int .i64 1, .int .i64 2], .agg #[.int .i64 4900, .int .i64 4910, .int .i64 1010, .int .i64 1020, .int .i64 0, .int .i64 4, .int .i64 1, .int .i64 2]] (.agg #[.int .i64 0, .int .i64 0, .int .i64 0, .int .i64 0, .int .i64 0, .int .i64 0, .int .i64 0, .int .i64 0]) 8 (by kernel_rfl) (by kernel_rfl) (by decide) (by rfl) (by rfl) (by rfl) (by rfl) ?_
              simp only [Act.put, List.setIfInBounds_toArray, List.set_cons_zero, List.set_cons_succ]
              have hb : Below X.heap.size X (X.alloc (.cells #[.int .i64 5000, .int .i64 5010, .int .i64 1010, .int .i64 1020, .int .i64 0, .int .i64 4, .int .i64 1, .int .i64 2, .int .i64 4900, .int .i64 4910, .int .i64 1010, .int .i64 1020, .int .i64 0, .int .i64 4, .int .i64 1, .int .i64 2] 37)) := (Below.refl _ _).alloc (Nat.le_refl _) _
              have H1 := Lib.hid (Blk.new X 37 #[.int .i64 5000, .int .i64 5010, .int .i64 1010, .int .i64 1020, .int .i64 0, .int .i64 4, .int .i64 1, .int .i64 2, .int .i64 4900, .int .i64 4910, .int .i64 1010, .int .i64 1020, .int .i64 0, .int .i64 4, .int .i64 1, .int .i64 2])
              have hg1 : q + 1 + 1 + 1 < X.heap.size := HS.out.k4.lt
              replace HS := Lib.hid (HS.out.call hb)
              replace H5 := Lib.hid (H5.out.below hb H5.out.lt)
              replace H8 := Lib.hid (H8.out.below hb H8.out.lt)
              replace P17 := Lib.hid (P17.out.below hb)
              replace H2 := Lib.hid (H2.out.below hb H2.out.lt)
              clear hb
              generalize X.heap.size = g1 at *
              generalize World.alloc X _ = X at *
              refine hK.out _ _ ⟨⟨HS.out.k1, HS.out.k2⟩, HS.out.k3, HS.out.k4⟩ (fun hH19 => ?_)
              clear hK K
              try simp only [List.setIfInBounds_toArray, List.set_cons_zero, List.set_cons_succ]
              refine wpAnyH_ready (rs := [0]) (by kernel_rfl) (by simp) ?_
              refine AllReadyH.cons (by simp only [List.getElem?_toArray, List.getElem?_cons_zero]; rfl) (fun K hK => ?_) AllReadyH.nil
              go_simp
              refine (jig45_any _).mono ?_
              rintro e X ⟨rfl, hb⟩
              replace HS := Lib.hid (HS.out.call hb)
              replace H5 := Lib.hid (H5.out.below hb H5.out.lt)
              replace H8 := Lib.hid (H8.out.below hb H8.out.lt)
              replace P17 := Lib.hid (P17.out.below hb)
              replace H1 := Lib.hid (H1.out.below hb H1.out.lt)
              replace H2 := Lib.hid (H2.out.below hb H2.out.lt)
              clear hb
              refine hK.out _ _ ⟨⟨HS.out.k1, HS.out.k2⟩, HS.out.k3, HS.out.k4⟩ (fun hH20 => ?_)
              clear hK K
              try simp only [List.setIfInBounds_toArray, List.set_cons_zero]
              refine wpAnyH_ready (rs := [7]) (by kernel_rfl) (by simp) ?_
              refine AllReadyH.cons (by simp only [List.getElem?_toArray, List.getElem?_cons_succ, List.getElem?_cons_zero]; rfl) (fun K hK => ?_) AllReadyH.nil
              go_simp
              refine (pairM_any _ g1 g2 H1.out H2.out).mono ?_
              rintro e X ⟨A19, c19, rfl, hp, hb⟩
              replace HS := Lib.hid (HS.out.call hb)
              have P19 := Lib.hid hp
              replace H5 := Lib.hid (H5.out.below hb H5.out.lt)
              replace H8 := Lib.hid (H8.out.below hb H8.out.lt)
              replace P17 := Lib.hid (P17.out.below hb)
              clear hb hp
              refine hK.out _ _ ⟨⟨HS.out.k1, HS.out.k2⟩, HS.out.k3, HS.out.k4⟩ (fun hH21 => ?_)
              clear hK K
              try simp only [List.setIfInBounds_toArray, List.set_cons_zero, List.set_cons_succ]
              refine wpAnyH_take (i := 8 ) (v := ?_) rfl (by kernel_rfl) (by kernel_rfl) (by kernel_rfl) (fun _ _ _ h => h) (Or.inl ⟨by rfl, ?_⟩) (by assumption) ?_; rotate_left; (· (intro w0 hSw; clear hSw; go_simp); first | done | with_reducible rfl); (try simp only [Act.put, List.getElem_toArray, List.getElem_cons_succ, List.getElem_cons_zero, List.setIfInBounds_toArray, List.set_cons_zero, List.set_cons_succ])
              refine wpAnyH_take (i := 9 ) (v := ?_) rfl (by kernel_rfl) (by kernel_rfl) (by kernel_rfl) (fun _ _ _ h => h) (Or.inl ⟨by rfl, ?_⟩) (by assumption) ?_; rotate_left; (· (intro w0 hSw; clear hSw; go_simp); first | done | with_reducible rfl); (try simp only [Act.put, List.getElem_toArray, List.getElem_cons_succ, List.getElem_cons_zero, List.setIfInBounds_toArray, List.set_cons_zero, List.set_cons_succ])
              refine wpAnyH_take (i := 10 ) (v := ?_) rfl (by kernel_rfl) (by kernel_rfl) (by kernel_rfl) (fun _ _ _ h => h) (Or.inl ⟨by rfl, ?_⟩) (by assumption) ?_; rotate_left; (· (intro w0 hSw; clear hSw; go_simp); first | done | with_reducible rfl); (try simp only [Act.put, List.getElem_toArray, List.getElem_cons_succ, List.getElem_cons_zero, List.setIfInBounds_toArray, List.set_cons_zero, List.set_cons_succ])
              refine wpAnyH_take (i := 11 ) (v := ?_) rfl (by kernel_rfl) (by kernel_rfl) (by kernel_rfl) (fun _ _ _ h => h) (Or.inl ⟨by rfl, ?_⟩) (by assumption) ?_; rotate_left; (· (intro w0 hSw; clear hSw; go_simp); first | done | with_reducible rfl); (try simp only [Act.put, List.getElem_toArray, List.getElem_cons_succ, List.getElem_cons_zero, List.setIfInBounds_toArray, List.set_cons_zero, List.set_cons_succ])
              refine wpAnyH_take (i := 12 ) (v := ?_) rfl (by kernel_rfl) (by kernel_rfl) (by kernel_rfl) (fun _ _ _ h => h) (Or.inl ⟨by rfl, ?_⟩) (by assumption) ?_; rotate_left; (· (intro w0 hSw; clear hSw; go_simp); first | done | with_reducible rfl); (try simp only [Act.put, List.getElem_toArray, List.getElem_cons_succ, List.getElem_cons_zero, List.setIfInBounds_toArray, List.set_cons_zero, List.set_cons_succ])
              refine wpAnyH_take (i := 13 ) (v := ?_) rfl (by kernel_rfl) (by kernel_rfl) (by kernel_rfl) (fun _ _ _ h => h) (Or.inl ⟨by rfl, ?_⟩) (by assumption) ?_; rotate_left; (· (intro w0 hSw; clear hSw; go_simp); first | done | with_reducible rfl); (try simp only [Act.put, List.getElem_toArray, List.getElem_cons_succ, List.getElem_cons_zero, List.setIfInBounds_toArray, List.set_cons_zero, List.set_cons_succ])
              refine wpAnyH_take (i := 14 ) (v := ?_) rfl (by kernel_rfl) (by kernel_rfl) (by kernel_rfl) (fun _ _ _ h => h) (Or.inl ⟨by rfl, ?_⟩) (by assumption) ?_; rotate_left; (· (intro w0 hSw; clear hSw; go_simp); first | done | with_reducible rfl); (try simp only [Act.put, List.getElem_toArray, List.getElem_cons_succ, List.getElem_cons_zero, List.setIfInBounds_toArray, List.set_cons_zero, List.set_cons_succ])
              refine wpAnyH_done (by kernel_rfl) ?_ _
              go_wp2_with fail
              go_meet
              exact ⟨A19, c19, rfl, rfl, rfl, HS, H5, H8, P17, P19⟩
            exact AllReadyH.nil
          exact AllReadyH.nil
        case rest => as_aux_lemma =>
          obtain ⟨A19, c19, rfl, rfl, rfl, HS, H5, H8, P17, P19⟩ := hcut
          go_upto_region 10 with fail
          replace HS := Lib.hid (HS.out.call (Below.refl _ _).drew)
          replace H5 := Lib.hid (H5.out.below (Below.refl _ _).drew H5.out.lt)
          replace H8 := Lib.hid (H8.out.below (Below.refl _ _).drew H8.out.lt)
          replace P17 := Lib.hid (P17.out.below (Below.refl _ _).drew)
          replace P19 := Lib.hid (P19.out.below (Below.refl _ _).drew)
          refine wp_region_held_drew (S := fun W9 => Blk W9 g5 23 #[.int .i64 (-12), .int .i64 16] ∧ Blk W9 g8 23 #[.int .i64 (-10), .int .i64 22]) (by kernel_rfl) ⟨H5.out, H8.out⟩ (fun hH0 => ?_)
          generalize World.drew _ = V0 at *
          simp only [List.size_toArray, List.length_cons, List.length_nil, Nat.reduceAdd, Array.replicate_succ, Array.replicate_zero, List.push_toArray, List.nil_append, List.cons_append]
          refine wpAnyH_take (i := 0 ) (v := ?_) rfl (by kernel_rfl) (by kernel_rfl) (by kernel_rfl) (fun _ _ _ h => h) (Or.inl ⟨by rfl, ?_⟩) (by assumption) ?_; rotate_left; (· (intro w0 hSw; have a0 := hSw.1.cell 0; have a1 := hSw.1.cell 1; have b0 := hSw.2.cell 0; have b1 := hSw.2.cell 1; clear hSw; go_simp); first | done | with_reducible rfl); (try simp only [Act.put, List.getElem_toArray, List.getElem_cons_zero, List.setIfInBounds_toArray, List.set_cons_zero, List.set_cons_succ])
          refine wpAnyH_ready (rs := [1]) (by kernel_rfl) (by simp) ?_
          refine AllReadyH.cons (by simp only [List.getElem?_toArray, List.getElem?_cons_succ, List.getElem?_cons_zero]; rfl) (fun K hK => ?_) AllReadyH.nil
          go_simp
          refine (alive05_any _).mono ?_
          rintro e X ⟨rfl, hb⟩
          replace HS := Lib.hid (HS.out.call hb)
          replace H5 := Lib.hid (H5.out.below hb H5.out.lt)
          replace H8 := Lib.hid (H8.out.below hb H8.out.lt)
          replace P17 := Lib.hid (P17.out.below hb)
          replace P19 := Lib.hid (P19.out.below hb)
          clear hb
          refine hK.out _ _ ⟨H5.out, H8.out⟩ (fun hH1 => ?_)
          clear hK K
          try simp only [List.setIfInBounds_toArray, List.set_cons_zero, List.set_cons_succ]
          refine wpAnyH_take (i := 2 ) (v := ?_) rfl (by kernel_rfl) (by kernel_rfl) (by kernel_rfl) (fun _ _ _ h => h) (Or.inl ⟨by rfl, ?_⟩) (by assumption) ?_; rotate_left; (· (intro w0 hSw; have a0 := hSw.1.cell 0; have a1 := hSw.1.cell 1; have b0 := hSw.2.cell 0; have b1 := hSw.2.cell 1; clear hSw; go_simp); first | done | with_reducible rfl); (try simp only [Act.put, List.getElem_toArray, List.getElem_cons_succ, List.getElem_cons_zero, List.setIfInBounds_toArray, List.set_cons_zero, List.set_cons_succ])
          refine wpAnyH_take (i := 3 ) (v := ?_) rfl (by kernel_rfl) (by kernel_rfl) (by kernel_rfl) (fun _ _ _ h => h) (Or.inl ⟨by rfl, ?_⟩) (by assumption) ?_; rotate_left; (· (intro w0 hSw; have a0 := hSw.1.cell 0; have a1 := hSw.1.cell 1; have b0 := hSw.2.cell 0; have b1 := hSw.2.cell 1; clear hSw; go_simp); first | done | with_reducible rfl); (try simp only [Act.put, List.getElem_toArray, List.getElem_cons_succ, List.getElem_cons_zero, List.setIfInBounds_toArray, List.set_cons_zero, List.set_cons_succ])
          refine wpAnyH_take (i := 4 ) (v := ?_) rfl (by kernel_rfl) (by kernel_rfl) (by kernel_rfl) (fun _ _ _ h => h) (Or.inl ⟨by rfl, ?_⟩) (by assumption) ?_; rotate_left; (· (intro w0 hSw; have a0 := hSw.1.cell 0; have a1 := hSw.1.cell 1; have b0 := hSw.2.cell 0; have b1 := hSw.2.cell 1; clear hSw; go_simp); first | done | with_reducible rfl); (try simp only [Act.put, List.getElem_toArray, List.getElem_cons_succ, List.getElem_cons_zero, List.setIfInBounds_toArray, List.set_cons_zero, List.set_cons_succ])
          refine wpAnyH_ready (rs := [5]) (by kernel_rfl) (by simp) ?_
          refine AllReadyH.cons (by simp only [List.getElem?_toArray, List.getElem?_cons_succ, List.getElem?_cons_zero]; rfl) (fun K hK => ?_) AllReadyH.nil
          go_simp
          refine (span46_any _ _ _).mono ?_
          rintro e X ⟨rfl, hb⟩
          replace HS := Lib.hid (HS.out.call hb)
          replace H5 := Lib.hid (H5.out.below hb H5.out.lt)
          replace H8 := Lib.hid (H8.out.below hb H8.out.lt)
          replace P17 := Lib.hid (P17.out.below hb)
          replace P19 := Lib.hid (P19.out.below hb)
          clear hb
          refine hK.out _ _ ⟨H5.out, H8.out⟩ (fun hH2 => ?_)
          clear hK K
          try simp only [List.setIfInBounds_toArray, List.set_cons_zero, List.set_cons_succ]
          refine wpAnyH_take (i := 6 ) (v := ?_) rfl (by kernel_rfl) (by kernel_rfl) (by kernel_rfl) (fun _ _ _ h => h) (Or.inl ⟨by rfl, ?_⟩) (by assumption) ?_; rotate_left; (· (intro w0 hSw; have a0 := hSw.1.cell 0; have a1 := hSw.1.cell 1; have b0 := hSw.2.cell 0; have b1 := hSw.2.cell 1; clear hSw; go_simp); first | done | with_reducible rfl); (try simp only [Act.put, List.getElem_toArray, List.getElem_cons_succ, List.getElem_cons_zero, List.setIfInBounds_toArray, List.set_cons_zero, List.set_cons_succ])
          refine wpAnyH_take (i := 7 ) (v := ?_) rfl (by kernel_rfl) (by kernel_rfl) (by kernel_rfl) (fun _ _ _ h => h) (Or.inl ⟨by rfl, ?_⟩) (by assumption) ?_; rotate_left; (· (intro w0 hSw; have a0 := hSw.1.cell 0; have a1 := hSw.1.cell 1; have b0 := hSw.2.cell 0; have b1 := hSw.2.cell 1; clear hSw; go_simp); first | done | with_reducible rfl); (try simp only [Act.put, List.getElem_toArray, List.getElem_cons_succ, List.getElem_cons_zero, List.setIfInBounds_toArray, List.set_cons_zero, List.set_cons_succ])
          refine wpAnyH_take (i := 8 ) (v := ?_) rfl (by kernel_rfl) (by kernel_rfl) (by kernel_rfl) (fun _ _ _ h => h) (Or.inl ⟨by rfl, ?_⟩) (by assumption) ?_; rotate_left; (· (intro w0 hSw; have a0 := hSw.1.cell 0; have a1 := hSw.1.cell 1; have b0 := hSw.2.cell 0; have b1 := hSw.2.cell 1; clear hSw; go_simp); first | done | with_reducible rfl); (try simp only [Act.put, List.getElem_toArray, List.getElem_cons_succ, List.getElem_cons_zero, List.setIfInBounds_toArray, List.set_cons_zero, List.set_cons_succ])
          refine wpAnyH_take (i := 9 ) (v := ?_) rfl (by kernel_rfl) (by kernel_rfl) (by kernel_rfl) (fun _ _ _ h => h) (Or.inl ⟨by rfl, ?_⟩) (by assumption) ?_; rotate_left; (· (intro w0 hSw; have a0 := hSw.1.cell 0; have a1 := hSw.1.cell 1; have b0 := hSw.2.cell 0; have b1 := hSw.2.cell 1; clear hSw; go_simp); first | done | with_reducible rfl); (try simp only [Act.put, List.getElem_toArray, List.getElem_cons_succ, List.getElem_cons_zero, List.setIfInBounds_toArray, List.set_cons_zero, List.set_cons_succ])
          refine wpAnyH_take (i := 10 ) (v := ?_) rfl (by kernel_rfl) (by kernel_rfl) (by kernel_rfl) (fun _ _ _ h => h) (Or.inl ⟨by rfl, ?_⟩) (by assumption) ?_; rotate_left; (· (intro w0 hSw; have a0 := hSw.1.cell 0; have a1 := hSw.1.cell 1; have b0 := hSw.2.cell 0; have b1 := hSw.2.cell 1; clear hSw; go_simp); first | done | with_reducible rfl); (try simp only [Act.put, List.getElem_toArray, List.getElem_cons_succ, List.getElem_cons_zero, List.setIfInBounds_toArray, List.set_cons_zero, List.set_cons_succ])
          refine wpAnyH_take (i := 11 ) (v := ?_) rfl (by kernel_rfl) (by kernel_rfl) (by kernel_rfl) (fun _ _ _ h => h) (Or.inl ⟨by rfl, ?_⟩) (by assumption) ?_; rotate_left; (· (intro w0 hSw; have a0 := hSw.1.cell 0; have a1 := hSw.1.cell 1; have b0 := hSw.2.cell 0; have b1 := hSw.2.cell 1; clear hSw; go_simp); first | done | with_reducible rfl); (try simp only [Act.put, List.getElem_toArray, List.getElem_cons_succ, List.getElem_cons_zero, List.setIfInBounds_toArray, List.set_cons_zero, List.set_cons_succ])
          refine wpAnyH_take (i := 12 ) (v := ?_) rfl (by kernel_rfl) (by kernel_rfl) (by kernel_rfl) (fun _ _ _ h => h) (Or.inl ⟨by rfl, ?_⟩) (by assumption) ?_; rotate_left; (· (intro w0 hSw; have a0 := hSw.1.cell 0; have a1 := hSw.1.cell 1; have b0 := hSw.2.cell 0; have b1 := hSw.2.cell 1; clear hSw; go_simp); first | done | with_reducible rfl); (try simp only [Act.put, List.getElem_toArray, List.getElem_cons_succ, List.getElem_cons_zero, List.setIfInBounds_toArray, List.set_cons_zero, List.set_cons_succ])
          refine wpAnyH_take (i := 13 ) (v := ?_) rfl (by kernel_rfl) (by kernel_rfl) (by kernel_rfl) (fun _ _ _ h => h) (Or.inl ⟨by rfl, ?_⟩) (by assumption) ?_; rotate_left; (· (intro w0 hSw; have a0 := hSw.1.cell 0; have a1 := hSw.1.cell 1; have b0 := hSw.2.cell 0; have b1 := hSw.2.cell 1; clear hSw; go_simp); first | done | with_reducible rfl); (try simp only [Act.put, List.getElem_toArray, List.getElem_cons_succ, List.getElem_cons_zero, List.setIfInBounds_toArray, List.set_cons_zero, List.set_cons_succ])
          refine wpAnyH_ready (rs := [14]) (by kernel_rfl) (by simp) ?_
          refine AllReadyH.cons (by simp only [List.getElem?_toArray, List.getElem?_cons_succ, List.getElem?_cons_zero]; rfl) (fun K hK => ?_) AllReadyH.nil
          go_simp
          refine (span46_any _ _ _).mono ?_
          rintro e X ⟨rfl, hb⟩
          replace HS := Lib.hid (HS.out.call hb)
          replace H5 := Lib.hid (H5.out.below hb H5.out.lt)
          replace H8 := Lib.hid (H8.out.below hb H8.out.lt)
          replace P17 := Lib.hid (P17.out.below hb)
          replace P19 := Lib.hid (P19.out.below hb)
          clear hb
          refine hK.out _ _ ⟨H5.out, H8.out⟩ (fun hH3 => ?_)
          clear hK K
          try simp only [List.setIfInBounds_toArray, List.set_cons_zero, List.set_cons_succ]
          refine wpAnyH_take (i := 15 ) (v := ?_) rfl (by kernel_rfl) (by kernel_rfl) (by kernel_rfl) (fun _ _ _ h => h) (Or.inl ⟨by rfl, ?_⟩) (by assumption) ?_; rotate_left; (· (intro w0 hSw; have a0 := hSw.1.cell 0; have a1 := hSw.1.cell 1; have b0 := hSw.2.cell 0; have b1 := hSw.2.cell 1; clear hSw; go_simp); first | done | with_reducible rfl); (try simp only [Act.put, List.getElem_toArray, List.getElem_cons_succ, List.getElem_cons_zero, List.setIfInBounds_toArray, List.set_cons_zero, List.set_cons_succ])
          refine wpAnyH_take (i := 16 ) (v := ?_) rfl (by kernel_rfl) (by kernel_rfl) (by kernel_rfl) (fun _ _ _ h => h) (Or.inl ⟨by rfl, ?_⟩) (by assumption) ?_; rotate_left; (· (intro w0 hSw; have a0 := hSw.1.cell 0; have a1 := hSw.1.cell 1; have b0 := hSw.2.cell 0; have b1 := hSw.2.cell 1; clear hSw; go_simp); first | done | with_reducible rfl); (try simp only [Act.put, List.getElem_toArray, List.getElem_cons_succ, List.getElem_cons_zero, List.setIfInBounds_toArray, List.set_cons_zero, List.set_cons_succ])
          refine wpAnyH_take (i := 17 ) (v := ?_) rfl (by kernel_rfl) (by kernel_rfl) (by kernel_rfl) (fun _ _ _ h => h) (Or.inl ⟨by rfl, ?_⟩) (by assumption) ?_; rotate_left; (· (intro w0 hSw; have a0 := hSw.1.cell 0; have a1 := hSw.1.cell 1; have b0 := hSw.2.cell 0; have b1 := hSw.2.cell 1; clear hSw; go_simp); first | done | with_reducible rfl); (try simp only [Act.put, List.getElem_toArray, List.getElem_cons_succ, List.getElem_cons_zero, List.setIfInBounds_toArray, List.set_cons_zero, List.set_cons_succ])
          refine wpAnyH_take (i := 18 ) (v := ?_) rfl (by kernel_rfl) (by kernel_rfl) (by kernel_rfl) (fun _ _ _ h => h) (Or.inl ⟨by rfl, ?_⟩) (by assumption) ?_; rotate_left; (· (intro w0 hSw; have a0 := hSw.1.cell 0; have a1 := hSw.1.cell 1; have b0 := hSw.2.cell 0; have b1 := hSw.2.cell 1; clear hSw; go_simp); first | done | with_reducible rfl); (try simp only [Act.put, List.getElem_toArray, List.getElem_cons_succ, List.getElem_cons_zero, List.setIfInBounds_toArray, List.set_cons_zero, List.set_cons_succ])
          refine wpAnyH_take (i := 19 ) (v := ?_) rfl (by kernel_rfl) (by kernel_rfl) (by kernel_rfl) (fun _ _ _ h => h) (Or.inl ⟨by rfl, ?_⟩) (by assumption) ?_; rotate_left; (· (intro w0 hSw; have a0 := hSw.1.cell 0; have a1 := hSw.1.cell 1; have b0 := hSw.2.cell 0; have b1 := hSw.2.cell 1; clear hSw; go_simp); first | done | with_reducible rfl); (try simp only [Act.put, List.getElem_toArray, List.getElem_cons_succ, List.getElem_cons_zero, List.setIfInBounds_toArray, List.set_cons_zero, List.set_cons_succ])
          refine wpAnyH_take (i := 20 ) (v := ?_) rfl (by kernel_rfl) (by kernel_rfl) (by kernel_rfl) (fun _ _ _ h => h) (Or.inl ⟨by rfl, ?_⟩) (by assumption) ?_; rotate_left; (· (intro w0 hSw; have a0 := hSw.1.cell 0; have a1 := hSw.1.cell 1; have b0 := hSw.2.cell 0; have b1 := hSw.2.cell 1; clear hSw; go_simp); first | done | with_reducible rfl); (try simp only [Act.put, List.getElem_toArray, List.getElem_cons_succ, List.getElem_cons_zero, List.setIfInBounds_toArray, List.set_cons_zero, List.set_cons_succ])
          refine wpAnyH_take (i := 21 ) (v := ?_) rfl (by kernel_rfl) (by kernel_rfl) (by kernel_rfl) (fun _ _ _ h => h) (Or.inl ⟨by rfl, ?_⟩) (by assumption) ?_; rotate_left; (· (intro w0 hSw; have a0 := hSw.1.cell 0; have a1 := hSw.1.cell 1; have b0 := hSw.2.cell 0; have b1 := hSw.2.cell 1; clear hSw; go_simp); first | done | with_reducible rfl); (try simp only [Act.put, List.getElem_toArray, List.getElem_cons_succ, List.getElem_cons_zero, List.setIfInBounds_toArray, List.set_cons_zero, List.set_cons_succ])
          refine wpAnyH_take (i := 22 ) (v := ?_) rfl (by kernel_rfl) (by kernel_rfl) (by kernel_rfl) (fun _ _ _ h => h) (Or.inl ⟨by rfl, ?_⟩) (by assumption) ?_; rotate_left; (· (intro w0 hSw; have a0 := hSw.1.cell 0; have a1 := hSw.1.cell 1; have b0 := hSw.2.cell 0; have b1 := hSw.2.cell 1; clear hSw; go_simp); first | done | with_reducible rfl); (try simp only [Act.put, List.getElem_toArray, List.getElem_cons_succ, List.getElem_cons_zero, List.setIfInBounds_toArray, List.set_cons_zero, List.set_cons_succ])
          refine wpAnyH_take (i := 23 ) (v := ?_) rfl (by kernel_rfl) (by kernel_rfl) (by kernel_rfl) (fun _ _ _ h => h) (Or.inl ⟨by rfl, ?_⟩) (by assumption) ?_; rotate_left; (· (intro w0 hSw; have a0 := hSw.1.cell 0; have a1 := hSw.1.cell 1; have b0 := hSw.2.cell 0; have b1 := hSw.2.cell 1; clear hSw; go_simp); first | done | with_reducible rfl); (try simp only [Act.put, List.getElem_toArray, List.getElem_cons_succ, List.getElem_cons_zero, List.setIfInBounds_toArray, List.set_cons_zero, List.set_cons_succ])
          refine wpAnyH_take (i := 24 ) (v := ?_) rfl (by kernel_rfl) (by kernel_rfl) (by kernel_rfl) (fun _ _ _ h => h) (Or.inl ⟨by rfl, ?_⟩) (by assumption) ?_; rotate_left; (· (intro w0 hSw; have a0 := hSw.1.cell 0; have a1 := hSw.1.cell 1; have b0 := hSw.2.cell 0; have b1 := hSw.2.cell 1; clear hSw; go_simp); first | done | with_reducible rfl); (try simp only [Act.put, List.getElem_toArray, List.getElem_cons_succ, List.getElem_cons_zero, List.setIfInBounds_toArray, List.set_cons_zero, List.set_cons_succ])
          refine wpAnyH_take (i := 25 ) (v := ?_) rfl (by kernel_rfl) (by kernel_rfl) (by kernel_rfl) (fun _ _ _ h => h) (Or.inl ⟨by rfl, ?_⟩) (by assumption) ?_; rotate_left; (· (intro w0 hSw; have a0 := hSw.1.cell 0; have a1 := hSw.1.cell 1; have b0 := hSw.2.cell 0; have b1 := hSw.2.cell 1; clear hSw; go_simp); first | done | with_reducible rfl); (try simp only [Act.put, List.getElem_toArray, List.getElem_cons_succ, List.getElem_cons_zero, List.setIfInBounds_toArray, List.set_cons_zero, List.set_cons_succ])
          refine wpAnyH_take (i := 26 ) (v := ?_) rfl (by kernel_rfl) (by kernel_rfl) (by kernel_rfl) (fun _ _ _ h => h) (Or.inl ⟨by rfl, ?_⟩) (by assumption) ?_; rotate_left; (· (intro w0 hSw; have a0 := hSw.1.cell 0; have a1 := hSw.1.cell 1; have b0 := hSw.2.cell 0; have b1 := hSw.2.cell 1; clear hSw; go_simp); first | done | with_reducible rfl); (try simp only [Act.put, List.getElem_toArray, List.getElem_cons_succ, List.getElem_cons_zero, List.setIfInBounds_toArray, List.set_cons_zero, List.set_cons_succ])
          refine wpAnyH_take (i := 27 ) (v := ?_) rfl (by kernel_rfl) (by kernel_rfl) (by kernel_rfl) (fun _ _ _ h => h) (Or.inl ⟨by rfl, ?_⟩) (by assumption) ?_; rotate_left; (· (intro w0 hSw; have a0 := hSw.1.cell 0; have a1 := hSw.1.cell 1; have b0 := hSw.2.cell 0; have b1 := hSw.2.cell 1; clear hSw; go_simp); first | done | with_reducible rfl); (try simp only [Act.put, List.getElem_toArray, List.getElem_cons_succ, List.getElem_cons_zero, List.setIfInBounds_toArray, List.set_cons_zero, List.set_cons_succ])
          refine wpAnyH_take (i := 28 ) (v := ?_) rfl (by kernel_rfl) (by kernel_rfl) (by kernel_rfl) (fun _ _ _ h => h) (Or.inl ⟨by rfl, ?_⟩) (by assumption) ?_; rotate_left; (· (intro w0 hSw; have a0 := hSw.1.cell 0; have a1 := hSw.1.cell 1; have b0 := hSw.2.cell 0; have b1 := hSw.2.cell 1; clear hSw; go_simp); first | done | with_reducible rfl); (try simp only [Act.put, List.getElem_toArray, List.getElem_cons_succ, List.getElem_cons_zero, List.setIfInBounds_toArray, List.set_cons_zero, List.set_cons_succ])
          refine wpAnyH_take (i := 29 ) (v := ?_) rfl (by kernel_rfl) (by kernel_rfl) (by kernel_rfl) (fun _ _ _ h => h) (Or.inl ⟨by rfl, ?_⟩) (by assumption) ?_; rotate_left; (· (intro w0 hSw; have a0 := hSw.1.cell 0; have a1 := hSw.1.cell 1; have b0 := hSw.2.cell 0; have b1 := hSw.2.cell 1; clear hSw; go_simp); first | done | with_reducible rfl); (try simp only [Act.put, List.getElem_toArray, List.getElem_cons_succ, List.getElem_cons_zero, List.setIfInBounds_toArray, List.set_cons_zero, List.set_cons_succ])
          refine wpAnyH_take (i := 30 ) (v := ?_) rfl (by kernel_rfl) (by kernel_rfl) (by kernel_rfl) (fun _ _ _ h => h) (Or.inl ⟨by rfl, ?_⟩) (by assumption) ?_; rotate_left; (· (intro w0 hSw; have a0 := hSw.1.cell 0; have a1 := hSw.1.cell 1; have b0 := hSw.2.cell 0; have b1 := hSw.2.cell 1; clear hSw; go_simp); first | done | with_reducible rfl); (try simp only [Act.put, List.getElem_toArray, List.getElem_cons_succ, List.getElem_cons_zero, List.setIfInBounds_toArray, List.set_cons_zero, List.set_cons_succ])
          refine wpAnyH_take (i := 31 ) (v := ?_) rfl (by kernel_rfl) (by kernel_rfl) (by kernel_rfl) (fun _ _ _ h => h) (Or.inl ⟨by rfl, ?_⟩) (by assumption) ?_; rotate_left; (· (intro w0 hSw; have a0 := hSw.1.cell 0; have a1 := hSw.1.cell 1; have b0 := hSw.2.cell 0; have b1 := hSw.2.cell 1; clear hSw; go_simp); first | done | with_reducible rfl); (try simp only [Act.put, List.getElem_toArray, List.getElem_cons_succ, List.getElem_cons_zero, List.setIfInBounds_toArray, List.set_cons_zero, List.set_cons_succ])
          refine wpAnyH_take (i := 32 ) (v := ?_) rfl (by kernel_rfl) (by kernel_rfl) (by kernel_rfl) (fun _ _ _ h => h) (Or.inl ⟨by rfl, ?_⟩) (by assumption) ?_; rotate_left; (· (intro w0 hSw; have a0 := hSw.1.cell 0; have a1 := hSw.1.cell 1; have b0 := hSw.2.cell 0; have b1 := hSw.2.cell 1; clear hSw; go_simp); first | done | with_reducible rfl); (try simp only [Act.put, List.getElem_toArray, List.getElem_cons_succ, List.getElem_cons_zero, List.setIfInBounds_toArray, List.set_cons_zero, List.set_cons_succ])
          refine wpAnyH_take (i := 33 ) (v := ?_) rfl (by kernel_rfl) (by kernel_rfl) (by kernel_rfl) (fun _ _ _ h => h) (Or.inl ⟨by rfl, ?_⟩) (by assumption) ?_; rotate_left; (· (intro w0 hSw; have a0 := hSw.1.cell 0; have a1 := hSw.1.cell 1; have b0 := hSw.2.cell 0; have b1 := hSw.2.cell 1; clear hSw; go_simp); first | done | with_reducible rfl); (try simp only [Act.put, List.getElem_toArray, List.getElem_cons_succ, List.getElem_cons_zero, List.setIfInBounds_toArray, List.set_cons_zero, List.set_cons_succ])
          refine wpAnyH_take (i := 34 ) (v := ?_) rfl (by kernel_rfl) (by kernel_rfl) (by kernel_rfl) (fun _ _ _ h => h) (Or.inl ⟨by rfl, ?_⟩) (by assumption) ?_; rotate_left; (· (intro w0 hSw; have a0 := hSw.1.cell 0; have a1 := hSw.1.cell 1; have b0 := hSw.2.cell 0; have b1 := hSw.2.cell 1; clear hSw; go_simp); first | done | with_reducible rfl); (try simp only [Act.put, List.getElem_toArray, List.getElem_cons_succ, List.getElem_cons_zero, List.setIfInBounds_toArray, List.set_cons_zero, List.set_cons_succ])
          refine wpAnyH_take (i := 35 ) (v := ?_) rfl (by kernel_rfl) (by kernel_rfl) (by kernel_rfl) (fun _ _ _ h => h) (Or.inl ⟨by rfl, ?_⟩) (by assumption) ?_; rotate_left; (· (intro w0 hSw; have a0 := hSw.1.cell 0; have a1 := hSw.1.cell 1; have b0 := hSw.2.cell 0; have b1 := hSw.2.cell 1; clear hSw; go_simp); first | done | with_reducible rfl); (try simp only [Act.put, List.getElem_toArray, List.getElem_cons_succ, List.getElem_cons_zero, List.setIfInBounds_toArray, List.set_cons_zero, List.set_cons_succ])
          refine wpAnyH_take (i := 36 ) (v := ?_) rfl (by kernel_rfl) (by kernel_rfl) (by kernel_rfl) (fun _ _ _ h => h) (Or.inl ⟨by rfl, ?_⟩) (by assumption) ?_; rotate_left; (· (intro w0 hSw; have a0 := hSw.1.cell 0; have a1 := hSw.1.cell 1; have b0 := hSw.2.cell 0; have b1 := hSw.2.cell 1; clear hSw; go_simp); first | done | with_reducible rfl); (try simp only [Act.put, List.getElem_toArray, List.getElem_cons_succ, List.getElem_cons_zero, List.setIfInBounds_toArray, List.set_cons_zero, List.set_cons_succ])
          refine wpAnyH_take (i := 37 ) (v := ?_) rfl (by kernel_rfl) (by kernel_rfl) (by kernel_rfl) (fun _ _ _ h => h) (Or.inl ⟨by rfl, ?_⟩) (by assumption) ?_; rotate_left; (· (intro w0 hSw; have a0 := hSw.1.cell 0; have a1 := hSw.1.cell 1; have b0 := hSw.2.cell 0; have b1 := hSw.2.cell 1; clear hSw; go_simp); first | done | with_reducible rfl); (try simp only [Act.put, List.getElem_toArray, List.getElem_cons_succ, List.getElem_cons_zero, List.setIfInBounds_toArray, List.set_cons_zero, List.set_cons_succ])
          refine wpAnyH_take (i := 38 ) (v := ?_) rfl (by kernel_rfl) (by kernel_rfl) (by kernel_rfl) (fun _ _ _ h => h) (Or.inl ⟨by rfl, ?_⟩) (by assumption) ?_; rotate_left; (· (intro w0 hSw; have a0 := hSw.1.cell 0; have a1 := hSw.1.cell 1; have b0 := hSw.2.cell 0; have b1 := hSw.2.cell 1; clear hSw; go_simp); first | done | with_reducible rfl); (try simp only [Act.put, List.getElem_toArray, List.getElem_cons_succ, List.getElem_cons_zero, List.setIfInBounds_toArray, List.set_cons_zero, List.set_cons_succ])
          refine wpAnyH_ready (rs := [39]) (by kernel_rfl) (by simp) ?_
          refine AllReadyH.cons (by simp only [List.getElem?_toArray, List.getElem?_cons_succ, List.getElem?_cons_zero]; rfl) (fun K hK => ?_) AllReadyH.nil
          go_simp
          have hb : Below X.heap.size X (X.alloc (.cells #[.int .i64 (-1), .int .i64 (-1), .int .i64 (-1)] 3)) := (Below.refl _ _).alloc (Nat.le_refl _) _
          have H1 := Lib.hid (Blk.new X 3 #[.int .i64 (-1), .int .i64 (-1), .int .i64 (-1)])
          have hg1 : q + 1 + 1 + 1 < X.heap.size := HS.out.k4.lt
          replace HS := Lib.hid (HS.out.call hb)
          replace H5 := Lib.hid (H5.out.below hb H5.out.lt)
          replace H8 := Lib.hid (H8.out.below hb H8.out.lt)
          replace P17 := Lib.hid (P17.out.below hb)
          replace P19 := Lib.hid (P19.out.below hb)
          clear hb
          generalize X.heap.size = g1 at *
          generalize World.alloc X _ = X at *
          refine hK.out _ _ ⟨H5.out, H8.out⟩ (fun hH4 => ?_)
          clear hK K
          try simp only [List.setIfInBounds_toArray, List.set_cons_zero, List.set_cons_succ]
          refine wpAnyH_ready (rs := [40]) (by kernel_rfl) (by simp) ?_
          refine AllReadyH.cons (by simp only [List.getElem?_toArray, List.getElem?_cons_succ, List.getElem?_cons_zero]; rfl) (fun K hK => ?_) AllReadyH.nil
          go_simp
          refine (ints5_any _ A17 (some ⟨g1, 0, none⟩) c17 3 [-1, -1, -1] [-1, -1, -1] (by simp) (by simp) (plan_sl5 P17.out) (ints_of3 H1.out)).mono ?_
          rintro e X ⟨rfl, hb⟩
          replace HS := Lib.hid (HS.out.call hb)
          replace H5 := Lib.hid (H5.out.below hb H5.out.lt)
          replace H8 := Lib.hid (H8.out.below hb H8.out.lt)
          replace P17 := Lib.hid (P17.out.below hb)
          replace P19 := Lib.hid (P19.out.below hb)
          clear hb
          refine hK.out _ _ ⟨H5.out, H8.out⟩ (fun hH5 => ?_)
          clear hK K
          try simp only [List.setIfInBounds_toArray, List.set_cons_zero, List.set_cons_succ]
          refine wpAnyH_take (i := 41 ) (v := ?_) rfl (by kernel_rfl) (by kernel_rfl) (by kernel_rfl) (fun _ _ _ h => h) (Or.inl ⟨by rfl, ?_⟩) (by assumption) ?_; rotate_left; (· (intro w0 hSw; have a0 := hSw.1.cell 0; have a1 := hSw.1.cell 1; have b0 := hSw.2.cell 0; have b1 := hSw.2.cell 1; clear hSw; go_simp); first | done | with_reducible rfl); (try simp only [Act.put, List.getElem_toArray, List.getElem_cons_succ, List.getElem_cons_zero, List.setIfInBounds_toArray, List.set_cons_zero, List.set_cons_succ])
          refine wpAnyH_take (i := 42 ) (v := ?_) rfl (by kernel_rfl) (by kernel_rfl) (by kernel_rfl) (fun _ _ _ h => h) (Or.inl ⟨by rfl, ?_⟩) (by assumption) ?_; rotate_left; (· (intro w0 hSw; have a0 := hSw.1.cell 0; have a1 := hSw.1.cell 1; have b0 := hSw.2.cell 0; have b1 := hSw.2.cell 1; clear hSw; go_simp); first | done | with_reducible rfl); (try simp only [Act.put, List.getElem_toArray, List.getElem_cons_succ, List.getElem_cons_zero, List.setIfInBounds_toArray, List.set_cons_zero, List.set_cons_succ])
          refine wpAnyH_take (i := 43 ) (v := ?_) rfl (by kernel_rfl) (by kernel_rfl) (by kernel_rfl) (fun _ _ _ h => h) (Or.inl ⟨by rfl, ?_⟩) (by assumption) ?_; rotate_left; (· (intro w0 hSw; have a0 := hSw.1.cell 0; have a1 := hSw.1.cell 1; have b0 := hSw.2.cell 0; have b1 := hSw.2.cell 1; clear hSw; go_simp); first | done | with_reducible rfl); (try simp only [Act.put, List.getElem_toArray, List.getElem_cons_succ, List.getElem_cons_zero, List.setIfInBounds_toArray, List.set_cons_zero, List.set_cons_succ])
          refine wpAnyH_take (i := 44 ) (v := ?_) rfl (by kernel_rfl) (by kernel_rfl) (by kernel_rfl) (fun _ _ _ h => h) (Or.inl ⟨by rfl, ?_⟩) (by assumption) ?_; rotate_left; (· (intro w0 hSw; have a0 := hSw.1.cell 0; have a1 := hSw.1.cell 1; have b0 := hSw.2.cell 0; have b1 := hSw.2.cell 1; clear hSw; go_simp); first | done | with_reducible rfl); (try simp only [Act.put, List.getElem_toArray, List.getElem_cons_succ, List.getElem_cons_zero, List.setIfInBounds_toArray, List.set_cons_zero, List.set_cons_succ])
          refine wpAnyH_take (i := 45 ) (v := ?_) rfl (by kernel_rfl) (by kernel_rfl) (by kernel_rfl) (fun _ _ _ h => h) (Or.inl ⟨by rfl, ?_⟩) (by assumption) ?_; rotate_left; (· (intro w0 hSw; have a0 := hSw.1.cell 0; have a1 := hSw.1.cell 1; have b0 := hSw.2.cell 0; have b1 := hSw.2.cell 1; clear hSw; go_simp); first | done | with_reducible rfl); (try simp only [Act.put, List.getElem_toArray, List.getElem_cons_succ, List.getElem_cons_zero, List.setIfInBounds_toArray, List.set_cons_zero, List.set_cons_succ])
          refine wpAnyH_take (i := 46 ) (v := ?_) rfl (by kernel_rfl) (by kernel_rfl) (by kernel_rfl) (fun _ _ _ h => h) (Or.inl ⟨by rfl, ?_⟩) (by assumption) ?_; rotate_left; (· (intro w0 hSw; have a0 := hSw.1.cell 0; have a1 := hSw.1.cell 1; have b0 := hSw.2.cell 0; have b1 := hSw.2.cell 1; clear hSw; go_simp); first | done | with_reducible rfl); (try simp only [Act.put, List.getElem_toArray, List.getElem_cons_succ, List.getElem_cons_zero, List.setIfInBounds_toArray, List.set_cons_zero, List.set_cons_succ])
          refine wpAnyH_take (i := 47 ) (v := ?_) rfl (by kernel_rfl) (by kernel_rfl) (by kernel_rfl) (fun _ _ _ h => h) (Or.inl ⟨by rfl, ?_⟩) (by assumption) ?_; rotate_left; (· (intro w0 hSw; have a0 := hSw.1.cell 0; have a1 := hSw.1.cell 1; have b0 := hSw.2.cell 0; have b1 := hSw.2.cell 1; clear hSw; go_simp); first | done | with_reducible rfl); (try simp only [Act.put, List.getElem_toArray, List.getElem_cons_succ, List.getElem_cons_zero, List.setIfInBounds_toArray, List.set_cons_zero, List.set_cons_succ])
          refine wpAnyH_ready (rs := [48]) (by kernel_rfl) (by simp) ?_
          refine AllReadyH.cons (by simp only [List.getElem?_toArray, List.getElem?_cons_succ, List.getElem?_cons_zero]; rfl) (fun K hK => ?_) AllReadyH.nil
          go_simp
          have hb : Below X.heap.size X (X.alloc (.cells #[.int .i64 0, .int .i64 1] 3)) := (Below.refl _ _).alloc (Nat.le_refl _) _
          have H2 := Lib.hid (Blk.new X 3 #[.int .i64 0, .int .i64 1])
          have hg2 : q + 1 + 1 + 1 < X.heap.size := HS.out.k4.lt
          replace HS := Lib.hid (HS.out.call hb)
          replace H5 := Lib.hid (H5.out.below hb H5.out.lt)
          replace H8 := Lib.hid (H8.out.below hb H8.out.lt)
          replace P17 := Lib.hid (P17.out.below hb)
          replace P19 := Lib.hid (P19.out.below hb)
          clear hb
          generalize X.heap.size = g2 at *
          generalize World.alloc X _ = X at *
          refine hK.out _ _ ⟨H5.out, H8.out⟩ (fun hH6 => ?_)
          clear hK K
          try simp only [List.setIfInBounds_toArray, List.set_cons_zero, List.set_cons_succ]
          refine wpAnyH_ready (rs := [49]) (by kernel_rfl) (by simp) ?_
          refine AllReadyH.cons (by simp only [List.getElem?_toArray, List.getElem?_cons_succ, List.getElem?_cons_zero]; rfl) (fun K hK => ?_) AllReadyH.nil
          go_simp
          refine (ints5_any _ A19 (some ⟨g2, 0, none⟩) c19 2 [0, 1] [0, 1] (by simp) (by simp) (plan_sl5 P19.out) (ints_of2 H2.out)).mono ?_
          rintro e X ⟨rfl, hb⟩
          replace HS := Lib.hid (HS.out.call hb)
          replace H5 := Lib.hid (H5.out.below hb H5.out.lt)
          replace H8 := Lib.hid (H8.out.below hb H8.out.lt)
          replace P17 := Lib.hid (P17.out.below hb)
          replace P19 := Lib.hid (P19.out.below hb)
          clear hb
          refine hK.out _ _ ⟨H5.out, H8.out⟩ (fun hH7 => ?_)
          clear hK K
          try simp only [List.setIfInBounds_toArray, List.set_cons_zero, List.set_cons_succ]
          refine wpAnyH_take (i := 50 ) (v := ?_) rfl (by kernel_rfl) (by kernel_rfl) (by kernel_rfl) (fun _ _ _ h => h) (Or.inl ⟨by rfl, ?_⟩) (by assumption) ?_; rotate_left; (· (intro w0 hSw; have a0 := hSw.1.cell 0; have a1 := hSw.1.cell 1; have b0 := hSw.2.cell 0; have b1 := hSw.2.cell 1; clear hSw; go_simp); first | done | with_reducible rfl); (try simp only [Act.put, List.getElem_toArray, List.getElem_cons_succ, List.getElem_cons_zero, List.setIfInBounds_toArray, List.set_cons_zero, List.set_cons_succ])
          refine wpAnyH_take (i := 51 ) (v := ?_) rfl (by kernel_rfl) (by kernel_rfl) (by kernel_rfl) (fun _ _ _ h => h) (Or.inl ⟨by rfl, ?_⟩) (by assumption) ?_; rotate_left; (· (intro w0 hSw; have a0 := hSw.1.cell 0; have a1 := hSw.1.cell 1; have b0 := hSw.2.cell 0; have b1 := hSw.2.cell 1; clear hSw; go_simp); first | done | with_reducible rfl); (try simp only [Act.put, List.getElem_toArray, List.getElem_cons_succ, List.getElem_cons_zero, List.setIfInBounds_toArray, List.set_cons_zero, List.set_cons_succ])
          refine wpAnyH_take (i := 52 ) (v := ?_) rfl (by kernel_rfl) (by kernel_rfl) (by kernel_rfl) (fun _ _ _ h => h) (Or.inl ⟨by rfl, ?_⟩) (by assumption) ?_; rotate_left; (· (intro w0 hSw; have a0 := hSw.1.cell 0; have a1 := hSw.1.cell 1; have b0 := hSw.2.cell 0; have b1 := hSw.2.cell 1; clear hSw; go_simp); first | done | with_reducible rfl); (try simp only [Act.put, List.getElem_toArray, List.getElem_cons_succ, List.getElem_cons_zero, List.setIfInBounds_toArray, List.set_cons_zero, List.set_cons_succ])
          refine wpAnyH_take (i := 53 ) (v := ?_) rfl (by kernel_rfl) (by kernel_rfl) (by kernel_rfl) (fun _ _ _ h => h) (Or.inl ⟨by rfl, ?_⟩) (by assumption) ?_; rotate_left; (· (intro w0 hSw; have a0 := hSw.1.cell 0; have a1 := hSw.1.cell 1; have b0 := hSw.2.cell 0; have b1 := hSw.2.cell 1; clear hSw; go_simp); first | done | with_reducible rfl); (try simp only [Act.put, List.getElem_toArray, List.getElem_cons_succ, List.getElem_cons_zero, List.setIfInBounds_toArray, List.set_cons_zero, List.set_cons_succ])
          refine wpAnyH_take (i := 54 ) (v := ?_) rfl (by kernel_rfl) (by kernel_rfl) (by kernel_rfl) (fun _ _ _ h => h) (Or.inl ⟨by rfl, ?_⟩) (by assumption) ?_; rotate_left; (· (intro w0 hSw; have a0 := hSw.1.cell 0; have a1 := hSw.1.cell 1; have b0 := hSw.2.cell 0; have b1 := hSw.2.cell 1; clear hSw; go_simp); first | done | with_reducible rfl); (try simp only [Act.put, List.getElem_toArray, List.getElem_cons_succ, List.getElem_cons_zero, List.setIfInBounds_toArray, List.set_cons_zero, List.set_cons_succ])
          refine wpAnyH_take (i := 55 ) (v := ?_) rfl (by kernel_rfl) (by kernel_rfl) (by kernel_rfl) (fun _ _ _ h => h) (Or.inl ⟨by rfl, ?_⟩) (by assumption) ?_; rotate_left; (· (intro w0 hSw; have a0 := hSw.1.cell 0; have a1 := hSw.1.cell 1; have b0 := hSw.2.cell 0; have b1 := hSw.2.cell 1; clear hSw; go_simp); first | done | with_reducible rfl); (try simp only [Act.put, List.getElem_toArray, List.getElem_cons_succ, List.getElem_cons_zero, List.setIfInBounds_toArray, List.set_cons_zero, List.set_cons_succ])
          refine wpAnyH_take (i := 56 ) (v := ?_) rfl (by kernel_rfl) (by kernel_rfl) (by kernel_rfl) (fun _ _ _ h => h) (Or.inl ⟨by rfl, ?_⟩) (by assumption) ?_; rotate_left; (· (intro w0 hSw; have a0 := hSw.1.cell 0; have a1 := hSw.1.cell 1; have b0 := hSw.2.cell 0; have b1 := hSw.2.cell 1; clear hSw; go_simp); first | done | with_reducible rfl); (try simp only [Act.put, List.getElem_toArray, List.getElem_cons_succ, List.getElem_cons_zero, List.setIfInBounds_toArray, List.set_cons_zero, List.set_cons_succ])
          refine wpAnyH_take (i := 57 ) (v := ?_) rfl (by kernel_rfl) (by kernel_rfl) (by kernel_rfl) (fun _ _ _ h => h) (Or.inl ⟨by rfl, ?_⟩) (by assumption) ?_; rotate_left; (· (intro w0 hSw; have a0 := hSw.1.cell 0; have a1 := hSw.1.cell 1; have b0 := hSw.2.cell 0; have b1 := hSw.2.cell 1; clear hSw; go_simp); first | done | with_reducible rfl); (try simp only [Act.put, List.getElem_toArray, List.getElem_cons_succ, List.getElem_cons_zero, List.setIfInBounds_toArray, List.set_cons_zero, List.set_cons_succ])
          refine wpAnyH_take (i := 58 ) (v := ?_) rfl (by kernel_rfl) (by kernel_rfl) (by kernel_rfl) (fun _ _ _ h => h) (Or.inl ⟨by rfl, ?_⟩) (by assumption) ?_; rotate_left; (· (intro w0 hSw; have a0 := hSw.1.cell 0; have a1 := hSw.1.cell 1; have b0 := hSw.2.cell 0; have b1 := hSw.2.cell 1; clear hSw; go_simp); first | done | with_reducible rfl); (try simp only [Act.put, List.getElem_toArray, List.getElem_cons_succ, List.getElem_cons_zero, List.setIfInBounds_toArray, List.set_cons_zero, List.set_cons_succ])
          refine wpAnyH_take (i := 59 ) (v := ?_) rfl (by kernel_rfl) (by kernel_rfl) (by kernel_rfl) (fun _ _ _ h => h) (Or.inl ⟨by rfl, ?_⟩) (by assumption) ?_; rotate_left; (· (intro w0 hSw; have a0 := hSw.1.cell 0; have a1 := hSw.1.cell 1; have b0 := hSw.2.cell 0; have b1 := hSw.2.cell 1; clear hSw; go_simp); first | done | with_reducible rfl); (try simp only [Act.put, List.getElem_toArray, List.getElem_cons_succ, List.getElem_cons_zero, List.setIfInBounds_toArray, List.set_cons_zero, List.set_cons_succ])
          refine wpAnyH_done (by kernel_rfl) ?_ _
          go_wp2_with fail
          exact bodyPost_ret (v := .bool true) (by simp [results, Try.results4, go_sem]) rfl ⟨rfl, HS.out.hb⟩
end Go.Proofs.Ytaafmfhpoimjhaa