/- The law's alive: its walk. -/
import Derived.Test.YtfpfafijockfnaaZm
namespace Go.Proofs.Ytfpfafijockfnaa
open Go.RowKit Go.Shelf

set_option maxRecDepth 100000 in
set_option maxHeartbeats 8000000 in
theorem alive05_any (w : World) : Calls Try.prog 12 #[] w (Ret (.bool true) w) := by
  go_enter Try.func12, Try.ntmps12
  go_wp2_with fail
  refine (slats43_any _).mono ?_
  rintro e V1 ⟨rfl, hb⟩
  have HS := Lib.hid (AlS.start hb)
  clear hb
  go_upto_region 2 with fail
  generalize World.alloc (World.alloc (World.alloc (World.alloc V1 _) _) _) _ = V2 at HS ⊢
  generalize V1.heap.size = q at HS ⊢
  go_cut [5, 6, 7] (fun a b c wx => ∃ g5 g6, a = .pointer (some ⟨g5, 0, none⟩) ∧ b = .pointer (some ⟨g6, 0, none⟩) ∧ c = .int .i64 0 ∧ Hid (AlS w q wx) ∧ Hid (Blk wx g5 23 #[.int .i64 (-11), .int .i64 19]) ∧ Hid (Blk wx g6 23 #[.int .i64 (-70), .int .i64 40]))
  case first =>
    go_wp2_with fail
    replace HS := Lib.hid (HS.out.call (Below.refl _ _).drew)
    refine wp_region_held_drew (S := fun W9 => Blk W9 q 37 #[.int .i64 5000, .int .i64 5010, .int .i64 1010, .int .i64 1020, .int .i64 0, .int .i64 4, .int .i64 1, .int .i64 2] ∧ Blk W9 (q + 1) 37 #[.int .i64 4980, .int .i64 4990, .int .i64 1000, .int .i64 1010, .int .i64 (-2), .int .i64 2, .int .i64 0, .int .i64 1]) (by kernel_rfl) ⟨HS.out.k1, HS.out.k2⟩ (fun hH0 => ?_)
    generalize World.drew _ = V0 at *
    simp only [List.size_toArray, List.length_cons, List.length_nil, Nat.reduceAdd, Array.replicate_succ, Array.replicate_zero, List.push_toArray, List.nil_append, List.cons_append]
    refine wpAnyH_take (i := 1) (v := _) rfl (by kernel_rfl) (by kernel_rfl) (by kernel_rfl) (fun _ _ _ h => h) (yieldsIf_load_mid (by rfl) _ _ rfl _ _ rfl [.int .i64 5000, .int .i64 5010, .int .i64 1010, .int .i64 1020, .int .i64 0, .int .i64 4, .int .i64 1, .int .i64 2] _ (fun w0 h0 => h0.1.range) (by rfl) (by rfl) (by kernel_rfl)) (by assumption) ?_
    (try simp only [Act.put, List.getElem_toArray, List.setIfInBounds_toArray, List.set_cons_zero, List.set_cons_succ])
    refine wpAnyH_take (i := 2) (v := _) rfl (by kernel_rfl) (by kernel_rfl) (by kernel_rfl) (fun _ _ _ h => h) (yieldsIf_load_mid (by rfl) _ _ rfl _ _ rfl [.int .i64 4980, .int .i64 4990, .int .i64 1000, .int .i64 1010, .int .i64 (-2), .int .i64 2, .int .i64 0, .int .i64 1] _ (fun w0 h0 => h0.2.range) (by rfl) (by rfl) (by kernel_rfl)) (by assumption) ?_
    (try simp only [Act.put, List.getElem_toArray, List.getElem_cons_succ, List.getElem_cons_zero, List.setIfInBounds_toArray, List.set_cons_zero, List.set_cons_succ])
    refine wpAnyH_ready (rs := [0, 8, 9]) (by kernel_rfl) (by simp) ?_
    refine AllReadyH.cons (by simp only [List.getElem?_toArray, List.getElem?_cons_zero]; rfl) (fun K hK => ?_) ?_
    · go_simp
      refine (jig45_any _).mono ?_
      rintro e X ⟨rfl, hb⟩
      replace HS := Lib.hid (HS.out.call hb)
      clear hb
      refine hK.out _ _ ⟨HS.out.k1, HS.out.k2⟩ (fun hH1 => ?_)
      clear hK K
      try simp only [List.setIfInBounds_toArray, List.set_cons_zero]
      refine wpAnyH_ready (rs := [3, 8, 9]) (by kernel_rfl) (by simp) ?_
      refine AllReadyH.cons (by simp only [List.getElem?_toArray, List.getElem?_cons_succ, List.getElem?_cons_zero]; rfl) (fun K hK => ?_) ?_
      · go_simp
        refine (offL_any _).mono ?_
        rintro e X ⟨rfl, hb⟩
        replace HS := Lib.hid (HS.out.call hb)
        clear hb
        refine hK.out _ _ ⟨HS.out.k1, HS.out.k2⟩ (fun hH2 => ?_)
        clear hK K
        try simp only [List.setIfInBounds_toArray, List.set_cons_zero, List.set_cons_succ]
        refine wpAnyH_take (i := 4 ) (v := ?_) rfl (by kernel_rfl) (by kernel_rfl) (by kernel_rfl) (fun _ _ _ h => h) (Or.inl ⟨by rfl, ?_⟩) (by assumption) ?_; rotate_left; (· (intro w0 hSw; clear hSw; go_simp); first | done | with_reducible rfl); (try simp only [Act.put, List.getElem_toArray, List.getElem_cons_succ, List.getElem_cons_zero, List.setIfInBounds_toArray, List.set_cons_zero, List.set_cons_succ])
        refine wpAnyH_take (i := 5 ) (v := ?_) rfl (by kernel_rfl) (by kernel_rfl) (by kernel_rfl) (fun _ _ _ h => h) (Or.inl ⟨by rfl, ?_⟩) (by assumption) ?_; rotate_left; (· (intro w0 hSw; clear hSw; go_simp); first | done | with_reducible rfl); (try simp only [Act.put, List.getElem_toArray, List.getElem_cons_succ, List.getElem_cons_zero, List.setIfInBounds_toArray, List.set_cons_zero, List.set_cons_succ])
        refine wpAnyH_take (i := 6 ) (v := ?_) rfl (by kernel_rfl) (by kernel_rfl) (by kernel_rfl) (fun _ _ _ h => h) (Or.inl ⟨by rfl, ?_⟩) (by assumption) ?_; rotate_left; (· (intro w0 hSw; clear hSw; go_simp); first | done | with_reducible rfl); (try simp only [Act.put, List.getElem_toArray, List.getElem_cons_succ, List.getElem_cons_zero, List.setIfInBounds_toArray, List.set_cons_zero, List.set_cons_succ])
        refine wpAnyH_take (i := 7 ) (v := ?_) rfl (by kernel_rfl) (by kernel_rfl) (by kernel_rfl) (fun _ _ _ h => h) (Or.inl ⟨by rfl, ?_⟩) (by assumption) ?_; rotate_left; (· (intro w0 hSw; clear hSw; go_simp); first | done | with_reducible rfl); (try simp only [Act.put, List.getElem_toArray, List.getElem_cons_succ, List.getElem_cons_zero, List.setIfInBounds_toArray, List.set_cons_zero, List.set_cons_succ])
        refine wpAnyH_ready (rs := [8, 9]) (by kernel_rfl) (by simp) ?_
        refine AllReadyH.cons (by simp only [List.getElem?_toArray, List.getElem?_cons_succ, List.getElem?_cons_zero]; rfl) (fun K hK => ?_) ?_
        · go_simp
          have hb : Below X.heap.size X (X.alloc (.cells #[.int .i64 0, .int .i64 0] 23)) := (Below.refl _ _).alloc (Nat.le_refl _) _
          have H5 := Lib.hid (Blk.new X 23 #[.int .i64 0, .int .i64 0])
          have hg5 : q + 1 + 1 + 1 < X.heap.size := HS.out.k4.lt
          replace HS := Lib.hid (HS.out.call hb)
          clear hb
          generalize X.heap.size = g5 at *
          generalize World.alloc X _ = X at *
          refine hK.out _ _ ⟨HS.out.k1, HS.out.k2⟩ (fun hH3 => ?_)
          clear hK K
          try simp only [List.setIfInBounds_toArray, List.set_cons_zero, List.set_cons_succ]
          refine wpAnyH_ready (rs := [9]) (by kernel_rfl) (by simp) ?_
          refine AllReadyH.cons (by simp only [List.getElem?_toArray, List.getElem?_cons_succ, List.getElem?_cons_zero]; rfl) (fun K hK => ?_) AllReadyH.nil
          go_simp
          have hb : Below X.heap.size X (X.alloc (.cells #[.int .i64 0, .int .i64 0] 23)) := (Below.refl _ _).alloc (Nat.le_refl _) _
          have H6 := Lib.hid (Blk.new X 23 #[.int .i64 0, .int .i64 0])
          have hg6 : q + 1 + 1 + 1 < X.heap.size := HS.out.k4.lt
          have hne : g5 ≠ X.heap.size := Nat.ne_of_lt H5.out.lt
          replace HS := Lib.hid (HS.out.call hb)
          replace H5 := Lib.hid (H5.out.below hb H5.out.lt)
          clear hb
          generalize X.heap.size = g6 at *
          generalize World.alloc X _ = X at *
          refine hK.out _ _ ⟨HS.out.k1, HS.out.k2⟩ (fun hH4 => ?_)
          clear hK K
          try simp only [List.setIfInBounds_toArray, List.set_cons_zero, List.set_cons_succ]
          refine wpAnyH_ready (rs := [10]) (by kernel_rfl) (by simp) ?_
          refine AllReadyH.cons (by simp only [List.getElem?_toArray, List.getElem?_cons_succ, List.getElem?_cons_zero]; rfl) (fun K hK => ?_) AllReadyH.nil
          rw [if_pos (by rfl)]
          refine wp_store_mid 23 (.tmp 5) (.tmp 30) (by rfl) g5 0 #[.int .i64 (-11), .int .i64 19] (by rfl) (by rfl) (there_mid (o := 0) H5.out (by simp)) (by kernel_rfl) (by simp [Value.oneCell']) ?_
          replace HS := Lib.hid (HS.out.low (set2_low (x := .int .i64 (-11)) (y := .int .i64 19) (g := g5) (by omega)))
          replace H5 := Lib.hid (set2_blk (x := .int .i64 (-11)) (y := .int .i64 19) H5.out)
          replace H6 := Lib.hid (far2 (x := .int .i64 (-11)) (y := .int .i64 19) hne.symm H6.out)
          refine hK.out _ _ ⟨HS.out.k1, HS.out.k2⟩ (fun hH5 => ?_)
          clear hK K
          try simp only [List.setIfInBounds_toArray, List.set_cons_zero, List.set_cons_succ]
          refine wpAnyH_ready (rs := [11]) (by kernel_rfl) (by simp) ?_
          refine AllReadyH.cons (by simp only [List.getElem?_toArray, List.getElem?_cons_succ, List.getElem?_cons_zero]; rfl) (fun K hK => ?_) AllReadyH.nil
          rw [if_pos (by rfl)]
          refine wp_store_mid 23 (.tmp 6) (.tmp 31) (by rfl) g6 0 #[.int .i64 (-70), .int .i64 40] (by rfl) (by rfl) (there_mid (o := 0) H6.out (by simp)) (by kernel_rfl) (by simp [Value.oneCell']) ?_
          replace HS := Lib.hid (HS.out.low (set2_low (x := .int .i64 (-70)) (y := .int .i64 40) (g := g6) (by omega)))
          replace H5 := Lib.hid (far2 (x := .int .i64 (-70)) (y := .int .i64 40) hne H5.out)
          replace H6 := Lib.hid (set2_blk (x := .int .i64 (-70)) (y := .int .i64 40) H6.out)
          refine hK.out _ _ ⟨HS.out.k1, HS.out.k2⟩ (fun hH6 => ?_)
          clear hK K
          try simp only [List.setIfInBounds_toArray, List.set_cons_zero, List.set_cons_succ]
          refine wpAnyH_take (i := 12 ) (v := ?_) rfl (by kernel_rfl) (by kernel_rfl) (by kernel_rfl) (fun _ _ _ h => h) (Or.inl ⟨by rfl, ?_⟩) (by assumption) ?_; rotate_left; (· (intro w0 hSw; clear hSw; go_simp); first | done | with_reducible rfl); (try simp only [Act.put, List.getElem_toArray, List.getElem_cons_succ, List.getElem_cons_zero, List.setIfInBounds_toArray, List.set_cons_zero, List.set_cons_succ])
          refine wpAnyH_done (by kernel_rfl) ?_ _
          go_wp2_with fail
          go_meet
          exact ⟨g5, g6, rfl, rfl, rfl, HS, H5, H6⟩
        refine AllReadyH.cons (by simp only [List.getElem?_toArray, List.getElem?_cons_succ, List.getElem?_cons_zero]; rfl) (fun K hK => ?_) ?_
        · go_simp
          have hb : Below X.heap.size X (X.alloc (.cells #[.int .i64 0, .int .i64 0] 23)) := (Below.refl _ _).alloc (Nat.le_refl _) _
          have H6 := Lib.hid (Blk.new X 23 #[.int .i64 0, .int .i64 0])
          have hg6 : q + 1 + 1 + 1 < X.heap.size := HS.out.k4.lt
          replace HS := Lib.hid (HS.out.call hb)
          clear hb
          generalize X.heap.size = g6 at *
          generalize World.alloc X _ = X at *
          refine hK.out _ _ ⟨HS.out.k1, HS.out.k2⟩ (fun hH7 => ?_)
          clear hK K
          try simp only [List.setIfInBounds_toArray, List.set_cons_zero, List.set_cons_succ]
          refine wpAnyH_ready (rs := [8]) (by kernel_rfl) (by simp) ?_
          refine AllReadyH.cons (by simp only [List.getElem?_toArray, List.getElem?_cons_succ, List.getElem?_cons_zero]; rfl) (fun K hK => ?_) AllReadyH.nil
          go_simp
          have hb : Below X.heap.size X (X.alloc (.cells #[.int .i64 0, .int .i64 0] 23)) := (Below.refl _ _).alloc (Nat.le_refl _) _
          have H5 := Lib.hid (Blk.new X 23 #[.int .i64 0, .int .i64 0])
          have hg5 : q + 1 + 1 + 1 < X.heap.size := HS.out.k4.lt
          have hne : X.heap.size ≠ g6 := (Nat.ne_of_lt H6.out.lt).symm
          replace HS := Lib.hid (HS.out.call hb)
          replace H6 := Lib.hid (H6.out.below hb H6.out.lt)
          clear hb
          generalize X.heap.size = g5 at *
          generalize World.alloc X _ = X at *
          refine hK.out _ _ ⟨HS.out.k1, HS.out.k2⟩ (fun hH8 => ?_)
          clear hK K
          try simp only [List.setIfInBounds_toArray, List.set_cons_zero, List.set_cons_succ]
          refine wpAnyH_ready (rs := [10]) (by kernel_rfl) (by simp) ?_
          refine AllReadyH.cons (by simp only [List.getElem?_toArray, List.getElem?_cons_succ, List.getElem?_cons_zero]; rfl) (fun K hK => ?_) AllReadyH.nil
          rw [if_pos (by rfl)]
          refine wp_store_mid 23 (.tmp 5) (.tmp 30) (by rfl) g5 0 #[.int .i64 (-11), .int .i64 19] (by rfl) (by rfl) (there_mid (o := 0) H5.out (by simp)) (by kernel_rfl) (by simp [Value.oneCell']) ?_
          replace HS := Lib.hid (HS.out.low (set2_low (x := .int .i64 (-11)) (y := .int .i64 19) (g := g5) (by omega)))
          replace H5 := Lib.hid (set2_blk (x := .int .i64 (-11)) (y := .int .i64 19) H5.out)
          replace H6 := Lib.hid (far2 (x := .int .i64 (-11)) (y := .int .i64 19) hne.symm H6.out)
          refine hK.out _ _ ⟨HS.out.k1, HS.out.k2⟩ (fun hH9 => ?_)
          clear hK K
          try simp only [List.setIfInBounds_toArray, List.set_cons_zero, List.set_cons_succ]
          refine wpAnyH_ready (rs := [11]) (by kernel_rfl) (by simp) ?_
          refine AllReadyH.cons (by simp only [List.getElem?_toArray, List.getElem?_cons_succ, List.getElem?_cons_zero]; rfl) (fun K hK => ?_) AllReadyH.nil
          rw [if_pos (by rfl)]
          refine wp_store_mid 23 (.tmp 6) (.tmp 31) (by rfl) g6 0 #[.int .i64 (-70), .int .i64 40] (by rfl) (by rfl) (there_mid (o := 0) H6.out (by simp)) (by kernel_rfl) (by simp [Value.oneCell']) ?_
          replace HS := Lib.hid (HS.out.low (set2_low (x := .int .i64 (-70)) (y := .int .i64 40) (g := g6) (by omega)))
          replace H5 := Lib.hid (far2 (x := .int .i64 (-70)) (y := .int .i64 40) hne H5.out)
          replace H6 := Lib.hid (set2_blk (x := .int .i64 (-70)) (y := .int .i64 40) H6.out)
          refine hK.out _ _ ⟨HS.out.k1, HS.out.k2⟩ (fun hH10 => ?_)
          clear hK K
          try simp only [List.setIfInBounds_toArray, List.set_cons_zero, List.set_cons_succ]
          refine wpAnyH_take (i := 12 ) (v := ?_) rfl (by kernel_rfl) (by kernel_rfl) (by kernel_rfl) (fun _ _ _ h => h) (Or.inl ⟨by rfl, ?_⟩) (by assumption) ?_; rotate_left; (· (intro w0 hSw; clear hSw; go_simp); first | done | with_reducible rfl); (try simp only [Act.put, List.getElem_toArray, List.getElem_cons_succ, List.getElem_cons_zero, List.setIfInBounds_toArray, List.set_cons_zero, List.set_cons_succ])
          refine wpAnyH_done (by kernel_rfl) ?_ _
          go_wp2_with fail
          go_meet
          exact ⟨g5, g6, rfl, rfl, rfl, HS, H5, H6⟩
        exact AllReadyH.nil
      refine AllReadyH.cons (by simp only [List.getElem?_toArray, List.getElem?_cons_succ, List.getElem?_cons_zero]; rfl) (fun K hK => ?_) ?_
      · go_simp
        have hb : Below X.heap.size X (X.alloc (.cells #[.int .i64 0, .int .i64 0] 23)) := (Below.refl _ _).alloc (Nat.le_refl _) _
        have H5 := Lib.hid (Blk.new X 23 #[.int .i64 0, .int .i64 0])
        have hg5 : q + 1 + 1 + 1 < X.heap.size := HS.out.k4.lt
        replace HS := Lib.hid (HS.out.call hb)
        clear hb
        generalize X.heap.size = g5 at *
        generalize World.alloc X _ = X at *
        refine hK.out _ _ ⟨HS.out.k1, HS.out.k2⟩ (fun hH11 => ?_)
        clear hK K
        try simp only [List.setIfInBounds_toArray, List.set_cons_zero, List.set_cons_succ]
        refine wpAnyH_ready (rs := [3, 9]) (by kernel_rfl) (by simp) ?_
        refine AllReadyH.cons (by simp only [List.getElem?_toArray, List.getElem?_cons_succ, List.getElem?_cons_zero]; rfl) (fun K hK => ?_) ?_
        · go_simp
          refine (offL_any _).mono ?_
          rintro e X ⟨rfl, hb⟩
          replace HS := Lib.hid (HS.out.call hb)
          replace H5 := Lib.hid (H5.out.below hb H5.out.lt)
          clear hb
          refine hK.out _ _ ⟨HS.out.k1, HS.out.k2⟩ (fun hH12 => ?_)
          clear hK K
          try simp only [List.setIfInBounds_toArray, List.set_cons_zero, List.set_cons_succ]
          refine wpAnyH_take (i := 4 ) (v := ?_) rfl (by kernel_rfl) (by kernel_rfl) (by kernel_rfl) (fun _ _ _ h => h) (Or.inl ⟨by rfl, ?_⟩) (by assumption) ?_; rotate_left; (· (intro w0 hSw; clear hSw; go_simp); first | done | with_reducible rfl); (try simp only [Act.put, List.getElem_toArray, List.getElem_cons_succ, List.getElem_cons_zero, List.setIfInBounds_toArray, List.set_cons_zero, List.set_cons_succ])
          refine wpAnyH_take (i := 5 ) (v := ?_) rfl (by kernel_rfl) (by kernel_rfl) (by kernel_rfl) (fun _ _ _ h => h) (Or.inl ⟨by rfl, ?_⟩) (by assumption) ?_; rotate_left; (· (intro w0 hSw; clear hSw; go_simp); first | done | with_reducible rfl); (try simp only [Act.put, List.getElem_toArray, List.getElem_cons_succ, List.getElem_cons_zero, List.setIfInBounds_toArray, List.set_cons_zero, List.set_cons_succ])
          refine wpAnyH_take (i := 6 ) (v := ?_) rfl (by kernel_rfl) (by kernel_rfl) (by kernel_rfl) (fun _ _ _ h => h) (Or.inl ⟨by rfl, ?_⟩) (by assumption) ?_; rotate_left; (· (intro w0 hSw; clear hSw; go_simp); first | done | with_reducible rfl); (try simp only [Act.put, List.getElem_toArray, List.getElem_cons_succ, List.getElem_cons_zero, List.setIfInBounds_toArray, List.set_cons_zero, List.set_cons_succ])
          refine wpAnyH_take (i := 7 ) (v := ?_) rfl (by kernel_rfl) (by kernel_rfl) (by kernel_rfl) (fun _ _ _ h => h) (Or.inl ⟨by rfl, ?_⟩) (by assumption) ?_; rotate_left; (· (intro w0 hSw; clear hSw; go_simp); first | done | with_reducible rfl); (try simp only [Act.put, List.getElem_toArray, List.getElem_cons_succ, List.getElem_cons_zero, List.setIfInBounds_toArray, List.set_cons_zero, List.set_cons_succ])
          refine wpAnyH_ready (rs := [9]) (by kernel_rfl) (by simp) ?_
          refine AllReadyH.cons (by simp only [List.getElem?_toArray, List.getElem?_cons_succ, List.getElem?_cons_zero]; rfl) (fun K hK => ?_) AllReadyH.nil
          go_simp
          have hb : Below X.heap.size X (X.alloc (.cells #[.int .i64 0, .int .i64 0] 23)) := (Below.refl _ _).alloc (Nat.le_refl _) _
          have H6 := Lib.hid (Blk.new X 23 #[.int .i64 0, .int .i64 0])
          have hg6 : q + 1 + 1 + 1 < X.heap.size := HS.out.k4.lt
          have hne : g5 ≠ X.heap.size := Nat.ne_of_lt H5.out.lt
          replace HS := Lib.hid (HS.out.call hb)
          replace H5 := Lib.hid (H5.out.below hb H5.out.lt)
          clear hb
          generalize X.heap.size = g6 at *
          generalize World.alloc X _ = X at *
          refine hK.out _ _ ⟨HS.out.k1, HS.out.k2⟩ (fun hH13 => ?_)
          clear hK K
          try simp only [List.setIfInBounds_toArray, List.set_cons_zero, List.set_cons_succ]
          refine wpAnyH_ready (rs := [10]) (by kernel_rfl) (by simp) ?_
          refine AllReadyH.cons (by simp only [List.getElem?_toArray, List.getElem?_cons_succ, List.getElem?_cons_zero]; rfl) (fun K hK => ?_) AllReadyH.nil
          rw [if_pos (by rfl)]
          refine wp_store_mid 23 (.tmp 5) (.tmp 30) (by rfl) g5 0 #[.int .i64 (-11), .int .i64 19] (by rfl) (by rfl) (there_mid (o := 0) H5.out (by simp)) (by kernel_rfl) (by simp [Value.oneCell']) ?_
          replace HS := Lib.hid (HS.out.low (set2_low (x := .int .i64 (-11)) (y := .int .i64 19) (g := g5) (by omega)))
          replace H5 := Lib.hid (set2_blk (x := .int .i64 (-11)) (y := .int .i64 19) H5.out)
          replace H6 := Lib.hid (far2 (x := .int .i64 (-11)) (y := .int .i64 19) hne.symm H6.out)
          refine hK.out _ _ ⟨HS.out.k1, HS.out.k2⟩ (fun hH14 => ?_)
          clear hK K
          try simp only [List.setIfInBounds_toArray, List.set_cons_zero, List.set_cons_succ]
          refine wpAnyH_ready (rs := [11]) (by kernel_rfl) (by simp) ?_
          refine AllReadyH.cons (by simp only [List.getElem?_toArray, List.getElem?_cons_succ, List.getElem?_cons_zero]; rfl) (fun K hK => ?_) AllReadyH.nil
          rw [if_pos (by rfl)]
          refine wp_store_mid 23 (.tmp 6) (.tmp 31) (by rfl) g6 0 #[.int .i64 (-70), .int .i64 40] (by rfl) (by rfl) (there_mid (o := 0) H6.out (by simp)) (by kernel_rfl) (by simp [Value.oneCell']) ?_
          replace HS := Lib.hid (HS.out.low (set2_low (x := .int .i64 (-70)) (y := .int .i64 40) (g := g6) (by omega)))
          replace H5 := Lib.hid (far2 (x := .int .i64 (-70)) (y := .int .i64 40) hne H5.out)
          replace H6 := Lib.hid (set2_blk (x := .int .i64 (-70)) (y := .int .i64 40) H6.out)
          refine hK.out _ _ ⟨HS.out.k1, HS.out.k2⟩ (fun hH15 => ?_)
          clear hK K
          try simp only [List.setIfInBounds_toArray, List.set_cons_zero, List.set_cons_succ]
          refine wpAnyH_take (i := 12 ) (v := ?_) rfl (by kernel_rfl) (by kernel_rfl) (by kernel_rfl) (fun _ _ _ h => h) (Or.inl ⟨by rfl, ?_⟩) (by assumption) ?_; rotate_left; (· (intro w0 hSw; clear hSw; go_simp); first | done | with_reducible rfl); (try simp only [Act.put, List.getElem_toArray, List.getElem_cons_succ, List.getElem_cons_zero, List.setIfInBounds_toArray, List.set_cons_zero, List.set_cons_succ])
          refine wpAnyH_done (by kernel_rfl) ?_ _
          go_wp2_with fail
          go_meet
          exact ⟨g5, g6, rfl, rfl, rfl, HS, H5, H6⟩
        refine AllReadyH.cons (by simp only [List.getElem?_toArray, List.getElem?_cons_succ, List.getElem?_cons_zero]; rfl) (fun K hK => ?_) ?_
        · go_simp
          have hb : Below X.heap.size X (X.alloc (.cells #[.int .i64 0, .int .i64 0] 23)) := (Below.refl _ _).alloc (Nat.le_refl _) _
          have H6 := Lib.hid (Blk.new X 23 #[.int .i64 0, .int .i64 0])
          have hg6 : q + 1 + 1 + 1 < X.heap.size := HS.out.k4.lt
          have hne : g5 ≠ X.heap.size := Nat.ne_of_lt H5.out.lt
          replace HS := Lib.hid (HS.out.call hb)
          replace H5 := Lib.hid (H5.out.below hb H5.out.lt)
          clear hb
          generalize X.heap.size = g6 at *
          generalize World.alloc X _ = X at *
          refine hK.out _ _ ⟨HS.out.k1, HS.out.k2⟩ (fun hH16 => ?_)
          clear hK K
          try simp only [List.setIfInBounds_toArray, List.set_cons_zero, List.set_cons_succ]
          refine wpAnyH_ready (rs := [3]) (by kernel_rfl) (by simp) ?_
          refine AllReadyH.cons (by simp only [List.getElem?_toArray, List.getElem?_cons_succ, List.getElem?_cons_zero]; rfl) (fun K hK => ?_) AllReadyH.nil
          go_simp
          refine (offL_any _).mono ?_
          rintro e X ⟨rfl, hb⟩
          replace HS := Lib.hid (HS.out.call hb)
          replace H5 := Lib.hid (H5.out.below hb H5.out.lt)
          replace H6 := Lib.hid (H6.out.below hb H6.out.lt)
          clear hb
          refine hK.out _ _ ⟨HS.out.k1, HS.out.k2⟩ (fun hH17 => ?_)
          clear hK K
          try simp only [List.setIfInBounds_toArray, List.set_cons_zero, List.set_cons_succ]
          refine wpAnyH_take (i := 4 ) (v := ?_) rfl (by kernel_rfl) (by kernel_rfl) (by kernel_rfl) (fun _ _ _ h => h) (Or.inl ⟨by rfl, ?_⟩) (by assumption) ?_; rotate_left; (· (intro w0 hSw; clear hSw; go_simp); first | done | with_reducible rfl); (try simp only [Act.put, List.getElem_toArray, List.getElem_cons_succ, List.getElem_cons_zero, List.setIfInBounds_toArray, List.set_cons_zero, List.set_cons_succ])
          refine wpAnyH_take (i := 5 ) (v := ?_) rfl (by kernel_rfl) (by kernel_rfl) (by kernel_rfl) (fun _ _ _ h => h) (Or.inl ⟨by rfl, ?_⟩) (by assumption) ?_; rotate_left; (· (intro w0 hSw; clear hSw; go_simp); first | done | with_reducible rfl); (try simp only [Act.put, List.getElem_toArray, List.getElem_cons_succ, List.getElem_cons_zero, List.setIfInBounds_toArray, List.set_cons_zero, List.set_cons_succ])
          refine wpAnyH_take (i := 6 ) (v := ?_) rfl (by kernel_rfl) (by kernel_rfl) (by kernel_rfl) (fun _ _ _ h => h) (Or.inl ⟨by rfl, ?_⟩) (by assumption) ?_; rotate_left; (· (intro w0 hSw; clear hSw; go_simp); first | done | with_reducible rfl); (try simp only [Act.put, List.getElem_toArray, List.getElem_cons_succ, List.getElem_cons_zero, List.setIfInBounds_toArray, List.set_cons_zero, List.set_cons_succ])
          refine wpAnyH_take (i := 7 ) (v := ?_) rfl (by kernel_rfl) (by kernel_rfl) (by kernel_rfl) (fun _ _ _ h => h) (Or.inl ⟨by rfl, ?_⟩) (by assumption) ?_; rotate_left; (· (intro w0 hSw; clear hSw; go_simp); first | done | with_reducible rfl); (try simp only [Act.put, List.getElem_toArray, List.getElem_cons_succ, List.getElem_cons_zero, List.setIfInBounds_toArray, List.set_cons_zero, List.set_cons_succ])
          refine wpAnyH_ready (rs := [10]) (by kernel_rfl) (by simp) ?_
          refine AllReadyH.cons (by simp only [List.getElem?_toArray, List.getElem?_cons_succ, List.getElem?_cons_zero]; rfl) (fun K hK => ?_) AllReadyH.nil
          rw [if_pos (by rfl)]
          refine wp_store_mid 23 (.tmp 5) (.tmp 30) (by rfl) g5 0 #[.int .i64 (-11), .int .i64 19] (by rfl) (by rfl) (there_mid (o := 0) H5.out (by simp)) (by kernel_rfl) (by simp [Value.oneCell']) ?_
          replace HS := Lib.hid (HS.out.low (set2_low (x := .int .i64 (-11)) (y := .int .i64 19) (g := g5) (by omega)))
          replace H5 := Lib.hid (set2_blk (x := .int .i64 (-11)) (y := .int .i64 19) H5.out)
          replace H6 := Lib.hid (far2 (x := .int .i64 (-11)) (y := .int .i64 19) hne.symm H6.out)
          refine hK.out _ _ ⟨HS.out.k1, HS.out.k2⟩ (fun hH18 => ?_)
          clear hK K
          try simp only [List.setIfInBounds_toArray, List.set_cons_zero, List.set_cons_succ]
          refine wpAnyH_ready (rs := [11]) (by kernel_rfl) (by simp) ?_
          refine AllReadyH.cons (by simp only [List.getElem?_toArray, List.getElem?_cons_succ, List.getElem?_cons_zero]; rfl) (fun K hK => ?_) AllReadyH.nil
          rw [if_pos (by rfl)]
          refine wp_store_mid 23 (.tmp 6) (.tmp 31) (by rfl) g6 0 #[.int .i64 (-70), .int .i64 40] (by rfl) (by rfl) (there_mid (o := 0) H6.out (by simp)) (by kernel_rfl) (by simp [Value.oneCell']) ?_
          replace HS := Lib.hid (HS.out.low (set2_low (x := .int .i64 (-70)) (y := .int .i64 40) (g := g6) (by omega)))
          replace H5 := Lib.hid (far2 (x := .int .i64 (-70)) (y := .int .i64 40) hne H5.out)
          replace H6 := Lib.hid (set2_blk (x := .int .i64 (-70)) (y := .int .i64 40) H6.out)
          refine hK.out _ _ ⟨HS.out.k1, HS.out.k2⟩ (fun hH19 => ?_)
          clear hK K
          try simp only [List.setIfInBounds_toArray, List.set_cons_zero, List.set_cons_succ]
          refine wpAnyH_take (i := 12 ) (v := ?_) rfl (by kernel_rfl) (by kernel_rfl) (by kernel_rfl) (fun _ _ _ h => h) (Or.inl ⟨by rfl, ?_⟩) (by assumption) ?_; rotate_left; (· (intro w0 hSw; clear hSw; go_simp); first | done | with_reducible rfl); (try simp only [Act.put, List.getElem_toArray, List.getElem_cons_succ, List.getElem_cons_zero, List.setIfInBounds_toArray, List.set_cons_zero, List.set_cons_succ])
          refine wpAnyH_done (by kernel_rfl) ?_ _
          go_wp2_with fail
          go_meet
          exact ⟨g5, g6, rfl, rfl, rfl, HS, H5, H6⟩
        exact AllReadyH.nil
      refine AllReadyH.cons (by simp only [List.getElem?_toArray, List.getElem?_cons_succ, List.getElem?_cons_zero]; rfl) (fun K hK => ?_) ?_
      · go_simp
        have hb : Below X.heap.size X (X.alloc (.cells #[.int .i64 0, .int .i64 0] 23)) := (Below.refl _ _).alloc (Nat.le_refl _) _
        have H6 := Lib.hid (Blk.new X 23 #[.int .i64 0, .int .i64 0])
        have hg6 : q + 1 + 1 + 1 < X.heap.size := HS.out.k4.lt
        replace HS := Lib.hid (HS.out.call hb)
        clear hb
        generalize X.heap.size = g6 at *
        generalize World.alloc X _ = X at *
        refine hK.out _ _ ⟨HS.out.k1, HS.out.k2⟩ (fun hH20 => ?_)
        clear hK K
        try simp only [List.setIfInBounds_toArray, List.set_cons_zero, List.set_cons_succ]
        refine wpAnyH_ready (rs := [3, 8]) (by kernel_rfl) (by simp) ?_
        refine AllReadyH.cons (by simp only [List.getElem?_toArray, List.getElem?_cons_succ, List.getElem?_cons_zero]; rfl) (fun K hK => ?_) ?_
        · go_simp
          refine (offL_any _).mono ?_
          rintro e X ⟨rfl, hb⟩
          replace HS := Lib.hid (HS.out.call hb)
          replace H6 := Lib.hid (H6.out.below hb H6.out.lt)
          clear hb
          refine hK.out _ _ ⟨HS.out.k1, HS.out.k2⟩ (fun hH21 => ?_)
          clear hK K
          try simp only [List.setIfInBounds_toArray, List.set_cons_zero, List.set_cons_succ]
          refine wpAnyH_take (i := 4 ) (v := ?_) rfl (by kernel_rfl) (by kernel_rfl) (by kernel_rfl) (fun _ _ _ h => h) (Or.inl ⟨by rfl, ?_⟩) (by assumption) ?_; rotate_left; (· (intro w0 hSw; clear hSw; go_simp); first | done | with_reducible rfl); (try simp only [Act.put, List.getElem_toArray, List.getElem_cons_succ, List.getElem_cons_zero, List.setIfInBounds_toArray, List.set_cons_zero, List.set_cons_succ])
          refine wpAnyH_take (i := 5 ) (v := ?_) rfl (by kernel_rfl) (by kernel_rfl) (by kernel_rfl) (fun _ _ _ h => h) (Or.inl ⟨by rfl, ?_⟩) (by assumption) ?_; rotate_left; (· (intro w0 hSw; clear hSw; go_simp); first | done | with_reducible rfl); (try simp only [Act.put, List.getElem_toArray, List.getElem_cons_succ, List.getElem_cons_zero, List.setIfInBounds_toArray, List.set_cons_zero, List.set_cons_succ])
          refine wpAnyH_take (i := 6 ) (v := ?_) rfl (by kernel_rfl) (by kernel_rfl) (by kernel_rfl) (fun _ _ _ h => h) (Or.inl ⟨by rfl, ?_⟩) (by assumption) ?_; rotate_left; (· (intro w0 hSw; clear hSw; go_simp); first | done | with_reducible rfl); (try simp only [Act.put, List.getElem_toArray, List.getElem_cons_succ, List.getElem_cons_zero, List.setIfInBounds_toArray, List.set_cons_zero, List.set_cons_succ])
          refine wpAnyH_take (i := 7 ) (v := ?_) rfl (by kernel_rfl) (by kernel_rfl) (by kernel_rfl) (fun _ _ _ h => h) (Or.inl ⟨by rfl, ?_⟩) (by assumption) ?_; rotate_left; (· (intro w0 hSw; clear hSw; go_simp); first | done | with_reducible rfl); (try simp only [Act.put, List.getElem_toArray, List.getElem_cons_succ, List.getElem_cons_zero, List.setIfInBounds_toArray, List.set_cons_zero, List.set_cons_succ])
          refine wpAnyH_ready (rs := [8]) (by kernel_rfl) (by simp) ?_
          refine AllReadyH.cons (by simp only [List.getElem?_toArray, List.getElem?_cons_succ, List.getElem?_cons_zero]; rfl) (fun K hK => ?_) AllReadyH.nil
          go_simp
          have hb : Below X.heap.size X (X.alloc (.cells #[.int .i64 0, .int .i64 0] 23)) := (Below.refl _ _).alloc (Nat.le_refl _) _
          have H5 := Lib.hid (Blk.new X 23 #[.int .i64 0, .int .i64 0])
          have hg5 : q + 1 + 1 + 1 < X.heap.size := HS.out.k4.lt
          have hne : X.heap.size ≠ g6 := (Nat.ne_of_lt H6.out.lt).symm
          replace HS := Lib.hid (HS.out.call hb)
          replace H6 := Lib.hid (H6.out.below hb H6.out.lt)
          clear hb
          generalize X.heap.size = g5 at *
          generalize World.alloc X _ = X at *
          refine hK.out _ _ ⟨HS.out.k1, HS.out.k2⟩ (fun hH22 => ?_)
          clear hK K
          try simp only [List.setIfInBounds_toArray, List.set_cons_zero, List.set_cons_succ]
          refine wpAnyH_ready (rs := [10]) (by kernel_rfl) (by simp) ?_
          refine AllReadyH.cons (by simp only [List.getElem?_toArray, List.getElem?_cons_succ, List.getElem?_cons_zero]; rfl) (fun K hK => ?_) AllReadyH.nil
          rw [if_pos (by rfl)]
          refine wp_store_mid 23 (.tmp 5) (.tmp 30) (by rfl) g5 0 #[.int .i64 (-11), .int .i64 19] (by rfl) (by rfl) (there_mid (o := 0) H5.out (by simp)) (by kernel_rfl) (by simp [Value.oneCell']) ?_
          replace HS := Lib.hid (HS.out.low (set2_low (x := .int .i64 (-11)) (y := .int .i64 19) (g := g5) (by omega)))
          replace H5 := Lib.hid (set2_blk (x := .int .i64 (-11)) (y := .int .i64 19) H5.out)
          replace H6 := Lib.hid (far2 (x := .int .i64 (-11)) (y := .int .i64 19) hne.symm H6.out)
          refine hK.out _ _ ⟨HS.out.k1, HS.out.k2⟩ (fun hH23 => ?_)
          clear hK K
          try simp only [List.setIfInBounds_toArray, List.set_cons_zero, List.set_cons_succ]
          refine wpAnyH_ready (rs := [11]) (by kernel_rfl) (by simp) ?_
          refine AllReadyH.cons (by simp only [List.getElem?_toArray, List.getElem?_cons_succ, List.getElem?_cons_zero]; rfl) (fun K hK => ?_) AllReadyH.nil
          rw [if_pos (by rfl)]
          refine wp_store_mid 23 (.tmp 6) (.tmp 31) (by rfl) g6 0 #[.int .i64 (-70), .int .i64 40] (by rfl) (by rfl) (there_mid (o := 0) H6.out (by simp)) (by kernel_rfl) (by simp [Value.oneCell']) ?_
          replace HS := Lib.hid (HS.out.low (set2_low (x := .int .i64 (-70)) (y := .int .i64 40) (g := g6) (by omega)))
          replace H5 := Lib.hid (far2 (x := .int .i64 (-70)) (y := .int .i64 40) hne H5.out)
          replace H6 := Lib.hid (set2_blk (x := .int .i64 (-70)) (y := .int .i64 40) H6.out)
          refine hK.out _ _ ⟨HS.out.k1, HS.out.k2⟩ (fun hH24 => ?_)
          clear hK K
          try simp only [List.setIfInBounds_toArray, List.set_cons_zero, List.set_cons_succ]
          refine wpAnyH_take (i := 12 ) (v := ?_) rfl (by kernel_rfl) (by kernel_rfl) (by kernel_rfl) (fun _ _ _ h => h) (Or.inl ⟨by rfl, ?_⟩) (by assumption) ?_; rotate_left; (· (intro w0 hSw; clear hSw; go_simp); first | done | with_reducible rfl); (try simp only [Act.put, List.getElem_toArray, List.getElem_cons_succ, List.getElem_cons_zero, List.setIfInBounds_toArray, List.set_cons_zero, List.set_cons_succ])
          refine wpAnyH_done (by kernel_rfl) ?_ _
          go_wp2_with fail
          go_meet
          exact ⟨g5, g6, rfl, rfl, rfl, HS, H5, H6⟩
        refine AllReadyH.cons (by simp only [List.getElem?_toArray, List.getElem?_cons_succ, List.getElem?_cons_zero]; rfl) (fun K hK => ?_) ?_
        · go_simp
          have hb : Below X.heap.size X (X.alloc (.cells #[.int .i64 0, .int .i64 0] 23)) := (Below.refl _ _).alloc (Nat.le_refl _) _
          have H5 := Lib.hid (Blk.new X 23 #[.int .i64 0, .int .i64 0])
          have hg5 : q + 1 + 1 + 1 < X.heap.size := HS.out.k4.lt
          have hne : X.heap.size ≠ g6 := (Nat.ne_of_lt H6.out.lt).symm
          replace HS := Lib.hid (HS.out.call hb)
          replace H6 := Lib.hid (H6.out.below hb H6.out.lt)
          clear hb
          generalize X.heap.size = g5 at *
          generalize World.alloc X _ = X at *
          refine hK.out _ _ ⟨HS.out.k1, HS.out.k2⟩ (fun hH25 => ?_)
          clear hK K
          try simp only [List.setIfInBounds_toArray, List.set_cons_zero, List.set_cons_succ]
          refine wpAnyH_ready (rs := [3]) (by kernel_rfl) (by simp) ?_
          refine AllReadyH.cons (by simp only [List.getElem?_toArray, List.getElem?_cons_succ, List.getElem?_cons_zero]; rfl) (fun K hK => ?_) AllReadyH.nil
          go_simp
          refine (offL_any _).mono ?_
          rintro e X ⟨rfl, hb⟩
          replace HS := Lib.hid (HS.out.call hb)
          replace H5 := Lib.hid (H5.out.below hb H5.out.lt)
          replace H6 := Lib.hid (H6.out.below hb H6.out.lt)
          clear hb
          refine hK.out _ _ ⟨HS.out.k1, HS.out.k2⟩ (fun hH26 => ?_)
          clear hK K
          try simp only [List.setIfInBounds_toArray, List.set_cons_zero, List.set_cons_succ]
          refine wpAnyH_take (i := 4 ) (v := ?_) rfl (by kernel_rfl) (by kernel_rfl) (by kernel_rfl) (fun _ _ _ h => h) (Or.inl ⟨by rfl, ?_⟩) (by assumption) ?_; rotate_left; (· (intro w0 hSw; clear hSw; go_simp); first | done | with_reducible rfl); (try simp only [Act.put, List.getElem_toArray, List.getElem_cons_succ, List.getElem_cons_zero, List.setIfInBounds_toArray, List.set_cons_zero, List.set_cons_succ])
          refine wpAnyH_take (i := 5 ) (v := ?_) rfl (by kernel_rfl) (by kernel_rfl) (by kernel_rfl) (fun _ _ _ h => h) (Or.inl ⟨by rfl, ?_⟩) (by assumption) ?_; rotate_left; (· (intro w0 hSw; clear hSw; go_simp); first | done | with_reducible rfl); (try simp only [Act.put, List.getElem_toArray, List.getElem_cons_succ, List.getElem_cons_zero, List.setIfInBounds_toArray, List.set_cons_zero, List.set_cons_succ])
          refine wpAnyH_take (i := 6 ) (v := ?_) rfl (by kernel_rfl) (by kernel_rfl) (by kernel_rfl) (fun _ _ _ h => h) (Or.inl ⟨by rfl, ?_⟩) (by assumption) ?_; rotate_left; (· (intro w0 hSw; clear hSw; go_simp); first | done | with_reducible rfl); (try simp only [Act.put, List.getElem_toArray, List.getElem_cons_succ, List.getElem_cons_zero, List.setIfInBounds_toArray, List.set_cons_zero, List.set_cons_succ])
          refine wpAnyH_take (i := 7 ) (v := ?_) rfl (by kernel_rfl) (by kernel_rfl) (by kernel_rfl) (fun _ _ _ h => h) (Or.inl ⟨by rfl, ?_⟩) (by assumption) ?_; rotate_left; (· (intro w0 hSw; clear hSw; go_simp); first | done | with_reducible rfl); (try simp only [Act.put, List.getElem_toArray, List.getElem_cons_succ, List.getElem_cons_zero, List.setIfInBounds_toArray, List.set_cons_zero, List.set_cons_succ])
          refine wpAnyH_ready (rs := [10]) (by kernel_rfl) (by simp) ?_
          refine AllReadyH.cons (by simp only [List.getElem?_toArray, List.getElem?_cons_succ, List.getElem?_cons_zero]; rfl) (fun K hK => ?_) AllReadyH.nil
          rw [if_pos (by rfl)]
          refine wp_store_mid 23 (.tmp 5) (.tmp 30) (by rfl) g5 0 #[.int .i64 (-11), .int .i64 19] (by rfl) (by rfl) (there_mid (o := 0) H5.out (by simp)) (by kernel_rfl) (by simp [Value.oneCell']) ?_
          replace HS := Lib.hid (HS.out.low (set2_low (x := .int .i64 (-11)) (y := .int .i64 19) (g := g5) (by omega)))
          replace H5 := Lib.hid (set2_blk (x := .int .i64 (-11)) (y := .int .i64 19) H5.out)
          replace H6 := Lib.hid (far2 (x := .int .i64 (-11)) (y := .int .i64 19) hne.symm H6.out)
          refine hK.out _ _ ⟨HS.out.k1, HS.out.k2⟩ (fun hH27 => ?_)
          clear hK K
          try simp only [List.setIfInBounds_toArray, List.set_cons_zero, List.set_cons_succ]
          refine wpAnyH_ready (rs := [11]) (by kernel_rfl) (by simp) ?_
          refine AllReadyH.cons (by simp only [List.getElem?_toArray, List.getElem?_cons_succ, List.getElem?_cons_zero]; rfl) (fun K hK => ?_) AllReadyH.nil
          rw [if_pos (by rfl)]
          refine wp_store_mid 23 (.tmp 6) (.tmp 31) (by rfl) g6 0 #[.int .i64 (-70), .int .i64 40] (by rfl) (by rfl) (there_mid (o := 0) H6.out (by simp)) (by kernel_rfl) (by simp [Value.oneCell']) ?_
          replace HS := Lib.hid (HS.out.low (set2_low (x := .int .i64 (-70)) (y := .int .i64 40) (g := g6) (by omega)))
          replace H5 := Lib.hid (far2 (x := .int .i64 (-70)) (y := .int .i64 40) hne H5.out)
          replace H6 := Lib.hid (set2_blk (x := .int .i64 (-70)) (y := .int .i64 40) H6.out)
          refine hK.out _ _ ⟨HS.out.k1, HS.out.k2⟩ (fun hH28 => ?_)
          clear hK K
          try simp only [List.setIfInBounds_toArray, List.set_cons_zero, List.set_cons_succ]
          refine wpAnyH_take (i := 12 ) (v := ?_) rfl (by kernel_rfl) (by kernel_rfl) (by kernel_rfl) (fun _ _ _ h => h) (Or.inl ⟨by rfl, ?_⟩) (by assumption) ?_; rotate_left; (· (intro w0 hSw; clear hSw; go_simp); first | done | with_reducible rfl); (try simp only [Act.put, List.getElem_toArray, List.getElem_cons_succ, List.getElem_cons_zero, List.setIfInBounds_toArray, List.set_cons_zero, List.set_cons_succ])
          refine wpAnyH_done (by kernel_rfl) ?_ _
          go_wp2_with fail
          go_meet
          exact ⟨g5, g6, rfl, rfl, rfl, HS, H5, H6⟩
        exact AllReadyH.nil
      exact AllReadyH.nil
    refine AllReadyH.cons (by simp only [List.getElem?_toArray, List.getElem?_cons_succ, List.getElem?_cons_zero]; rfl) (fun K hK => ?_) ?_
    · go_simp
      have hb : Below V0.heap.size V0 (V0.alloc (.cells #[.int .i64 0, .int .i64 0] 23)) := (Below.refl _ _).alloc (Nat.le_refl _) _
      have H5 := Lib.hid (Blk.new V0 23 #[.int .i64 0, .int .i64 0])
      have hg5 : q + 1 + 1 + 1 < V0.heap.size := HS.out.k4.lt
      replace HS := Lib.hid (HS.out.call hb)
      clear hb
      generalize V0.heap.size = g5 at *
      generalize World.alloc V0 _ = X at *
      refine hK.out _ _ ⟨HS.out.k1, HS.out.k2⟩ (fun hH29 => ?_)
      clear hK K
      try simp only [List.setIfInBounds_toArray, List.set_cons_zero, List.set_cons_succ]
      refine wpAnyH_ready (rs := [0, 9]) (by kernel_rfl) (by simp) ?_
      refine AllReadyH.cons (by simp only [List.getElem?_toArray, List.getElem?_cons_zero]; rfl) (fun K hK => ?_) ?_
      · go_simp
        refine (jig45_any _).mono ?_
        rintro e X ⟨rfl, hb⟩
        replace HS := Lib.hid (HS.out.call hb)
        replace H5 := Lib.hid (H5.out.below hb H5.out.lt)
        clear hb
        refine hK.out _ _ ⟨HS.out.k1, HS.out.k2⟩ (fun hH30 => ?_)
        clear hK K
        try simp only [List.setIfInBounds_toArray, List.set_cons_zero]
        refine wpAnyH_ready (rs := [3, 9]) (by kernel_rfl) (by simp) ?_
        refine AllReadyH.cons (by simp only [List.getElem?_toArray, List.getElem?_cons_succ, List.getElem?_cons_zero]; rfl) (fun K hK => ?_) ?_
        · go_simp
          refine (offL_any _).mono ?_
          rintro e X ⟨rfl, hb⟩
          replace HS := Lib.hid (HS.out.call hb)
          replace H5 := Lib.hid (H5.out.below hb H5.out.lt)
          clear hb
          refine hK.out _ _ ⟨HS.out.k1, HS.out.k2⟩ (fun hH31 => ?_)
          clear hK K
          try simp only [List.setIfInBounds_toArray, List.set_cons_zero, List.set_cons_succ]
          refine wpAnyH_take (i := 4 ) (v := ?_) rfl (by kernel_rfl) (by kernel_rfl) (by kernel_rfl) (fun _ _ _ h => h) (Or.inl ⟨by rfl, ?_⟩) (by assumption) ?_; rotate_left; (· (intro w0 hSw; clear hSw; go_simp); first | done | with_reducible rfl); (try simp only [Act.put, List.getElem_toArray, List.getElem_cons_succ, List.getElem_cons_zero, List.setIfInBounds_toArray, List.set_cons_zero, List.set_cons_succ])
          refine wpAnyH_take (i := 5 ) (v := ?_) rfl (by kernel_rfl) (by kernel_rfl) (by kernel_rfl) (fun _ _ _ h => h) (Or.inl ⟨by rfl, ?_⟩) (by assumption) ?_; rotate_left; (· (intro w0 hSw; clear hSw; go_simp); first | done | with_reducible rfl); (try simp only [Act.put, List.getElem_toArray, List.getElem_cons_succ, List.getElem_cons_zero, List.setIfInBounds_toArray, List.set_cons_zero, List.set_cons_succ])
          refine wpAnyH_take (i := 6 ) (v := ?_) rfl (by kernel_rfl) (by kernel_rfl) (by kernel_rfl) (fun _ _ _ h => h) (Or.inl ⟨by rfl, ?_⟩) (by assumption) ?_; rotate_left; (· (intro w0 hSw; clear hSw; go_simp); first | done | with_reducible rfl); (try simp only [Act.put, List.getElem_toArray, List.getElem_cons_succ, List.getElem_cons_zero, List.setIfInBounds_toArray, List.set_cons_zero, List.set_cons_succ])
          refine wpAnyH_take (i := 7 ) (v := ?_) rfl (by kernel_rfl) (by kernel_rfl) (by kernel_rfl) (fun _ _ _ h => h) (Or.inl ⟨by rfl, ?_⟩) (by assumption) ?_; rotate_left; (· (intro w0 hSw; clear hSw; go_simp); first | done | with_reducible rfl); (try simp only [Act.put, List.getElem_toArray, List.getElem_cons_succ, List.getElem_cons_zero, List.setIfInBounds_toArray, List.set_cons_zero, List.set_cons_succ])
          refine wpAnyH_ready (rs := [9]) (by kernel_rfl) (by simp) ?_
          refine AllReadyH.cons (by simp only [List.getElem?_toArray, List.getElem?_cons_succ, List.getElem?_cons_zero]; rfl) (fun K hK => ?_) AllReadyH.nil
          go_simp
          have hb : Below X.heap.size X (X.alloc (.cells #[.int .i64 0, .int .i64 0] 23)) := (Below.refl _ _).alloc (Nat.le_refl _) _
          have H6 := Lib.hid (Blk.new X 23 #[.int .i64 0, .int .i64 0])
          have hg6 : q + 1 + 1 + 1 < X.heap.size := HS.out.k4.lt
          have hne : g5 ≠ X.heap.size := Nat.ne_of_lt H5.out.lt
          replace HS := Lib.hid (HS.out.call hb)
          replace H5 := Lib.hid (H5.out.below hb H5.out.lt)
          clear hb
          generalize X.heap.size = g6 at *
          generalize World.alloc X _ = X at *
          refine hK.out _ _ ⟨HS.out.k1, HS.out.k2⟩ (fun hH32 => ?_)
          clear hK K
          try simp only [List.setIfInBounds_toArray, List.set_cons_zero, List.set_cons_succ]
          refine wpAnyH_ready (rs := [10]) (by kernel_rfl) (by simp) ?_
          refine AllReadyH.cons (by simp only [List.getElem?_toArray, List.getElem?_cons_succ, List.getElem?_cons_zero]; rfl) (fun K hK => ?_) AllReadyH.nil
          rw [if_pos (by rfl)]
          refine wp_store_mid 23 (.tmp 5) (.tmp 30) (by rfl) g5 0 #[.int .i64 (-11), .int .i64 19] (by rfl) (by rfl) (there_mid (o := 0) H5.out (by simp)) (by kernel_rfl) (by simp [Value.oneCell']) ?_
          replace HS := Lib.hid (HS.out.low (set2_low (x := .int .i64 (-11)) (y := .int .i64 19) (g := g5) (by omega)))
          replace H5 := Lib.hid (set2_blk (x := .int .i64 (-11)) (y := .int .i64 19) H5.out)
          replace H6 := Lib.hid (far2 (x := .int .i64 (-11)) (y := .int .i64 19) hne.symm H6.out)
          refine hK.out _ _ ⟨HS.out.k1, HS.out.k2⟩ (fun hH33 => ?_)
          clear hK K
          try simp only [List.setIfInBounds_toArray, List.set_cons_zero, List.set_cons_succ]
          refine wpAnyH_ready (rs := [11]) (by kernel_rfl) (by simp) ?_
          refine AllReadyH.cons (by simp only [List.getElem?_toArray, List.getElem?_cons_succ, List.getElem?_cons_zero]; rfl) (fun K hK => ?_) AllReadyH.nil
          rw [if_pos (by rfl)]
          refine wp_store_mid 23 (.tmp 6) (.tmp 31) (by rfl) g6 0 #[.int .i64 (-70), .int .i64 40] (by rfl) (by rfl) (there_mid (o := 0) H6.out (by simp)) (by kernel_rfl) (by simp [Value.oneCell']) ?_
          replace HS := Lib.hid (HS.out.low (set2_low (x := .int .i64 (-70)) (y := .int .i64 40) (g := g6) (by omega)))
          replace H5 := Lib.hid (far2 (x := .int .i64 (-70)) (y := .int .i64 40) hne H5.out)
          replace H6 := Lib.hid (set2_blk (x := .int .i64 (-70)) (y := .int .i64 40) H6.out)
          refine hK.out _ _ ⟨HS.out.k1, HS.out.k2⟩ (fun hH34 => ?_)
          clear hK K
          try simp only [List.setIfInBounds_toArray, List.set_cons_zero, List.set_cons_succ]
          refine wpAnyH_take (i := 12 ) (v := ?_) rfl (by kernel_rfl) (by kernel_rfl) (by kernel_rfl) (fun _ _ _ h => h) (Or.inl ⟨by rfl, ?_⟩) (by assumption) ?_; rotate_left; (· (intro w0 hSw; clear hSw; go_simp); first | done | with_reducible rfl); (try simp only [Act.put, List.getElem_toArray, List.getElem_cons_succ, List.getElem_cons_zero, List.setIfInBounds_toArray, List.set_cons_zero, List.set_cons_succ])
          refine wpAnyH_done (by kernel_rfl) ?_ _
          go_wp2_with fail
          go_meet
          exact ⟨g5, g6, rfl, rfl, rfl, HS, H5, H6⟩
        refine AllReadyH.cons (by simp only [List.getElem?_toArray, List.getElem?_cons_succ, List.getElem?_cons_zero]; rfl) (fun K hK => ?_) ?_
        · go_simp
          have hb : Below X.heap.size X (X.alloc (.cells #[.int .i64 0, .int .i64 0] 23)) := (Below.refl _ _).alloc (Nat.le_refl _) _
          have H6 := Lib.hid (Blk.new X 23 #[.int .i64 0, .int .i64 0])
          have hg6 : q + 1 + 1 + 1 < X.heap.size := HS.out.k4.lt
          have hne : g5 ≠ X.heap.size := Nat.ne_of_lt H5.out.lt
          replace HS := Lib.hid (HS.out.call hb)
          replace H5 := Lib.hid (H5.out.below hb H5.out.lt)
          clear hb
          generalize X.heap.size = g6 at *
          generalize World.alloc X _ = X at *
          refine hK.out _ _ ⟨HS.out.k1, HS.out.k2⟩ (fun hH35 => ?_)
          clear hK K
          try simp only [List.setIfInBounds_toArray, List.set_cons_zero, List.set_cons_succ]
          refine wpAnyH_ready (rs := [3]) (by kernel_rfl) (by simp) ?_
          refine AllReadyH.cons (by simp only [List.getElem?_toArray, List.getElem?_cons_succ, List.getElem?_cons_zero]; rfl) (fun K hK => ?_) AllReadyH.nil
          go_simp
          refine (offL_any _).mono ?_
          rintro e X ⟨rfl, hb⟩
          replace HS := Lib.hid (HS.out.call hb)
          replace H5 := Lib.hid (H5.out.below hb H5.out.lt)
          replace H6 := Lib.hid (H6.out.below hb H6.out.lt)
          clear hb
          refine hK.out _ _ ⟨HS.out.k1, HS.out.k2⟩ (fun hH36 => ?_)
          clear hK K
          try simp only [List.setIfInBounds_toArray, List.set_cons_zero, List.set_cons_succ]
          refine wpAnyH_take (i := 4 ) (v := ?_) rfl (by kernel_rfl) (by kernel_rfl) (by kernel_rfl) (fun _ _ _ h => h) (Or.inl ⟨by rfl, ?_⟩) (by assumption) ?_; rotate_left; (· (intro w0 hSw; clear hSw; go_simp); first | done | with_reducible rfl); (try simp only [Act.put, List.getElem_toArray, List.getElem_cons_succ, List.getElem_cons_zero, List.setIfInBounds_toArray, List.set_cons_zero, List.set_cons_succ])
          refine wpAnyH_take (i := 5 ) (v := ?_) rfl (by kernel_rfl) (by kernel_rfl) (by kernel_rfl) (fun _ _ _ h => h) (Or.inl ⟨by rfl, ?_⟩) (by assumption) ?_; rotate_left; (· (intro w0 hSw; clear hSw; go_simp); first | done | with_reducible rfl); (try simp only [Act.put, List.getElem_toArray, List.getElem_cons_succ, List.getElem_cons_zero, List.setIfInBounds_toArray, List.set_cons_zero, List.set_cons_succ])
          refine wpAnyH_take (i := 6 ) (v := ?_) rfl (by kernel_rfl) (by kernel_rfl) (by kernel_rfl) (fun _ _ _ h => h) (Or.inl ⟨by rfl, ?_⟩) (by assumption) ?_; rotate_left; (· (intro w0 hSw; clear hSw; go_simp); first | done | with_reducible rfl); (try simp only [Act.put, List.getElem_toArray, List.getElem_cons_succ, List.getElem_cons_zero, List.setIfInBounds_toArray, List.set_cons_zero, List.set_cons_succ])
          refine wpAnyH_take (i := 7 ) (v := ?_) rfl (by kernel_rfl) (by kernel_rfl) (by kernel_rfl) (fun _ _ _ h => h) (Or.inl ⟨by rfl, ?_⟩) (by assumption) ?_; rotate_left; (· (intro w0 hSw; clear hSw; go_simp); first | done | with_reducible rfl); (try simp only [Act.put, List.getElem_toArray, List.getElem_cons_succ, List.getElem_cons_zero, List.setIfInBounds_toArray, List.set_cons_zero, List.set_cons_succ])
          refine wpAnyH_ready (rs := [10]) (by kernel_rfl) (by simp) ?_
          refine AllReadyH.cons (by simp only [List.getElem?_toArray, List.getElem?_cons_succ, List.getElem?_cons_zero]; rfl) (fun K hK => ?_) AllReadyH.nil
          rw [if_pos (by rfl)]
          refine wp_store_mid 23 (.tmp 5) (.tmp 30) (by rfl) g5 0 #[.int .i64 (-11), .int .i64 19] (by rfl) (by rfl) (there_mid (o := 0) H5.out (by simp)) (by kernel_rfl) (by simp [Value.oneCell']) ?_
          replace HS := Lib.hid (HS.out.low (set2_low (x := .int .i64 (-11)) (y := .int .i64 19) (g := g5) (by omega)))
          replace H5 := Lib.hid (set2_blk (x := .int .i64 (-11)) (y := .int .i64 19) H5.out)
          replace H6 := Lib.hid (far2 (x := .int .i64 (-11)) (y := .int .i64 19) hne.symm H6.out)
          refine hK.out _ _ ⟨HS.out.k1, HS.out.k2⟩ (fun hH37 => ?_)
          clear hK K
          try simp only [List.setIfInBounds_toArray, List.set_cons_zero, List.set_cons_succ]
          refine wpAnyH_ready (rs := [11]) (by kernel_rfl) (by simp) ?_
          refine AllReadyH.cons (by simp only [List.getElem?_toArray, List.getElem?_cons_succ, List.getElem?_cons_zero]; rfl) (fun K hK => ?_) AllReadyH.nil
          rw [if_pos (by rfl)]
          refine wp_store_mid 23 (.tmp 6) (.tmp 31) (by rfl) g6 0 #[.int .i64 (-70), .int .i64 40] (by rfl) (by rfl) (there_mid (o := 0) H6.out (by simp)) (by kernel_rfl) (by simp [Value.oneCell']) ?_
          replace HS := Lib.hid (HS.out.low (set2_low (x := .int .i64 (-70)) (y := .int .i64 40) (g := g6) (by omega)))
          replace H5 := Lib.hid (far2 (x := .int .i64 (-70)) (y := .int .i64 40) hne H5.out)
          replace H6 := Lib.hid (set2_blk (x := .int .i64 (-70)) (y := .int .i64 40) H6.out)
          refine hK.out _ _ ⟨HS.out.k1, HS.out.k2⟩ (fun hH38 => ?_)
          clear hK K
          try simp only [List.setIfInBounds_toArray, List.set_cons_zero, List.set_cons_succ]
          refine wpAnyH_take (i := 12 ) (v := ?_) rfl (by kernel_rfl) (by kernel_rfl) (by kernel_rfl) (fun _ _ _ h => h) (Or.inl ⟨by rfl, ?_⟩) (by assumption) ?_; rotate_left; (· (intro w0 hSw; clear hSw; go_simp); first | done | with_reducible rfl); (try simp only [Act.put, List.getElem_toArray, List.getElem_cons_succ, List.getElem_cons_zero, List.setIfInBounds_toArray, List.set_cons_zero, List.set_cons_succ])
          refine wpAnyH_done (by kernel_rfl) ?_ _
          go_wp2_with fail
          go_meet
          exact ⟨g5, g6, rfl, rfl, rfl, HS, H5, H6⟩
        exact AllReadyH.nil
      refine AllReadyH.cons (by simp only [List.getElem?_toArray, List.getElem?_cons_succ, List.getElem?_cons_zero]; rfl) (fun K hK => ?_) ?_
      · go_simp
        have hb : Below X.heap.size X (X.alloc (.cells #[.int .i64 0, .int .i64 0] 23)) := (Below.refl _ _).alloc (Nat.le_refl _) _
        have H6 := Lib.hid (Blk.new X 23 #[.int .i64 0, .int .i64 0])
        have hg6 : q + 1 + 1 + 1 < X.heap.size := HS.out.k4.lt
        have hne : g5 ≠ X.heap.size := Nat.ne_of_lt H5.out.lt
        replace HS := Lib.hid (HS.out.call hb)
        replace H5 := Lib.hid (H5.out.below hb H5.out.lt)
        clear hb
        generalize X.heap.size = g6 at *
        generalize World.alloc X _ = X at *
        refine hK.out _ _ ⟨HS.out.k1, HS.out.k2⟩ (fun hH39 => ?_)
        clear hK K
        try simp only [List.setIfInBounds_toArray, List.set_cons_zero, List.set_cons_succ]
        refine wpAnyH_ready (rs := [0]) (by kernel_rfl) (by simp) ?_
        refine AllReadyH.cons (by simp only [List.getElem?_toArray, List.getElem?_cons_zero]; rfl) (fun K hK => ?_) AllReadyH.nil
        go_simp
        refine (jig45_any _).mono ?_
        rintro e X ⟨rfl, hb⟩
        replace HS := Lib.hid (HS.out.call hb)
        replace H5 := Lib.hid (H5.out.below hb H5.out.lt)
        replace H6 := Lib.hid (H6.out.below hb H6.out.lt)
        clear hb
        refine hK.out _ _ ⟨HS.out.k1, HS.out.k2⟩ (fun hH40 => ?_)
        clear hK K
        try simp only [List.setIfInBounds_toArray, List.set_cons_zero]
        refine wpAnyH_ready (rs := [3]) (by kernel_rfl) (by simp) ?_
        refine AllReadyH.cons (by simp only [List.getElem?_toArray, List.getElem?_cons_succ, List.getElem?_cons_zero]; rfl) (fun K hK => ?_) AllReadyH.nil
        go_simp
        refine (offL_any _).mono ?_
        rintro e X ⟨rfl, hb⟩
        replace HS := Lib.hid (HS.out.call hb)
        replace H5 := Lib.hid (H5.out.below hb H5.out.lt)
        replace H6 := Lib.hid (H6.out.below hb H6.out.lt)
        clear hb
        refine hK.out _ _ ⟨HS.out.k1, HS.out.k2⟩ (fun hH41 => ?_)
        clear hK K
        try simp only [List.setIfInBounds_toArray, List.set_cons_zero, List.set_cons_succ]
        refine wpAnyH_take (i := 4 ) (v := ?_) rfl (by kernel_rfl) (by kernel_rfl) (by kernel_rfl) (fun _ _ _ h => h) (Or.inl ⟨by rfl, ?_⟩) (by assumption) ?_; rotate_left; (· (intro w0 hSw; clear hSw; go_simp); first | done | with_reducible rfl); (try simp only [Act.put, List.getElem_toArray, List.getElem_cons_succ, List.getElem_cons_zero, List.setIfInBounds_toArray, List.set_cons_zero, List.set_cons_succ])
        refine wpAnyH_take (i := 5 ) (v := ?_) rfl (by kernel_rfl) (by kernel_rfl) (by kernel_rfl) (fun _ _ _ h => h) (Or.inl ⟨by rfl, ?_⟩) (by assumption) ?_; rotate_left; (· (intro w0 hSw; clear hSw; go_simp); first | done | with_reducible rfl); (try simp only [Act.put, List.getElem_toArray, List.getElem_cons_succ, List.getElem_cons_zero, List.setIfInBounds_toArray, List.set_cons_zero, List.set_cons_succ])
        refine wpAnyH_take (i := 6 ) (v := ?_) rfl (by kernel_rfl) (by kernel_rfl) (by kernel_rfl) (fun _ _ _ h => h) (Or.inl ⟨by rfl, ?_⟩) (by assumption) ?_; rotate_left; (· (intro w0 hSw; clear hSw; go_simp); first | done | with_reducible rfl); (try simp only [Act.put, List.getElem_toArray, List.getElem_cons_succ, List.getElem_cons_zero, List.setIfInBounds_toArray, List.set_cons_zero, List.set_cons_succ])
        refine wpAnyH_take (i := 7 ) (v := ?_) rfl (by kernel_rfl) (by kernel_rfl) (by kernel_rfl) (fun _ _ _ h => h) (Or.inl ⟨by rfl, ?_⟩) (by assumption) ?_; rotate_left; (· (intro w0 hSw; clear hSw; go_simp); first | done | with_reducible rfl); (try simp only [Act.put, List.getElem_toArray, List.getElem_cons_succ, List.getElem_cons_zero, List.setIfInBounds_toArray, List.set_cons_zero, List.set_cons_succ])
        refine wpAnyH_ready (rs := [10]) (by kernel_rfl) (by simp) ?_
        refine AllReadyH.cons (by simp only [List.getElem?_toArray, List.getElem?_cons_succ, List.getElem?_cons_zero]; rfl) (fun K hK => ?_) AllReadyH.nil
        rw [if_pos (by rfl)]
        refine wp_store_mid 23 (.tmp 5) (.tmp 30) (by rfl) g5 0 #[.int .i64 (-11), .int .i64 19] (by rfl) (by rfl) (there_mid (o := 0) H5.out (by simp)) (by kernel_rfl) (by simp [Value.oneCell']) ?_
        replace HS := Lib.hid (HS.out.low (set2_low (x := .int .i64 (-11)) (y := .int .i64 19) (g := g5) (by omega)))
        replace H5 := Lib.hid (set2_blk (x := .int .i64 (-11)) (y := .int .i64 19) H5.out)
        replace H6 := Lib.hid (far2 (x := .int .i64 (-11)) (y := .int .i64 19) hne.symm H6.out)
        refine hK.out _ _ ⟨HS.out.k1, HS.out.k2⟩ (fun hH42 => ?_)
        clear hK K
        try simp only [List.setIfInBounds_toArray, List.set_cons_zero, List.set_cons_succ]
        refine wpAnyH_ready (rs := [11]) (by kernel_rfl) (by simp) ?_
        refine AllReadyH.cons (by simp only [List.getElem?_toArray, List.getElem?_cons_succ, List.getElem?_cons_zero]; rfl) (fun K hK => ?_) AllReadyH.nil
        rw [if_pos (by rfl)]
        refine wp_store_mid 23 (.tmp 6) (.tmp 31) (by rfl) g6 0 #[.int .i64 (-70), .int .i64 40] (by rfl) (by rfl) (there_mid (o := 0) H6.out (by simp)) (by kernel_rfl) (by simp [Value.oneCell']) ?_
        replace HS := Lib.hid (HS.out.low (set2_low (x := .int .i64 (-70)) (y := .int .i64 40) (g := g6) (by omega)))
        replace H5 := Lib.hid (far2 (x := .int .i64 (-70)) (y := .int .i64 40) hne H5.out)
        replace H6 := Lib.hid (set2_blk (x := .int .i64 (-70)) (y := .int .i64 40) H6.out)
        refine hK.out _ _ ⟨HS.out.k1, HS.out.k2⟩ (fun hH43 => ?_)
        clear hK K
        try simp only [List.setIfInBounds_toArray, List.set_cons_zero, List.set_cons_succ]
        refine wpAnyH_take (i := 12 ) (v := ?_) rfl (by kernel_rfl) (by kernel_rfl) (by kernel_rfl) (fun _ _ _ h => h) (Or.inl ⟨by rfl, ?_⟩) (by assumption) ?_; rotate_left; (· (intro w0 hSw; clear hSw; go_simp); first | done | with_reducible rfl); (try simp only [Act.put, List.getElem_toArray, List.getElem_cons_succ, List.getElem_cons_zero, List.setIfInBounds_toArray, List.set_cons_zero, List.set_cons_succ])
        refine wpAnyH_done (by kernel_rfl) ?_ _
        go_wp2_with fail
        go_meet
        exact ⟨g5, g6, rfl, rfl, rfl, HS, H5, H6⟩
      exact AllReadyH.nil
    refine AllReadyH.cons (by simp only [List.getElem?_toArray, List.getElem?_cons_succ, List.getElem?_cons_zero]; rfl) (fun K hK => ?_) ?_
    · go_simp
      have hb : Below V0.heap.size V0 (V0.alloc (.cells #[.int .i64 0, .int .i64 0] 23)) := (Below.refl _ _).alloc (Nat.le_refl _) _
      have H6 := Lib.hid (Blk.new V0 23 #[.int .i64 0, .int .i64 0])
      have hg6 : q + 1 + 1 + 1 < V0.heap.size := HS.out.k4.lt
      replace HS := Lib.hid (HS.out.call hb)
      clear hb
      generalize V0.heap.size = g6 at *
      generalize World.alloc V0 _ = X at *
      refine hK.out _ _ ⟨HS.out.k1, HS.out.k2⟩ (fun hH44 => ?_)
      clear hK K
      try simp only [List.setIfInBounds_toArray, List.set_cons_zero, List.set_cons_succ]
      refine wpAnyH_ready (rs := [0, 8]) (by kernel_rfl) (by simp) ?_
      refine AllReadyH.cons (by simp only [List.getElem?_toArray, List.getElem?_cons_zero]; rfl) (fun K hK => ?_) ?_
      · go_simp
        refine (jig45_any _).mono ?_
        rintro e X ⟨rfl, hb⟩
        replace HS := Lib.hid (HS.out.call hb)
        replace H6 := Lib.hid (H6.out.below hb H6.out.lt)
        clear hb
        refine hK.out _ _ ⟨HS.out.k1, HS.out.k2⟩ (fun hH45 => ?_)
        clear hK K
        try simp only [List.setIfInBounds_toArray, List.set_cons_zero]
        refine wpAnyH_ready (rs := [3, 8]) (by kernel_rfl) (by simp) ?_
        refine AllReadyH.cons (by simp only [List.getElem?_toArray, List.getElem?_cons_succ, List.getElem?_cons_zero]; rfl) (fun K hK => ?_) ?_
        · go_simp
          refine (offL_any _).mono ?_
          rintro e X ⟨rfl, hb⟩
          replace HS := Lib.hid (HS.out.call hb)
          replace H6 := Lib.hid (H6.out.below hb H6.out.lt)
          clear hb
          refine hK.out _ _ ⟨HS.out.k1, HS.out.k2⟩ (fun hH46 => ?_)
          clear hK K
          try simp only [List.setIfInBounds_toArray, List.set_cons_zero, List.set_cons_succ]
          refine wpAnyH_take (i := 4 ) (v := ?_) rfl (by kernel_rfl) (by kernel_rfl) (by kernel_rfl) (fun _ _ _ h => h) (Or.inl ⟨by rfl, ?_⟩) (by assumption) ?_; rotate_left; (· (intro w0 hSw; clear hSw; go_simp); first | done | with_reducible rfl); (try simp only [Act.put, List.getElem_toArray, List.getElem_cons_succ, List.getElem_cons_zero, List.setIfInBounds_toArray, List.set_cons_zero, List.set_cons_succ])
          refine wpAnyH_take (i := 5 ) (v := ?_) rfl (by kernel_rfl) (by kernel_rfl) (by kernel_rfl) (fun _ _ _ h => h) (Or.inl ⟨by rfl, ?_⟩) (by assumption) ?_; rotate_left; (· (intro w0 hSw; clear hSw; go_simp); first | done | with_reducible rfl); (try simp only [Act.put, List.getElem_toArray, List.getElem_cons_succ, List.getElem_cons_zero, List.setIfInBounds_toArray, List.set_cons_zero, List.set_cons_succ])
          refine wpAnyH_take (i := 6 ) (v := ?_) rfl (by kernel_rfl) (by kernel_rfl) (by kernel_rfl) (fun _ _ _ h => h) (Or.inl ⟨by rfl, ?_⟩) (by assumption) ?_; rotate_left; (· (intro w0 hSw; clear hSw; go_simp); first | done | with_reducible rfl); (try simp only [Act.put, List.getElem_toArray, List.getElem_cons_succ, List.getElem_cons_zero, List.setIfInBounds_toArray, List.set_cons_zero, List.set_cons_succ])
          refine wpAnyH_take (i := 7 ) (v := ?_) rfl (by kernel_rfl) (by kernel_rfl) (by kernel_rfl) (fun _ _ _ h => h) (Or.inl ⟨by rfl, ?_⟩) (by assumption) ?_; rotate_left; (· (intro w0 hSw; clear hSw; go_simp); first | done | with_reducible rfl); (try simp only [Act.put, List.getElem_toArray, List.getElem_cons_succ, List.getElem_cons_zero, List.setIfInBounds_toArray, List.set_cons_zero, List.set_cons_succ])
          refine wpAnyH_ready (rs := [8]) (by kernel_rfl) (by simp) ?_
          refine AllReadyH.cons (by simp only [List.getElem?_toArray, List.getElem?_cons_succ, List.getElem?_cons_zero]; rfl) (fun K hK => ?_) AllReadyH.nil
          go_simp
          have hb : Below X.heap.size X (X.alloc (.cells #[.int .i64 0, .int .i64 0] 23)) := (Below.refl _ _).alloc (Nat.le_refl _) _
          have H5 := Lib.hid (Blk.new X 23 #[.int .i64 0, .int .i64 0])
          have hg5 : q + 1 + 1 + 1 < X.heap.size := HS.out.k4.lt
          have hne : X.heap.size ≠ g6 := (Nat.ne_of_lt H6.out.lt).symm
          replace HS := Lib.hid (HS.out.call hb)
          replace H6 := Lib.hid (H6.out.below hb H6.out.lt)
          clear hb
          generalize X.heap.size = g5 at *
          generalize World.alloc X _ = X at *
          refine hK.out _ _ ⟨HS.out.k1, HS.out.k2⟩ (fun hH47 => ?_)
          clear hK K
          try simp only [List.setIfInBounds_toArray, List.set_cons_zero, List.set_cons_succ]
          refine wpAnyH_ready (rs := [10]) (by kernel_rfl) (by simp) ?_
          refine AllReadyH.cons (by simp only [List.getElem?_toArray, List.getElem?_cons_succ, List.getElem?_cons_zero]; rfl) (fun K hK => ?_) AllReadyH.nil
          rw [if_pos (by rfl)]
          refine wp_store_mid 23 (.tmp 5) (.tmp 30) (by rfl) g5 0 #[.int .i64 (-11), .int .i64 19] (by rfl) (by rfl) (there_mid (o := 0) H5.out (by simp)) (by kernel_rfl) (by simp [Value.oneCell']) ?_
          replace HS := Lib.hid (HS.out.low (set2_low (x := .int .i64 (-11)) (y := .int .i64 19) (g := g5) (by omega)))
          replace H5 := Lib.hid (set2_blk (x := .int .i64 (-11)) (y := .int .i64 19) H5.out)
          replace H6 := Lib.hid (far2 (x := .int .i64 (-11)) (y := .int .i64 19) hne.symm H6.out)
          refine hK.out _ _ ⟨HS.out.k1, HS.out.k2⟩ (fun hH48 => ?_)
          clear hK K
          try simp only [List.setIfInBounds_toArray, List.set_cons_zero, List.set_cons_succ]
          refine wpAnyH_ready (rs := [11]) (by kernel_rfl) (by simp) ?_
          refine AllReadyH.cons (by simp only [List.getElem?_toArray, List.getElem?_cons_succ, List.getElem?_cons_zero]; rfl) (fun K hK => ?_) AllReadyH.nil
          rw [if_pos (by rfl)]
          refine wp_store_mid 23 (.tmp 6) (.tmp 31) (by rfl) g6 0 #[.int .i64 (-70), .int .i64 40] (by rfl) (by rfl) (there_mid (o := 0) H6.out (by simp)) (by kernel_rfl) (by simp [Value.oneCell']) ?_
          replace HS := Lib.hid (HS.out.low (set2_low (x := .int .i64 (-70)) (y := .int .i64 40) (g := g6) (by omega)))
          replace H5 := Lib.hid (far2 (x := .int .i64 (-70)) (y := .int .i64 40) hne H5.out)
          replace H6 := Lib.hid (set2_blk (x := .int .i64 (-70)) (y := .int .i64 40) H6.out)
          refine hK.out _ _ ⟨HS.out.k1, HS.out.k2⟩ (fun hH49 => ?_)
          clear hK K
          try simp only [List.setIfInBounds_toArray, List.set_cons_zero, List.set_cons_succ]
          refine wpAnyH_take (i := 12 ) (v := ?_) rfl (by kernel_rfl) (by kernel_rfl) (by kernel_rfl) (fun _ _ _ h => h) (Or.inl ⟨by rfl, ?_⟩) (by assumption) ?_; rotate_left; (· (intro w0 hSw; clear hSw; go_simp); first | done | with_reducible rfl); (try simp only [Act.put, List.getElem_toArray, List.getElem_cons_succ, List.getElem_cons_zero, List.setIfInBounds_toArray, List.set_cons_zero, List.set_cons_succ])
          refine wpAnyH_done (by kernel_rfl) ?_ _
          go_wp2_with fail
          go_meet
          exact ⟨g5, g6, rfl, rfl, rfl, HS, H5, H6⟩
        refine AllReadyH.cons (by simp only [List.getElem?_toArray, List.getElem?_cons_succ, List.getElem?_cons_zero]; rfl) (fun K hK => ?_) ?_
        · go_simp
          have hb : Below X.heap.size X (X.alloc (.cells #[.int .i64 0, .int .i64 0] 23)) := (Below.refl _ _).alloc (Nat.le_refl _) _
          have H5 := Lib.hid (Blk.new X 23 #[.int .i64 0, .int .i64 0])
          have hg5 : q + 1 + 1 + 1 < X.heap.size := HS.out.k4.lt
          have hne : X.heap.size ≠ g6 := (Nat.ne_of_lt H6.out.lt).symm
          replace HS := Lib.hid (HS.out.call hb)
          replace H6 := Lib.hid (H6.out.below hb H6.out.lt)
          clear hb
          generalize X.heap.size = g5 at *
          generalize World.alloc X _ = X at *
          refine hK.out _ _ ⟨HS.out.k1, HS.out.k2⟩ (fun hH50 => ?_)
          clear hK K
          try simp only [List.setIfInBounds_toArray, List.set_cons_zero, List.set_cons_succ]
          refine wpAnyH_ready (rs := [3]) (by kernel_rfl) (by simp) ?_
          refine AllReadyH.cons (by simp only [List.getElem?_toArray, List.getElem?_cons_succ, List.getElem?_cons_zero]; rfl) (fun K hK => ?_) AllReadyH.nil
          go_simp
          refine (offL_any _).mono ?_
          rintro e X ⟨rfl, hb⟩
          replace HS := Lib.hid (HS.out.call hb)
          replace H5 := Lib.hid (H5.out.below hb H5.out.lt)
          replace H6 := Lib.hid (H6.out.below hb H6.out.lt)
          clear hb
          refine hK.out _ _ ⟨HS.out.k1, HS.out.k2⟩ (fun hH51 => ?_)
          clear hK K
          try simp only [List.setIfInBounds_toArray, List.set_cons_zero, List.set_cons_succ]
          refine wpAnyH_take (i := 4 ) (v := ?_) rfl (by kernel_rfl) (by kernel_rfl) (by kernel_rfl) (fun _ _ _ h => h) (Or.inl ⟨by rfl, ?_⟩) (by assumption) ?_; rotate_left; (· (intro w0 hSw; clear hSw; go_simp); first | done | with_reducible rfl); (try simp only [Act.put, List.getElem_toArray, List.getElem_cons_succ, List.getElem_cons_zero, List.setIfInBounds_toArray, List.set_cons_zero, List.set_cons_succ])
          refine wpAnyH_take (i := 5 ) (v := ?_) rfl (by kernel_rfl) (by kernel_rfl) (by kernel_rfl) (fun _ _ _ h => h) (Or.inl ⟨by rfl, ?_⟩) (by assumption) ?_; rotate_left; (· (intro w0 hSw; clear hSw; go_simp); first | done | with_reducible rfl); (try simp only [Act.put, List.getElem_toArray, List.getElem_cons_succ, List.getElem_cons_zero, List.setIfInBounds_toArray, List.set_cons_zero, List.set_cons_succ])
          refine wpAnyH_take (i := 6 ) (v := ?_) rfl (by kernel_rfl) (by kernel_rfl) (by kernel_rfl) (fun _ _ _ h => h) (Or.inl ⟨by rfl, ?_⟩) (by assumption) ?_; rotate_left; (· (intro w0 hSw; clear hSw; go_simp); first | done | with_reducible rfl); (try simp only [Act.put, List.getElem_toArray, List.getElem_cons_succ, List.getElem_cons_zero, List.setIfInBounds_toArray, List.set_cons_zero, List.set_cons_succ])
          refine wpAnyH_take (i := 7 ) (v := ?_) rfl (by kernel_rfl) (by kernel_rfl) (by kernel_rfl) (fun _ _ _ h => h) (Or.inl ⟨by rfl, ?_⟩) (by assumption) ?_; rotate_left; (· (intro w0 hSw; clear hSw; go_simp); first | done | with_reducible rfl); (try simp only [Act.put, List.getElem_toArray, List.getElem_cons_succ, List.getElem_cons_zero, List.setIfInBounds_toArray, List.set_cons_zero, List.set_cons_succ])
          refine wpAnyH_ready (rs := [10]) (by kernel_rfl) (by simp) ?_
          refine AllReadyH.cons (by simp only [List.getElem?_toArray, List.getElem?_cons_succ, List.getElem?_cons_zero]; rfl) (fun K hK => ?_) AllReadyH.nil
          rw [if_pos (by rfl)]
          refine wp_store_mid 23 (.tmp 5) (.tmp 30) (by rfl) g5 0 #[.int .i64 (-11), .int .i64 19] (by rfl) (by rfl) (there_mid (o := 0) H5.out (by simp)) (by kernel_rfl) (by simp [Value.oneCell']) ?_
          replace HS := Lib.hid (HS.out.low (set2_low (x := .int .i64 (-11)) (y := .int .i64 19) (g := g5) (by omega)))
          replace H5 := Lib.hid (set2_blk (x := .int .i64 (-11)) (y := .int .i64 19) H5.out)
          replace H6 := Lib.hid (far2 (x := .int .i64 (-11)) (y := .int .i64 19) hne.symm H6.out)
          refine hK.out _ _ ⟨HS.out.k1, HS.out.k2⟩ (fun hH52 => ?_)
          clear hK K
          try simp only [List.setIfInBounds_toArray, List.set_cons_zero, List.set_cons_succ]
          refine wpAnyH_ready (rs := [11]) (by kernel_rfl) (by simp) ?_
          refine AllReadyH.cons (by simp only [List.getElem?_toArray, List.getElem?_cons_succ, List.getElem?_cons_zero]; rfl) (fun K hK => ?_) AllReadyH.nil
          rw [if_pos (by rfl)]
          refine wp_store_mid 23 (.tmp 6) (.tmp 31) (by rfl) g6 0 #[.int .i64 (-70), .int .i64 40] (by rfl) (by rfl) (there_mid (o := 0) H6.out (by simp)) (by kernel_rfl) (by simp [Value.oneCell']) ?_
          replace HS := Lib.hid (HS.out.low (set2_low (x := .int .i64 (-70)) (y := .int .i64 40) (g := g6) (by omega)))
          replace H5 := Lib.hid (far2 (x := .int .i64 (-70)) (y := .int .i64 40) hne H5.out)
          replace H6 := Lib.hid (set2_blk (x := .int .i64 (-70)) (y := .int .i64 40) H6.out)
          refine hK.out _ _ ⟨HS.out.k1, HS.out.k2⟩ (fun hH53 => ?_)
          clear hK K
          try simp only [List.setIfInBounds_toArray, List.set_cons_zero, List.set_cons_succ]
          refine wpAnyH_take (i := 12 ) (v := ?_) rfl (by kernel_rfl) (by kernel_rfl) (by kernel_rfl) (fun _ _ _ h => h) (Or.inl ⟨by rfl, ?_⟩) (by assumption) ?_; rotate_left; (· (intro w0 hSw; clear hSw; go_simp); first | done | with_reducible rfl); (try simp only [Act.put, List.getElem_toArray, List.getElem_cons_succ, List.getElem_cons_zero, List.setIfInBounds_toArray, List.set_cons_zero, List.set_cons_succ])
          refine wpAnyH_done (by kernel_rfl) ?_ _
          go_wp2_with fail
          go_meet
          exact ⟨g5, g6, rfl, rfl, rfl, HS, H5, H6⟩
        exact AllReadyH.nil
      refine AllReadyH.cons (by simp only [List.getElem?_toArray, List.getElem?_cons_succ, List.getElem?_cons_zero]; rfl) (fun K hK => ?_) ?_
      · go_simp
        have hb : Below X.heap.size X (X.alloc (.cells #[.int .i64 0, .int .i64 0] 23)) := (Below.refl _ _).alloc (Nat.le_refl _) _
        have H5 := Lib.hid (Blk.new X 23 #[.int .i64 0, .int .i64 0])
        have hg5 : q + 1 + 1 + 1 < X.heap.size := HS.out.k4.lt
        have hne : X.heap.size ≠ g6 := (Nat.ne_of_lt H6.out.lt).symm
        replace HS := Lib.hid (HS.out.call hb)
        replace H6 := Lib.hid (H6.out.below hb H6.out.lt)
        clear hb
        generalize X.heap.size = g5 at *
        generalize World.alloc X _ = X at *
        refine hK.out _ _ ⟨HS.out.k1, HS.out.k2⟩ (fun hH54 => ?_)
        clear hK K
        try simp only [List.setIfInBounds_toArray, List.set_cons_zero, List.set_cons_succ]
        refine wpAnyH_ready (rs := [0]) (by kernel_rfl) (by simp) ?_
        refine AllReadyH.cons (by simp only [List.getElem?_toArray, List.getElem?_cons_zero]; rfl) (fun K hK => ?_) AllReadyH.nil
        go_simp
        refine (jig45_any _).mono ?_
        rintro e X ⟨rfl, hb⟩
        replace HS := Lib.hid (HS.out.call hb)
        replace H5 := Lib.hid (H5.out.below hb H5.out.lt)
        replace H6 := Lib.hid (H6.out.below hb H6.out.lt)
        clear hb
        refine hK.out _ _ ⟨HS.out.k1, HS.out.k2⟩ (fun hH55 => ?_)
        clear hK K
        try simp only [List.setIfInBounds_toArray, List.set_cons_zero]
        refine wpAnyH_ready (rs := [3]) (by kernel_rfl) (by simp) ?_
        refine AllReadyH.cons (by simp only [List.getElem?_toArray, List.getElem?_cons_succ, List.getElem?_cons_zero]; rfl) (fun K hK => ?_) AllReadyH.nil
        go_simp
        refine (offL_any _).mono ?_
        rintro e X ⟨rfl, hb⟩
        replace HS := Lib.hid (HS.out.call hb)
        replace H5 := Lib.hid (H5.out.below hb H5.out.lt)
        replace H6 := Lib.hid (H6.out.below hb H6.out.lt)
        clear hb
        refine hK.out _ _ ⟨HS.out.k1, HS.out.k2⟩ (fun hH56 => ?_)
        clear hK K
        try simp only [List.setIfInBounds_toArray, List.set_cons_zero, List.set_cons_succ]
        refine wpAnyH_take (i := 4 ) (v := ?_) rfl (by kernel_rfl) (by kernel_rfl) (by kernel_rfl) (fun _ _ _ h => h) (Or.inl ⟨by rfl, ?_⟩) (by assumption) ?_; rotate_left; (· (intro w0 hSw; clear hSw; go_simp); first | done | with_reducible rfl); (try simp only [Act.put, List.getElem_toArray, List.getElem_cons_succ, List.getElem_cons_zero, List.setIfInBounds_toArray, List.set_cons_zero, List.set_cons_succ])
        refine wpAnyH_take (i := 5 ) (v := ?_) rfl (by kernel_rfl) (by kernel_rfl) (by kernel_rfl) (fun _ _ _ h => h) (Or.inl ⟨by rfl, ?_⟩) (by assumption) ?_; rotate_left; (· (intro w0 hSw; clear hSw; go_simp); first | done | with_reducible rfl); (try simp only [Act.put, List.getElem_toArray, List.getElem_cons_succ, List.getElem_cons_zero, List.setIfInBounds_toArray, List.set_cons_zero, List.set_cons_succ])
        refine wpAnyH_take (i := 6 ) (v := ?_) rfl (by kernel_rfl) (by kernel_rfl) (by kernel_rfl) (fun _ _ _ h => h) (Or.inl ⟨by rfl, ?_⟩) (by assumption) ?_; rotate_left; (· (intro w0 hSw; clear hSw; go_simp); first | done | with_reducible rfl); (try simp only [Act.put, List.getElem_toArray, List.getElem_cons_succ, List.getElem_cons_zero, List.setIfInBounds_toArray, List.set_cons_zero, List.set_cons_succ])
        refine wpAnyH_take (i := 7 ) (v := ?_) rfl (by kernel_rfl) (by kernel_rfl) (by kernel_rfl) (fun _ _ _ h => h) (Or.inl ⟨by rfl, ?_⟩) (by assumption) ?_; rotate_left; (· (intro w0 hSw; clear hSw; go_simp); first | done | with_reducible rfl); (try simp only [Act.put, List.getElem_toArray, List.getElem_cons_succ, List.getElem_cons_zero, List.setIfInBounds_toArray, List.set_cons_zero, List.set_cons_succ])
        refine wpAnyH_ready (rs := [10]) (by kernel_rfl) (by simp) ?_
        refine AllReadyH.cons (by simp only [List.getElem?_toArray, List.getElem?_cons_succ, List.getElem?_cons_zero]; rfl) (fun K hK => ?_) AllReadyH.nil
        rw [if_pos (by rfl)]
        refine wp_store_mid 23 (.tmp 5) (.tmp 30) (by rfl) g5 0 #[.int .i64 (-11), .int .i64 19] (by rfl) (by rfl) (there_mid (o := 0) H5.out (by simp)) (by kernel_rfl) (by simp [Value.oneCell']) ?_
        replace HS := Lib.hid (HS.out.low (set2_low (x := .int .i64 (-11)) (y := .int .i64 19) (g := g5) (by omega)))
        replace H5 := Lib.hid (set2_blk (x := .int .i64 (-11)) (y := .int .i64 19) H5.out)
        replace H6 := Lib.hid (far2 (x := .int .i64 (-11)) (y := .int .i64 19) hne.symm H6.out)
        refine hK.out _ _ ⟨HS.out.k1, HS.out.k2⟩ (fun hH57 => ?_)
        clear hK K
        try simp only [List.setIfInBounds_toArray, List.set_cons_zero, List.set_cons_succ]
        refine wpAnyH_ready (rs := [11]) (by kernel_rfl) (by simp) ?_
        refine AllReadyH.cons (by simp only [List.getElem?_toArray, List.getElem?_cons_succ, List.getElem?_cons_zero]; rfl) (fun K hK => ?_) AllReadyH.nil
        rw [if_pos (by rfl)]
        refine wp_store_mid 23 (.tmp 6) (.tmp 31) (by rfl) g6 0 #[.int .i64 (-70), .int .i64 40] (by rfl) (by rfl) (there_mid (o := 0) H6.out (by simp)) (by kernel_rfl) (by simp [Value.oneCell']) ?_
        replace HS := Lib.hid (HS.out.low (set2_low (x := .int .i64 (-70)) (y := .int .i64 40) (g := g6) (by omega)))
        replace H5 := Lib.hid (far2 (x := .int .i64 (-70)) (y := .int .i64 40) hne H5.out)
        replace H6 := Lib.hid (set2_blk (x := .int .i64 (-70)) (y := .int .i64 40) H6.out)
        refine hK.out _ _ ⟨HS.out.k1, HS.out.k2⟩ (fun hH58 => ?_)
        clear hK K
        try simp only [List.setIfInBounds_toArray, List.set_cons_zero, List.set_cons_succ]
        refine wpAnyH_take (i := 12 ) (v := ?_) rfl (by kernel_rfl) (by kernel_rfl) (by kernel_rfl) (fun _ _ _ h => h) (Or.inl ⟨by rfl, ?_⟩) (by assumption) ?_; rotate_left; (· (intro w0 hSw; clear hSw; go_simp); first | done | with_reducible rfl); (try simp only [Act.put, List.getElem_toArray, List.getElem_cons_succ, List.getElem_cons_zero, List.setIfInBounds_toArray, List.set_cons_zero, List.set_cons_succ])
        refine wpAnyH_done (by kernel_rfl) ?_ _
        go_wp2_with fail
        go_meet
        exact ⟨g5, g6, rfl, rfl, rfl, HS, H5, H6⟩
      exact AllReadyH.nil
    exact AllReadyH.nil
  case rest => as_aux_lemma =>
    obtain ⟨g5, g6, rfl, rfl, rfl, HS, H5, H6⟩ := hcut
    go_upto_region 3 with fail
    replace HS := Lib.hid (HS.out.call (Below.refl _ _).drew)
    replace H5 := Lib.hid (H5.out.below (Below.refl _ _).drew H5.out.lt)
    replace H6 := Lib.hid (H6.out.below (Below.refl _ _).drew H6.out.lt)
    refine wp_region_held_drew (S := fun W9 => Blk W9 q 37 #[.int .i64 5000, .int .i64 5010, .int .i64 1010, .int .i64 1020, .int .i64 0, .int .i64 4, .int .i64 1, .int .i64 2] ∧ Blk W9 (q + 1) 37 #[.int .i64 4980, .int .i64 4990, .int .i64 1000, .int .i64 1010, .int .i64 (-2), .int .i64 2, .int .i64 0, .int .i64 1]) (by kernel_rfl) ⟨HS.out.k1, HS.out.k2⟩ (fun hH0 => ?_)
    generalize World.drew _ = V0 at *
    simp only [List.size_toArray, List.length_cons, List.length_nil, Nat.reduceAdd, Array.replicate_succ, Array.replicate_zero, List.push_toArray, List.nil_append, List.cons_append]
    refine wpAnyH_take (i := 1) (v := _) rfl (by kernel_rfl) (by kernel_rfl) (by kernel_rfl) (fun _ _ _ h => h) (yieldsIf_load_mid (by rfl) _ _ rfl _ _ rfl [.int .i64 5000, .int .i64 5010, .int .i64 1010, .int .i64 1020, .int .i64 0, .int .i64 4, .int .i64 1, .int .i64 2] _ (fun w0 h0 => h0.1.range) (by rfl) (by rfl) (by kernel_rfl)) (by assumption) ?_
    (try simp only [Act.put, List.getElem_toArray, List.setIfInBounds_toArray, List.set_cons_zero, List.set_cons_succ])
    refine wpAnyH_take (i := 2) (v := _) rfl (by kernel_rfl) (by kernel_rfl) (by kernel_rfl) (fun _ _ _ h => h) (yieldsIf_load_mid (by rfl) _ _ rfl _ _ rfl [.int .i64 4980, .int .i64 4990, .int .i64 1000, .int .i64 1010, .int .i64 (-2), .int .i64 2, .int .i64 0, .int .i64 1] _ (fun w0 h0 => h0.2.range) (by rfl) (by rfl) (by kernel_rfl)) (by assumption) ?_
    (try simp only [Act.put, List.getElem_toArray, List.getElem_cons_succ, List.getElem_cons_zero, List.setIfInBounds_toArray, List.set_cons_zero, List.set_cons_succ])
    refine wpAnyH_ready (rs := [0]) (by kernel_rfl) (by simp) ?_
    refine AllReadyH.cons (by simp only [List.getElem?_toArray, List.getElem?_cons_zero]; rfl) (fun K hK => ?_) AllReadyH.nil
    go_simp
    refine (jig45_any _).mono ?_
    rintro e X ⟨rfl, hb⟩
    replace HS := Lib.hid (HS.out.call hb)
    replace H5 := Lib.hid (H5.out.below hb H5.out.lt)
    replace H6 := Lib.hid (H6.out.below hb H6.out.lt)
    clear hb
    refine hK.out _ _ ⟨HS.out.k1, HS.out.k2⟩ (fun hH1 => ?_)
    clear hK K
    try simp only [List.setIfInBounds_toArray, List.set_cons_zero]
    refine wpAnyH_ready (rs := [3]) (by kernel_rfl) (by simp) ?_
    refine AllReadyH.cons (by simp only [List.getElem?_toArray, List.getElem?_cons_succ, List.getElem?_cons_zero]; rfl) (fun K hK => ?_) AllReadyH.nil
    go_simp
    refine (closesL_any _).mono ?_
    rintro e X ⟨rfl, hb⟩
    replace HS := Lib.hid (HS.out.call hb)
    replace H5 := Lib.hid (H5.out.below hb H5.out.lt)
    replace H6 := Lib.hid (H6.out.below hb H6.out.lt)
    clear hb
    refine hK.out _ _ ⟨HS.out.k1, HS.out.k2⟩ (fun hH2 => ?_)
    clear hK K
    try simp only [List.setIfInBounds_toArray, List.set_cons_zero, List.set_cons_succ]
    refine wpAnyH_take (i := 4 ) (v := ?_) rfl (by kernel_rfl) (by kernel_rfl) (by kernel_rfl) (fun _ _ _ h => h) (Or.inl ⟨by rfl, ?_⟩) (by assumption) ?_; rotate_left; (· (intro w0 hSw; clear hSw; go_simp); first | done | with_reducible rfl); (try simp only [Act.put, List.getElem_toArray, List.getElem_cons_succ, List.getElem_cons_zero, List.setIfInBounds_toArray, List.set_cons_zero, List.set_cons_succ])
    refine wpAnyH_take (i := 5 ) (v := ?_) rfl (by kernel_rfl) (by kernel_rfl) (by kernel_rfl) (fun _ _ _ h => h) (Or.inl ⟨by rfl, ?_⟩) (by assumption) ?_; rotate_left; (· (intro w0 hSw; clear hSw; go_simp); first | done | with_reducible rfl); (try simp only [Act.put, List.getElem_toArray, List.getElem_cons_succ, List.getElem_cons_zero, List.setIfInBounds_toArray, List.set_cons_zero, List.set_cons_succ])
    refine wpAnyH_take (i := 6 ) (v := ?_) rfl (by kernel_rfl) (by kernel_rfl) (by kernel_rfl) (fun _ _ _ h => h) (Or.inl ⟨by rfl, ?_⟩) (by assumption) ?_; rotate_left; (· (intro w0 hSw; clear hSw; go_simp); first | done | with_reducible rfl); (try simp only [Act.put, List.getElem_toArray, List.getElem_cons_succ, List.getElem_cons_zero, List.setIfInBounds_toArray, List.set_cons_zero, List.set_cons_succ])
    refine wpAnyH_take (i := 7 ) (v := ?_) rfl (by kernel_rfl) (by kernel_rfl) (by kernel_rfl) (fun _ _ _ h => h) (Or.inl ⟨by rfl, ?_⟩) (by assumption) ?_; rotate_left; (· (intro w0 hSw; clear hSw; go_simp); first | done | with_reducible rfl); (try simp only [Act.put, List.getElem_toArray, List.getElem_cons_succ, List.getElem_cons_zero, List.setIfInBounds_toArray, List.set_cons_zero, List.set_cons_succ])
    refine wpAnyH_take (i := 8 ) (v := ?_) rfl (by kernel_rfl) (by kernel_rfl) (by kernel_rfl) (fun _ _ _ h => h) (Or.inl ⟨by rfl, ?_⟩) (by assumption) ?_; rotate_left; (· (intro w0 hSw; clear hSw; go_simp); first | done | with_reducible rfl); (try simp only [Act.put, List.getElem_toArray, List.getElem_cons_succ, List.getElem_cons_zero, List.setIfInBounds_toArray, List.set_cons_zero, List.set_cons_succ])
    refine wpAnyH_done (by kernel_rfl) ?_ _
    go_upto_region 4 with fail
    go_cut [10, 11] (fun a b wx => ∃ A10 c10, a = .slice A10 3 c10 ∧ b = .int .i64 0 ∧ Hid (AlS w q wx) ∧ Hid (Blk wx g5 23 #[.int .i64 (-11), .int .i64 19]) ∧ Hid (Blk wx g6 23 #[.int .i64 (-70), .int .i64 40]) ∧ Hid (PlanAt wx (.slice A10 3 c10) [0, 1, 1]))
    case first =>
      go_wp2_with fail
      replace HS := Lib.hid (HS.out.call (Below.refl _ _).drew)
      replace H5 := Lib.hid (H5.out.below (Below.refl _ _).drew H5.out.lt)
      replace H6 := Lib.hid (H6.out.below (Below.refl _ _).drew H6.out.lt)
      refine wp_region_held_drew (S := fun W9 => Blk W9 q 37 #[.int .i64 5000, .int .i64 5010, .int .i64 1010, .int .i64 1020, .int .i64 0, .int .i64 4, .int .i64 1, .int .i64 2] ∧ Blk W9 (q + 1) 37 #[.int .i64 4980, .int .i64 4990, .int .i64 1000, .int .i64 1010, .int .i64 (-2), .int .i64 2, .int .i64 0, .int .i64 1]) (by kernel_rfl) ⟨HS.out.k1, HS.out.k2⟩ (fun hH0 => ?_)
      generalize World.drew _ = V0 at *
      simp only [List.size_toArray, List.length_cons, List.length_nil, Nat.reduceAdd, Array.replicate_succ, Array.replicate_zero, List.push_toArray, List.nil_append, List.cons_append]
      refine wpAnyH_take (i := 1) (v := _) rfl (by kernel_rfl) (by kernel_rfl) (by kernel_rfl) (fun _ _ _ h => h) (yieldsIf_load_mid (by rfl) _ _ rfl _ _ rfl [.int .i64 5000, .int .i64 5010, .int .i64 1010, .int .i64 1020, .int .i64 0, .int .i64 4, .int .i64 1, .int .i64 2] _ (fun w0 h0 => h0.1.range) (by rfl) (by rfl) (by kernel_rfl)) (by assumption) ?_
      (try simp only [Act.put, List.getElem_toArray, List.setIfInBounds_toArray, List.set_cons_zero, List.set_cons_succ])
      refine wpAnyH_take (i := 2) (v := _) rfl (by kernel_rfl) (by kernel_rfl) (by kernel_rfl) (fun _ _ _ h => h) (yieldsIf_load_mid (by rfl) _ _ rfl _ _ rfl [.int .i64 4980, .int .i64 4990, .int .i64 1000, .int .i64 1010, .int .i64 (-2), .int .i64 2, .int .i64 0, .int .i64 1] _ (fun w0 h0 => h0.2.range) (by rfl) (by rfl) (by kernel_rfl)) (by assumption) ?_
      (try simp only [Act.put, List.getElem_toArray, List.getElem_cons_succ, List.getElem_cons_zero, List.setIfInBounds_toArray, List.set_cons_zero, List.set_cons_succ])
      refine wpAnyH_ready (rs := [0, 3]) (by kernel_rfl) (by simp) ?_
      refine AllReadyH.cons (by simp only [List.getElem?_toArray, List.getElem?_cons_zero]; rfl) (fun K hK => ?_) ?_
      · go_simp
        refine (jig45_any _).mono ?_
        rintro e X ⟨rfl, hb⟩
        replace HS := Lib.hid (HS.out.call hb)
        replace H5 := Lib.hid (H5.out.below hb H5.out.lt)
        replace H6 := Lib.hid (H6.out.below hb H6.out.lt)
        clear hb
        refine hK.out _ _ ⟨HS.out.k1, HS.out.k2⟩ (fun hH1 => ?_)
        clear hK K
        try simp only [List.setIfInBounds_toArray, List.set_cons_zero]
        refine wpAnyH_ready (rs := [3]) (by kernel_rfl) (by simp) ?_
        refine AllReadyH.cons (by simp only [List.getElem?_toArray, List.getElem?_cons_succ, List.getElem?_cons_zero]; rfl) (fun K hK => ?_) AllReadyH.nil
        go_simp
        have hb : Below X.heap.size X (X.alloc (.cells #[.int .i64 36, .int .i64 37, .int .i64 50] 3)) := (Below.refl _ _).alloc (Nat.le_refl _) _
        have H9 := Lib.hid (Blk.new X 3 #[.int .i64 36, .int .i64 37, .int .i64 50])
        have hg9 : q + 1 + 1 + 1 < X.heap.size := HS.out.k4.lt
        replace HS := Lib.hid (HS.out.call hb)
        replace H5 := Lib.hid (H5.out.below hb H5.out.lt)
        replace H6 := Lib.hid (H6.out.below hb H6.out.lt)
        clear hb
        generalize X.heap.size = g9 at *
        generalize World.alloc X _ = X at *
        refine hK.out _ _ ⟨HS.out.k1, HS.out.k2⟩ (fun hH2 => ?_)
        clear hK K
        try simp only [List.setIfInBounds_toArray, List.set_cons_zero, List.set_cons_succ]
        refine wpAnyH_ready (rs := [4]) (by kernel_rfl) (by simp) ?_
        refine AllReadyH.cons (by simp only [List.getElem?_toArray, List.getElem?_cons_succ, List.getElem?_cons_zero]; rfl) (fun K hK => ?_) AllReadyH.nil
        go_simp
        refine (gradesL_any _ g9 H9.out).mono ?_
        rintro e X ⟨A10, c10, rfl, hp, hb⟩
        replace HS := Lib.hid (HS.out.call hb)
        have H10 := Lib.hid (gr_plan hp)
        replace H5 := Lib.hid (H5.out.below hb H5.out.lt)
        replace H6 := Lib.hid (H6.out.below hb H6.out.lt)
        clear hb hp
        refine hK.out _ _ ⟨HS.out.k1, HS.out.k2⟩ (fun hH3 => ?_)
        clear hK K
        try simp only [List.setIfInBounds_toArray, List.set_cons_zero, List.set_cons_succ]
        refine wpAnyH_take (i := 5 ) (v := ?_) rfl (by kernel_rfl) (by kernel_rfl) (by kernel_rfl) (fun _ _ _ h => h) (Or.inl ⟨by rfl, ?_⟩) (by assumption) ?_; rotate_left; (· (intro w0 hSw; clear hSw; go_simp); first | done | with_reducible rfl); (try simp only [Act.put, List.getElem_toArray, List.getElem_cons_succ, List.getElem_cons_zero, List.setIfInBounds_toArray, List.set_cons_zero, List.set_cons_succ])
        refine wpAnyH_take (i := 6 ) (v := ?_) rfl (by kernel_rfl) (by kernel_rfl) (by kernel_rfl) (fun _ _ _ h => h) (Or.inl ⟨by rfl, ?_⟩) (by assumption) ?_; rotate_left; (· (intro w0 hSw; clear hSw; go_simp); first | done | with_reducible rfl); (try simp only [Act.put, List.getElem_toArray, List.getElem_cons_succ, List.getElem_cons_zero, List.setIfInBounds_toArray, List.set_cons_zero, List.set_cons_succ])
        refine wpAnyH_take (i := 7 ) (v := ?_) rfl (by kernel_rfl) (by kernel_rfl) (by kernel_rfl) (fun _ _ _ h => h) (Or.inl ⟨by rfl, ?_⟩) (by assumption) ?_; rotate_left; (· (intro w0 hSw; clear hSw; go_simp); first | done | with_reducible rfl); (try simp only [Act.put, List.getElem_toArray, List.getElem_cons_succ, List.getElem_cons_zero, List.setIfInBounds_toArray, List.set_cons_zero, List.set_cons_succ])
        refine wpAnyH_take (i := 8 ) (v := ?_) rfl (by kernel_rfl) (by kernel_rfl) (by kernel_rfl) (fun _ _ _ h => h) (Or.inl ⟨by rfl, ?_⟩) (by assumption) ?_; rotate_left; (· (intro w0 hSw; clear hSw; go_simp); first | done | with_reducible rfl); (try simp only [Act.put, List.getElem_toArray, List.getElem_cons_succ, List.getElem_cons_zero, List.setIfInBounds_toArray, List.set_cons_zero, List.set_cons_succ])
        refine wpAnyH_take (i := 9 ) (v := ?_) rfl (by kernel_rfl) (by kernel_rfl) (by kernel_rfl) (fun _ _ _ h => h) (Or.inl ⟨by rfl, ?_⟩) (by assumption) ?_; rotate_left; (· (intro w0 hSw; clear hSw; go_simp); first | done | with_reducible rfl); (try simp only [Act.put, List.getElem_toArray, List.getElem_cons_succ, List.getElem_cons_zero, List.setIfInBounds_toArray, List.set_cons_zero, List.set_cons_succ])
        refine wpAnyH_done (by kernel_rfl) ?_ _
        go_wp2_with fail
        go_meet
        exact ⟨A10, c10, rfl, rfl, HS, H5, H6, H10⟩
      refine AllReadyH.cons (by simp only [List.getElem?_toArray, List.getElem?_cons_succ, List.getElem?_cons_zero]; rfl) (fun K hK => ?_) ?_
      · go_simp
        have hb : Below V0.heap.size V0 (V0.alloc (.cells #[.int .i64 36, .int .i64 37, .int .i64 50] 3)) := (Below.refl _ _).alloc (Nat.le_refl _) _
        have H9 := Lib.hid (Blk.new V0 3 #[.int .i64 36, .int .i64 37, .int .i64 50])
        have hg9 : q + 1 + 1 + 1 < V0.heap.size := HS.out.k4.lt
        replace HS := Lib.hid (HS.out.call hb)
        replace H5 := Lib.hid (H5.out.below hb H5.out.lt)
        replace H6 := Lib.hid (H6.out.below hb H6.out.lt)
        clear hb
        generalize V0.heap.size = g9 at *
        generalize World.alloc V0 _ = X at *
        refine hK.out _ _ ⟨HS.out.k1, HS.out.k2⟩ (fun hH4 => ?_)
        clear hK K
        try simp only [List.setIfInBounds_toArray, List.set_cons_zero, List.set_cons_succ]
        refine wpAnyH_ready (rs := [0]) (by kernel_rfl) (by simp) ?_
        refine AllReadyH.cons (by simp only [List.getElem?_toArray, List.getElem?_cons_zero]; rfl) (fun K hK => ?_) AllReadyH.nil
        go_simp
        refine (jig45_any _).mono ?_
        rintro e X ⟨rfl, hb⟩
        replace HS := Lib.hid (HS.out.call hb)
        replace H5 := Lib.hid (H5.out.below hb H5.out.lt)
        replace H6 := Lib.hid (H6.out.below hb H6.out.lt)
        replace H9 := Lib.hid (H9.out.below hb H9.out.lt)
        clear hb
        refine hK.out _ _ ⟨HS.out.k1, HS.out.k2⟩ (fun hH5 => ?_)
        clear hK K
        try simp only [List.setIfInBounds_toArray, List.set_cons_zero]
        refine wpAnyH_ready (rs := [4]) (by kernel_rfl) (by simp) ?_
        refine AllReadyH.cons (by simp only [List.getElem?_toArray, List.getElem?_cons_succ, List.getElem?_cons_zero]; rfl) (fun K hK => ?_) AllReadyH.nil
        go_simp
        refine (gradesL_any _ g9 H9.out).mono ?_
        rintro e X ⟨A10, c10, rfl, hp, hb⟩
        replace HS := Lib.hid (HS.out.call hb)
        have H10 := Lib.hid (gr_plan hp)
        replace H5 := Lib.hid (H5.out.below hb H5.out.lt)
        replace H6 := Lib.hid (H6.out.below hb H6.out.lt)
        clear hb hp
        refine hK.out _ _ ⟨HS.out.k1, HS.out.k2⟩ (fun hH6 => ?_)
        clear hK K
        try simp only [List.setIfInBounds_toArray, List.set_cons_zero, List.set_cons_succ]
        refine wpAnyH_take (i := 5 ) (v := ?_) rfl (by kernel_rfl) (by kernel_rfl) (by kernel_rfl) (fun _ _ _ h => h) (Or.inl ⟨by rfl, ?_⟩) (by assumption) ?_; rotate_left; (· (intro w0 hSw; clear hSw; go_simp); first | done | with_reducible rfl); (try simp only [Act.put, List.getElem_toArray, List.getElem_cons_succ, List.getElem_cons_zero, List.setIfInBounds_toArray, List.set_cons_zero, List.set_cons_succ])
        refine wpAnyH_take (i := 6 ) (v := ?_) rfl (by kernel_rfl) (by kernel_rfl) (by kernel_rfl) (fun _ _ _ h => h) (Or.inl ⟨by rfl, ?_⟩) (by assumption) ?_; rotate_left; (· (intro w0 hSw; clear hSw; go_simp); first | done | with_reducible rfl); (try simp only [Act.put, List.getElem_toArray, List.getElem_cons_succ, List.getElem_cons_zero, List.setIfInBounds_toArray, List.set_cons_zero, List.set_cons_succ])
        refine wpAnyH_take (i := 7 ) (v := ?_) rfl (by kernel_rfl) (by kernel_rfl) (by kernel_rfl) (fun _ _ _ h => h) (Or.inl ⟨by rfl, ?_⟩) (by assumption) ?_; rotate_left; (· (intro w0 hSw; clear hSw; go_simp); first | done | with_reducible rfl); (try simp only [Act.put, List.getElem_toArray, List.getElem_cons_succ, List.getElem_cons_zero, List.setIfInBounds_toArray, List.set_cons_zero, List.set_cons_succ])
        refine wpAnyH_take (i := 8 ) (v := ?_) rfl (by kernel_rfl) (by kernel_rfl) (by kernel_rfl) (fun _ _ _ h => h) (Or.inl ⟨by rfl, ?_⟩) (by assumption) ?_; rotate_left; (· (intro w0 hSw; clear hSw; go_simp); first | done | with_reducible rfl); (try simp only [Act.put, List.getElem_toArray, List.getElem_cons_succ, List.getElem_cons_zero, List.setIfInBounds_toArray, List.set_cons_zero, List.set_cons_succ])
        refine wpAnyH_take (i := 9 ) (v := ?_) rfl (by kernel_rfl) (by kernel_rfl) (by kernel_rfl) (fun _ _ _ h => h) (Or.inl ⟨by rfl, ?_⟩) (by assumption) ?_; rotate_left; (· (intro w0 hSw; clear hSw; go_simp); first | done | with_reducible rfl); (try simp only [Act.put, List.getElem_toArray, List.getElem_cons_succ, List.getElem_cons_zero, List.setIfInBounds_toArray, List.set_cons_zero, List.set_cons_succ])
        refine wpAnyH_done (by kernel_rfl) ?_ _
        go_wp2_with fail
        go_meet
        exact ⟨A10, c10, rfl, rfl, HS, H5, H6, H10⟩
      exact AllReadyH.nil
    case rest => as_aux_lemma =>
      obtain ⟨A10, c10, rfl, rfl, HS, H5, H6, P10⟩ := hcut
      go_upto_region 5 with fail
      go_cut [12, 13, 14] (fun a b c wx => ∃ A12 c12, a = .slice A12 2 c12 ∧ b = .int .i64 6 ∧ c = .int .i64 0 ∧ Hid (AlS w q wx) ∧ Hid (Blk wx g5 23 #[.int .i64 (-11), .int .i64 19]) ∧ Hid (Blk wx g6 23 #[.int .i64 (-70), .int .i64 40]) ∧ Hid (PlanAt wx (.slice A10 3 c10) [0, 1, 1]) ∧ Hid (PlanAt wx (.slice A12 2 c12) [1, 0]))
      case first =>
        go_wp2_with fail
        replace HS := Lib.hid (HS.out.call (Below.refl _ _).drew)
        replace H5 := Lib.hid (H5.out.below (Below.refl _ _).drew H5.out.lt)
        replace H6 := Lib.hid (H6.out.below (Below.refl _ _).drew H6.out.lt)
        replace P10 := Lib.hid (P10.out.below (Below.refl _ _).drew)
        refine wp_region_held_drew (S := fun W9 => (Blk W9 q 37 #[.int .i64 5000, .int .i64 5010, .int .i64 1010, .int .i64 1020, .int .i64 0, .int .i64 4, .int .i64 1, .int .i64 2] ∧ Blk W9 (q + 1) 37 #[.int .i64 4980, .int .i64 4990, .int .i64 1000, .int .i64 1010, .int .i64 (-2), .int .i64 2, .int .i64 0, .int .i64 1]) ∧ Blk W9 (q + 1 + 1) 37 #[.int .i64 4900, .int .i64 4910, .int .i64 1010, .int .i64 1020, .int .i64 0, .int .i64 4, .int .i64 1, .int .i64 2] ∧ Blk W9 (q + 1 + 1 + 1) 37 #[.int .i64 4880, .int .i64 4890, .int .i64 1000, .int .i64 1010, .int .i64 (-2), .int .i64 2, .int .i64 0, .int .i64 1]) (by kernel_rfl) ⟨⟨HS.out.k1, HS.out.k2⟩, HS.out.k3, HS.out.k4⟩ (fun hH0 => ?_)
        generalize World.drew _ = V0 at *
        simp only [List.size_toArray, List.length_cons, List.length_nil, Nat.reduceAdd, Array.replicate_succ, Array.replicate_zero, List.push_toArray, List.nil_append, List.cons_append]
        refine wpAnyH_take (i := 1) (v := _) rfl (by kernel_rfl) (by kernel_rfl) (by kernel_rfl) (fun _ _ _ h => h) (yieldsIf_load_mid (by rfl) _ _ rfl _ _ rfl [.int .i64 5000, .int .i64 5010, .int .i64 1010, .int .i64 1020, .int .i64 0, .int .i64 4, .int .i64 1, .int .i64 2] _ (fun w0 h0 => h0.1.1.range) (by rfl) (by rfl) (by kernel_rfl)) (by assumption) ?_
        (try simp only [Act.put, List.getElem_toArray, List.setIfInBounds_toArray, List.set_cons_zero, List.set_cons_succ])
        refine wpAnyH_take (i := 2) (v := _) rfl (by kernel_rfl) (by kernel_rfl) (by kernel_rfl) (fun _ _ _ h => h) (yieldsIf_load_mid (by rfl) _ _ rfl _ _ rfl [.int .i64 4900, .int .i64 4910, .int .i64 1010, .int .i64 1020, .int .i64 0, .int .i64 4, .int .i64 1, .int .i64 2] _ (fun w0 h0 => h0.2.1.range) (by rfl) (by rfl) (by kernel_rfl)) (by assumption) ?_
        (try simp only [Act.put, List.getElem_toArray, List.getElem_cons_succ, List.getElem_cons_zero, List.setIfInBounds_toArray, List.set_cons_zero, List.set_cons_succ])
        refine wpAnyH_take (i := 4) (v := _) rfl (by kernel_rfl) (by kernel_rfl) (by kernel_rfl) (fun _ _ _ h => h) (yieldsIf_load_mid (by rfl) _ _ rfl _ _ rfl [.int .i64 4880, .int .i64 4890, .int .i64 1000, .int .i64 1010, .int .i64 (-2), .int .i64 2, .int .i64 0, .int .i64 1] _ (fun w0 h0 => h0.2.2.range) (by rfl) (by rfl) (by kernel_rfl)) (by assumption) ?_
        (try simp only [Act.put, List.getElem_toArray, List.getElem_cons_succ, List.getElem_cons_zero, List.setIfInBounds_toArray, List.set_cons_zero, List.set_cons_succ])
        refine wpAnyH_take (i := 5) (v := _) rfl (by kernel_rfl) (by kernel_rfl) (by kernel_rfl) (fun _ _ _ h => h) (yieldsIf_load_mid (by rfl) _ _ rfl _ _ rfl [.int .i64 4980, .int .i64 4990, .int .i64 1000, .int .i64 1010, .int .i64 (-2), .int .i64 2, .int .i64 0, .int .i64 1] _ (fun w0 h0 => h0.1.2.range) (by rfl) (by rfl) (by kernel_rfl)) (by assumption) ?_
        (try simp only [Act.put, List.getElem_toArray, List.getElem_cons_succ, List.getElem_cons_zero, List.setIfInBounds_toArray, List.set_cons_zero, List.set_cons_succ])
        refine wpAnyH_ready (rs := [0, 3, 6]) (by kernel_rfl) (by simp) ?_
        refine AllReadyH.cons (by simp only [List.getElem?_toArray, List.getElem?_cons_zero]; rfl) (fun K hK => ?_) ?_
        · go_simp
          refine (jig45_any _).mono ?_
          rintro e X ⟨rfl, hb⟩
          replace HS := Lib.hid (HS.out.call hb)
          replace H5 := Lib.hid (H5.out.below hb H5.out.lt)
          replace H6 := Lib.hid (H6.out.below hb H6.out.lt)
          replace P10 := Lib.hid (P10.out.below hb)
          clear hb
          refine hK.out _ _ ⟨⟨HS.out.k1, HS.out.k2⟩, HS.out.k3, HS.out.k4⟩ (fun hH1 => ?_)
          clear hK K
          try simp only [List.setIfInBounds_toArray, List.set_cons_zero]
          refine wpAnyH_ready (rs := [3, 6]) (by kernel_rfl) (by simp) ?_
          refine AllReadyH.cons (by simp only [List.getElem?_toArray, List.getElem?_cons_succ, List.getElem?_cons_zero]; rfl) (fun K hK => ?_) ?_
          · rw [if_pos (by rfl)]
            refine wp_bs 26 37 2 _ (by rfl) #[.int .i64 5000, .int .i64 5010, .int .i64 1010, .int .i64 1020, .int .i64 0, .int .i64 4, .int .i64 1, .int .i64 2, .int .i64 4900, .int .i64 4910, .int .i64 1010, .int .i64 1020, .int .i64 0, .int .i64 4, .int .i64 1, .int .i64 2] [.agg #[.int .i64 5000, .int .i64 5010, .int .i64 1010, .int .i64 1020, .int .i64 0, .int .i64 4, .int .i64 1, .int .i64 2], .agg #[.int .i64 4900, .int .i64 4910, .int .i64 1010, .int .i64 1020, .int .i64 0, .int .i64 4, .int .i64 1, .int .i64 2]] (.agg #[.int .i64 0, .int .i64 0, .int .i64 0, .int .i64 0, .int .i64 0, .int .i64 0, .int .i64 0, .int .i64 0]) 8 (by kernel_rfl) (by kernel_rfl) (by decide) (by rfl) (by rfl) (by rfl) (by rfl) ?_
            simp only [Act.put, List.setIfInBounds_toArray, List.set_cons_zero, List.set_cons_succ]
            have hb : Below X.heap.size X (X.alloc (.cells #[.int .i64 5000, .int .i64 5010, .int .i64 1010, .int .i64 1020, .int .i64 0, .int .i64 4, .int .i64 1, .int .i64 2, .int .i64 4900, .int .i64 4910, .int .i64 1010, .int .i64 1020, .int .i64 0, .int .i64 4, .int .i64 1, .int .i64 2] 37)) := (Below.refl _ _).alloc (Nat.le_refl _) _
            have H1 := Lib.hid (Blk.new X 37 #[.int .i64 5000, .int .i64 5010, .int .i64 1010, .int .i64 1020, .int .i64 0, .int .i64 4, .int .i64 1, .int .i64 2, .int .i64 4900, .int .i64 4910, .int .i64 1010, .int .i64 1020, .int .i64 0, .int .i64 4, .int .i64 1, .int .i64 2])
            have hg1 : q + 1 + 1 + 1 < X.heap.size := HS.out.k4.lt
            replace HS := Lib.hid (HS.out.call hb)
            replace H5 := Lib.hid (H5.out.below hb H5.out.lt)
            replace H6 := Lib.hid (H6.out.below hb H6.out.lt)
            replace P10 := Lib.hid (P10.out.below hb)
            clear hb
            generalize X.heap.size = g1 at *
            generalize World.alloc X _ = X at *
            refine hK.out _ _ ⟨⟨HS.out.k1, HS.out.k2⟩, HS.out.k3, HS.out.k4⟩ (fun hH2 => ?_)
            clear hK K
            try simp only [List.setIfInBounds_toArray, List.set_cons_zero, List.set_cons_succ]
            refine wpAnyH_ready (rs := [6]) (by kernel_rfl) (by simp) ?_
            refine AllReadyH.cons (by simp only [List.getElem?_toArray, List.getElem?_cons_succ, List.getElem?_cons_zero]; rfl) (fun K hK => ?_) AllReadyH.nil
            rw [if_pos (by rfl)]
            refine wp_bs 26 37 2 _ (by rfl) #[.int .i64 4880, .int .i64 4890, .int .i64 1000, .int .i64 1010, .int .i64 (-2), .int .i64 2, .int .i64 0, .int .i64 1, .int .i64 4980, .int .i64 4990, .int .i64 1000, .int .i64 1010, .int .i64 (-2), .int .i64 2, .int .i64 0, .int .i64 1] [.agg #[.int .i64 4880, .int .i64 4890, .int .i64 1000, .int .i64 1010, .int .i64 (-2), .int .i64 2, .int .i64 0, .int .i64 1], .agg #[.int .i64 4980, .int .i64 4990, .int .i64 1000, .int .i64 1010, .int .i64 (-2), .int .i64 2, .int .i64 0, .int .i64 1]] (.agg #[.int .i64 0, .int .i64 0, .int .i64 0, .int .i64 0, .int .i64 0, .int .i64 0, .int .i64 0, .int .i64 0]) 8 (by kernel_rfl) (by kernel_rfl) (by decide) (by rfl) (by rfl) (by rfl) (by rfl) ?_
            simp only [Act.put, List.setIfInBounds_toArray, List.set_cons_zero, List.set_cons_succ]
            have hb : Below X.heap.size X (X.alloc (.cells #[.int .i64 4880, .int .i64 4890, .int .i64 1000, .int .i64 1010, .int .i64 (-2), .int .i64 2, .int .i64 0, .int .i64 1, .int .i64 4980, .int .i64 4990, .int .i64 1000, .int .i64 1010, .int .i64 (-2), .int .i64 2, .int .i64 0, .int .i64 1] 37)) := (Below.refl _ _).alloc (Nat.le_refl _) _
            have H2 := Lib.hid (Blk.new X 37 #[.int .i64 4880, .int .i64 4890, .int .i64 1000, .int .i64 1010, .int .i64 (-2), .int .i64 2, .int .i64 0, .int .i64 1, .int .i64 4980, .int .i64 4990, .int .i64 1000, .int .i64 1010, .int .i64 (-2), .int .i64 2, .int .i64 0, .int .i64 1])
            have hg2 : q + 1 + 1 + 1 < X.heap.size := HS.out.k4.lt
            replace HS := Lib.hid (HS.out.call hb)
            replace H5 := Lib.hid (H5.out.below hb H5.out.lt)
            replace H6 := Lib.hid (H6.out.below hb H6.out.lt)
            replace P10 := Lib.hid (P10.out.below hb)
            replace H1 := Lib.hid (H1.out.below hb H1.out.lt)
            clear hb
            generalize X.heap.size = g2 at *
            generalize World.alloc X _ = X at *
            refine hK.out _ _ ⟨⟨HS.out.k1, HS.out.k2⟩, HS.out.k3, HS.out.k4⟩ (fun hH3 => ?_)
            clear hK K
            try simp only [List.setIfInBounds_toArray, List.set_cons_zero, List.set_cons_succ]
            refine wpAnyH_ready (rs := [7]) (by kernel_rfl) (by simp) ?_
            refine AllReadyH.cons (by simp only [List.getElem?_toArray, List.getElem?_cons_succ, List.getElem?_cons_zero]; rfl) (fun K hK => ?_) AllReadyH.nil
            go_simp
            refine (pairL_any _ g1 g2 H1.out H2.out).mono ?_
            rintro e X ⟨A12, c12, rfl, hp, hb⟩
            replace HS := Lib.hid (HS.out.call hb)
            have P12 := Lib.hid hp
            replace H5 := Lib.hid (H5.out.below hb H5.out.lt)
            replace H6 := Lib.hid (H6.out.below hb H6.out.lt)
            replace P10 := Lib.hid (P10.out.below hb)
            clear hb hp
            refine hK.out _ _ ⟨⟨HS.out.k1, HS.out.k2⟩, HS.out.k3, HS.out.k4⟩ (fun hH4 => ?_)
            clear hK K
            try simp only [List.setIfInBounds_toArray, List.set_cons_zero, List.set_cons_succ]
            refine wpAnyH_take (i := 8 ) (v := ?_) rfl (by kernel_rfl) (by kernel_rfl) (by kernel_rfl) (fun _ _ _ h => h) (Or.inl ⟨by rfl, ?_⟩) (by assumption) ?_; rotate_left; (· (intro w0 hSw; clear hSw; go_simp); first | done | with_reducible rfl); (try simp only [Act.put, List.getElem_toArray, List.getElem_cons_succ, List.getElem_cons_zero, List.setIfInBounds_toArray, List.set_cons_zero, List.set_cons_succ])
            refine wpAnyH_take (i := 9 ) (v := ?_) rfl (by kernel_rfl) (by kernel_rfl) (by kernel_rfl) (fun _ _ _ h => h) (Or.inl ⟨by rfl, ?_⟩) (by assumption) ?_; rotate_left; (· (intro w0 hSw; clear hSw; go_simp); first | done | with_reducible rfl); (try simp only [Act.put, List.getElem_toArray, List.getElem_cons_succ, List.getElem_cons_zero, List.setIfInBounds_toArray, List.set_cons_zero, List.set_cons_succ])
            refine wpAnyH_take (i := 10 ) (v := ?_) rfl (by kernel_rfl) (by kernel_rfl) (by kernel_rfl) (fun _ _ _ h => h) (Or.inl ⟨by rfl, ?_⟩) (by assumption) ?_; rotate_left; (· (intro w0 hSw; clear hSw; go_simp); first | done | with_reducible rfl); (try simp only [Act.put, List.getElem_toArray, List.getElem_cons_succ, List.getElem_cons_zero, List.setIfInBounds_toArray, List.set_cons_zero, List.set_cons_succ])
            refine wpAnyH_take (i := 11 ) (v := ?_) rfl (by kernel_rfl) (by kernel_rfl) (by kernel_rfl) (fun _ _ _ h => h) (Or.inl ⟨by rfl, ?_⟩) (by assumption) ?_; rotate_left; (· (intro w0 hSw; clear hSw; go_simp); first | done | with_reducible rfl); (try simp only [Act.put, List.getElem_toArray, List.getElem_cons_succ, List.getElem_cons_zero, List.setIfInBounds_toArray, List.set_cons_zero, List.set_cons_succ])
            refine wpAnyH_take (i := 12 ) (v := ?_) rfl (by kernel_rfl) (by kernel_rfl) (by kernel_rfl) (fun _ _ _ h => h) (Or.inl ⟨by rfl, ?_⟩) (by assumption) ?_; rotate_left; (· (intro w0 hSw; clear hSw; go_simp); first | done | with_reducible rfl); (try simp only [Act.put, List.getElem_toArray, List.getElem_cons_succ, List.getElem_cons_zero, List.setIfInBounds_toArray, List.set_cons_zero, List.set_cons_succ])
            refine wpAnyH_take (i := 13 ) (v := ?_) rfl (by kernel_rfl) (by kernel_rfl) (by kernel_rfl) (fun _ _ _ h => h) (Or.inl ⟨by rfl, ?_⟩) (by assumption) ?_; rotate_left; (· (intro w0 hSw; clear hSw; go_simp); first | done | with_reducible rfl); (try simp only [Act.put, List.getElem_toArray, List.getElem_cons_succ, List.getElem_cons_zero, List.setIfInBounds_toArray, List.set_cons_zero, List.set_cons_succ])
            refine wpAnyH_take (i := 14 ) (v := ?_) rfl (by kernel_rfl) (by kernel_rfl) (by kernel_rfl) (fun _ _ _ h => h) (Or.inl ⟨by rfl, ?_⟩) (by assumption) ?_; rotate_left; (· (intro w0 hSw; clear hSw; go_simp); first | done | with_reducible rfl); (try simp only [Act.put, List.getElem_toArray, List.getElem_cons_succ, List.getElem_cons_zero, List.setIfInBounds_toArray, List.set_cons_zero, List.set_cons_succ])
            refine wpAnyH_done (by kernel_rfl) ?_ _
            go_wp2_with fail
            go_meet
            exact ⟨A12, c12, rfl, rfl, rfl, HS, H5, H6, P10, P12⟩
          refine AllReadyH.cons (by simp only [List.getElem?_toArray, List.getElem?_cons_succ, List.getElem?_cons_zero]; rfl) (fun K hK => ?_) ?_
          · rw [if_pos (by rfl)]
            refine wp_bs 26 37 2 _ (by rfl) #[.int .i64 4880, .int .i64 4890, .int .i64 1000, .int .i64 1010, .int .i64 (-2), .int .i64 2, .int .i64 0, .int .i64 1, .int .i64 4980, .int .i64 4990, .int .i64 1000, .int .i64 1010, .int .i64 (-2), .int .i64 2, .int .i64 0, .int .i64 1] [.agg #[.int .i64 4880, .int .i64 4890, .int .i64 1000, .int .i64 1010, .int .i64 (-2), .int .i64 2, .int .i64 0, .int .i64 1], .agg #[.int .i64 4980, .int .i64 4990, .int .i64 1000, .int .i64 1010, .int .i64 (-2), .int .i64 2, .int .i64 0, .int .i64 1]] (.agg #[.int .i64 0, .int .i64 0, .int .i64 0, .int .i64 0, .int .i64 0, .int .i64 0, .int .i64 0, .int .i64 0]) 8 (by kernel_rfl) (by kernel_rfl) (by decide) (by rfl) (by rfl) (by rfl) (by rfl) ?_
            simp only [Act.put, List.setIfInBounds_toArray, List.set_cons_zero, List.set_cons_succ]
            have hb : Below X.heap.size X (X.alloc (.cells #[.int .i64 4880, .int .i64 4890, .int .i64 1000, .int .i64 1010, .int .i64 (-2), .int .i64 2, .int .i64 0, .int .i64 1, .int .i64 4980, .int .i64 4990, .int .i64 1000, .int .i64 1010, .int .i64 (-2), .int .i64 2, .int .i64 0, .int .i64 1] 37)) := (Below.refl _ _).alloc (Nat.le_refl _) _
            have H2 := Lib.hid (Blk.new X 37 #[.int .i64 4880, .int .i64 4890, .int .i64 1000, .int .i64 1010, .int .i64 (-2), .int .i64 2, .int .i64 0, .int .i64 1, .int .i64 4980, .int .i64 4990, .int .i64 1000, .int .i64 1010, .int .i64 (-2), .int .i64 2, .int .i64 0, .int .i64 1])
            have hg2 : q + 1 + 1 + 1 < X.heap.size := HS.out.k4.lt
            replace HS := Lib.hid (HS.out.call hb)
            replace H5 := Lib.hid (H5.out.below hb H5.out.lt)
            replace H6 := Lib.hid (H6.out.below hb H6.out.lt)
            replace P10 := Lib.hid (P10.out.below hb)
            clear hb
            generalize X.heap.size = g2 at *
            generalize World.alloc X _ = X at *
            refine hK.out _ _ ⟨⟨HS.out.k1, HS.out.k2⟩, HS.out.k3, HS.out.k4⟩ (fun hH5 => ?_)
            clear hK K
            try simp only [List.setIfInBounds_toArray, List.set_cons_zero, List.set_cons_succ]
            refine wpAnyH_ready (rs := [3]) (by kernel_rfl) (by simp) ?_
            refine AllReadyH.cons (by simp only [List.getElem?_toArray, List.getElem?_cons_succ, List.getElem?_cons_zero]; rfl) (fun K hK => ?_) AllReadyH.nil
            rw [if_pos (by rfl)]
            refine wp_bs 26 37 2 _ (by rfl) #[.int .i64 5000, .int .i64 5010, .int .i64 1010, .int .i64 1020, .int .i64 0, .int .i64 4, .int .i64 1, .int .i64 2, .int .i64 4900, .int .i64 4910, .int .i64 1010, .int .i64 1020, .int .i64 0, .int .i64 4, .int .i64 1, .int .i64 2] [.agg #[.int .i64 5000, .int .i64 5010, .int .i64 1010, .int .i64 1020, .int .i64 0, .int .i64 4, .int .i64 1, .int .i64 2], .agg #[.int .i64 4900, .int .i64 4910, .int .i64 1010, .int .i64 1020, .int .i64 0, .int .i64 4, .int .i64 1, .int .i64 2]] (.agg #[.int .i64 0, .int .i64 0, .int .i64 0, .int .i64 0, .int .i64 0, .int .i64 0, .int .i64 0, .int .i64 0]) 8 (by kernel_rfl) (by kernel_rfl) (by decide) (by rfl) (by rfl) (by rfl) (by rfl) ?_
            simp only [Act.put, List.setIfInBounds_toArray, List.set_cons_zero, List.set_cons_succ]
            have hb : Below X.heap.size X (X.alloc (.cells #[.int .i64 5000, .int .i64 5010, .int .i64 1010, .int .i64 1020, .int .i64 0, .int .i64 4, .int .i64 1, .int .i64 2, .int .i64 4900, .int .i64 4910, .int .i64 1010, .int .i64 1020, .int .i64 0, .int .i64 4, .int .i64 1, .int .i64 2] 37)) := (Below.refl _ _).alloc (Nat.le_refl _) _
            have H1 := Lib.hid (Blk.new X 37 #[.int .i64 5000, .int .i64 5010, .int .i64 1010, .int .i64 1020, .int .i64 0, .int .i64 4, .int .i64 1, .int .i64 2, .int .i64 4900, .int .i64 4910, .int .i64 1010, .int .i64 1020, .int .i64 0, .int .i64 4, .int .i64 1, .int .i64 2])
            have hg1 : q + 1 + 1 + 1 < X.heap.size := HS.out.k4.lt
            replace HS := Lib.hid (HS.out.call hb)
            replace H5 := Lib.hid (H5.out.below hb H5.out.lt)
            replace H6 := Lib.hid (H6.out.below hb H6.out.lt)
            replace P10 := Lib.hid (P10.out.below hb)
            replace H2 := Lib.hid (H2.out.below hb H2.out.lt)
            clear hb
            generalize X.heap.size = g1 at *
            generalize World.alloc X _ = X at *
            refine hK.out _ _ ⟨⟨HS.out.k1, HS.out.k2⟩, HS.out.k3, HS.out.k4⟩ (fun hH6 => ?_)
            clear hK K
            try simp only [List.setIfInBounds_toArray, List.set_cons_zero, List.set_cons_succ]
            refine wpAnyH_ready (rs := [7]) (by kernel_rfl) (by simp) ?_
            refine AllReadyH.cons (by simp only [List.getElem?_toArray, List.getElem?_cons_succ, List.getElem?_cons_zero]; rfl) (fun K hK => ?_) AllReadyH.nil
            go_simp
            refine (pairL_any _ g1 g2 H1.out H2.out).mono ?_
            rintro e X ⟨A12, c12, rfl, hp, hb⟩
            replace HS := Lib.hid (HS.out.call hb)
            have P12 := Lib.hid hp
            replace H5 := Lib.hid (H5.out.below hb H5.out.lt)
            replace H6 := Lib.hid (H6.out.below hb H6.out.lt)
            replace P10 := Lib.hid (P10.out.below hb)
            clear hb hp
            refine hK.out _ _ ⟨⟨HS.out.k1, HS.out.k2⟩, HS.out.k3, HS.out.k4⟩ (fun hH7 => ?_)
            clear hK K
            try simp only [List.setIfInBounds_toArray, List.set_cons_zero, List.set_cons_succ]
            refine wpAnyH_take (i := 8 ) (v := ?_) rfl (by kernel_rfl) (by kernel_rfl) (by kernel_rfl) (fun _ _ _ h => h) (Or.inl ⟨by rfl, ?_⟩) (by assumption) ?_; rotate_left; (· (intro w0 hSw; clear hSw; go_simp); first | done | with_reducible rfl); (try simp only [Act.put, List.getElem_toArray, List.getElem_cons_succ, List.getElem_cons_zero, List.setIfInBounds_toArray, List.set_cons_zero, List.set_cons_succ])
            refine wpAnyH_take (i := 9 ) (v := ?_) rfl (by kernel_rfl) (by kernel_rfl) (by kernel_rfl) (fun _ _ _ h => h) (Or.inl ⟨by rfl, ?_⟩) (by assumption) ?_; rotate_left; (· (intro w0 hSw; clear hSw; go_simp); first | done | with_reducible rfl); (try simp only [Act.put, List.getElem_toArray, List.getElem_cons_succ, List.getElem_cons_zero, List.setIfInBounds_toArray, List.set_cons_zero, List.set_cons_succ])
            refine wpAnyH_take (i := 10 ) (v := ?_) rfl (by kernel_rfl) (by kernel_rfl) (by kernel_rfl) (fun _ _ _ h => h) (Or.inl ⟨by rfl, ?_⟩) (by assumption) ?_; rotate_left; (· (intro w0 hSw; clear hSw; go_simp); first | done | with_reducible rfl); (try simp only [Act.put, List.getElem_toArray, List.getElem_cons_succ, List.getElem_cons_zero, List.setIfInBounds_toArray, List.set_cons_zero, List.set_cons_succ])
            refine wpAnyH_take (i := 11 ) (v := ?_) rfl (by kernel_rfl) (by kernel_rfl) (by kernel_rfl) (fun _ _ _ h => h) (Or.inl ⟨by rfl, ?_⟩) (by assumption) ?_; rotate_left; (· (intro w0 hSw; clear hSw; go_simp); first | done | with_reducible rfl); (try simp only [Act.put, List.getElem_toArray, List.getElem_cons_succ, List.getElem_cons_zero, List.setIfInBounds_toArray, List.set_cons_zero, List.set_cons_succ])
            refine wpAnyH_take (i := 12 ) (v := ?_) rfl (by kernel_rfl) (by kernel_rfl) (by kernel_rfl) (fun _ _ _ h => h) (Or.inl ⟨by rfl, ?_⟩) (by assumption) ?_; rotate_left; (· (intro w0 hSw; clear hSw; go_simp); first | done | with_reducible rfl); (try simp only [Act.put, List.getElem_toArray, List.getElem_cons_succ, List.getElem_cons_zero, List.setIfInBounds_toArray, List.set_cons_zero, List.set_cons_succ])
            refine wpAnyH_take (i := 13 ) (v := ?_) rfl (by kernel_rfl) (by kernel_rfl) (by kernel_rfl) (fun _ _ _ h => h) (Or.inl ⟨by rfl, ?_⟩) (by assumption) ?_; rotate_left; (· (intro w0 hSw; clear hSw; go_simp); first | done | with_reducible rfl); (try simp only [Act.put, List.getElem_toArray, List.getElem_cons_succ, List.getElem_cons_zero, List.setIfInBounds_toArray, List.set_cons_zero, List.set_cons_succ])
            refine wpAnyH_take (i := 14 ) (v := ?_) rfl (by kernel_rfl) (by kernel_rfl) (by kernel_rfl) (fun _ _ _ h => h) (Or.inl ⟨by rfl, ?_⟩) (by assumption) ?_; rotate_left; (· (intro w0 hSw; clear hSw; go_simp); first | done | with_reducible rfl); (try simp only [Act.put, List.getElem_toArray, List.getElem_cons_succ, List.getElem_cons_zero, List.setIfInBounds_toArray, List.set_cons_zero, List.set_cons_succ])
            refine wpAnyH_done (by kernel_rfl) ?_ _
            go_wp2_with fail
            go_meet
            exact ⟨A12, c12, rfl, rfl, rfl, HS, H5, H6, P10, P12⟩
          exact AllReadyH.nil
        refine AllReadyH.cons (by simp only [List.getElem?_toArray, List.getElem?_cons_succ, List.getElem?_cons_zero]; rfl) (fun K hK => ?_) ?_
        · rw [if_pos (by rfl)]
          refine wp_bs 26 37 2 _ (by rfl) #[.int .i64 5000, .int .i64 5010, .int .i64 1010, .int .i64 1020, .int .i64 0, .int .i64 4, .int .i64 1, .int .i64 2, .int .i64 4900, .int .i64 4910, .int .i64 1010, .int .i64 1020, .int .i64 0, .int .i64 4, .int .i64 1, .int .i64 2] [.agg #[.int .i64 5000, .int .i64 5010, .int .i64 1010, .int .i64 1020, .int .i64 0, .int .i64 4, .int .i64 1, .int .i64 2], .agg #[.int .i64 4900, .int .i64 4910, .int .i64 1010, .int .i64 1020, .int .i64 0, .int .i64 4, .int .i64 1, .int .i64 2]] (.agg #[.int .i64 0, .int .i64 0, .int .i64 0, .int .i64 0, .int .i64 0, .int .i64 0, .int .i64 0, .int .i64 0]) 8 (by kernel_rfl) (by kernel_rfl) (by decide) (by rfl) (by rfl) (by rfl) (by rfl) ?_
          simp only [Act.put, List.setIfInBounds_toArray, List.set_cons_zero, List.set_cons_succ]
          have hb : Below V0.heap.size V0 (V0.alloc (.cells #[.int .i64 5000, .int .i64 5010, .int .i64 1010, .int .i64 1020, .int .i64 0, .int .i64 4, .int .i64 1, .int .i64 2, .int .i64 4900, .int .i64 4910, .int .i64 1010, .int .i64 1020, .int .i64 0, .int .i64 4, .int .i64 1, .int .i64 2] 37)) := (Below.refl _ _).alloc (Nat.le_refl _) _
          have H1 := Lib.hid (Blk.new V0 37 #[.int .i64 5000, .int .i64 5010, .int .i64 1010, .int .i64 1020, .int .i64 0, .int .i64 4, .int .i64 1, .int .i64 2, .int .i64 4900, .int .i64 4910, .int .i64 1010, .int .i64 1020, .int .i64 0, .int .i64 4, .int .i64 1, .int .i64 2])
          have hg1 : q + 1 + 1 + 1 < V0.heap.size := HS.out.k4.lt
          replace HS := Lib.hid (HS.out.call hb)
          replace H5 := Lib.hid (H5.out.below hb H5.out.lt)
          replace H6 := Lib.hid (H6.out.below hb H6.out.lt)
          replace P10 := Lib.hid (P10.out.below hb)
          clear hb
          generalize V0.heap.size = g1 at *
          generalize World.alloc V0 _ = X at *
          refine hK.out _ _ ⟨⟨HS.out.k1, HS.out.k2⟩, HS.out.k3, HS.out.k4⟩ (fun hH8 => ?_)
          clear hK K
          try simp only [List.setIfInBounds_toArray, List.set_cons_zero, List.set_cons_succ]
          refine wpAnyH_ready (rs := [0, 6]) (by kernel_rfl) (by simp) ?_
          refine AllReadyH.cons (by simp only [List.getElem?_toArray, List.getElem?_cons_zero]; rfl) (fun K hK => ?_) ?_
          · go_simp
            refine (jig45_any _).mono ?_
            rintro e X ⟨rfl, hb⟩
            replace HS := Lib.hid (HS.out.call hb)
            replace H5 := Lib.hid (H5.out.below hb H5.out.lt)
            replace H6 := Lib.hid (H6.out.below hb H6.out.lt)
            replace P10 := Lib.hid (P10.out.below hb)
            replace H1 := Lib.hid (H1.out.below hb H1.out.lt)
            clear hb
            refine hK.out _ _ ⟨⟨HS.out.k1, HS.out.k2⟩, HS.out.k3, HS.out.k4⟩ (fun hH9 => ?_)
            clear hK K
            try simp only [List.setIfInBounds_toArray, List.set_cons_zero]
            refine wpAnyH_ready (rs := [6]) (by kernel_rfl) (by simp) ?_
            refine AllReadyH.cons (by simp only [List.getElem?_toArray, List.getElem?_cons_succ, List.getElem?_cons_zero]; rfl) (fun K hK => ?_) AllReadyH.nil
            rw [if_pos (by rfl)]
            refine wp_bs 26 37 2 _ (by rfl) #[.int .i64 4880, .int .i64 4890, .int .i64 1000, .int .i64 1010, .int .i64 (-2), .int .i64 2, .int .i64 0, .int .i64 1, .int .i64 4980, .int .i64 4990, .int .i64 1000, .int .i64 1010, .int .i64 (-2), .int .i64 2, .int .i64 0, .int .i64 1] [.agg #[.int .i64 4880, .int .i64 4890, .int .i64 1000, .int .i64 1010, .int .i64 (-2), .int .i64 2, .int .i64 0, .int .i64 1], .agg #[.int .i64 4980, .int .i64 4990, .int .i64 1000, .int .i64 1010, .int .i64 (-2), .int .i64 2, .int .i64 0, .int .i64 1]] (.agg #[.int .i64 0, .int .i64 0, .int .i64 0, .int .i64 0, .int .i64 0, .int .i64 0, .int .i64 0, .int .i64 0]) 8 (by kernel_rfl) (by kernel_rfl) (by decide) (by rfl) (by rfl) (by rfl) (by rfl) ?_
            simp only [Act.put, List.setIfInBounds_toArray, List.set_cons_zero, List.set_cons_succ]
            have hb : Below X.heap.size X (X.alloc (.cells #[.int .i64 4880, .int .i64 4890, .int .i64 1000, .int .i64 1010, .int .i64 (-2), .int .i64 2, .int .i64 0, .int .i64 1, .int .i64 4980, .int .i64 4990, .int .i64 1000, .int .i64 1010, .int .i64 (-2), .int .i64 2, .int .i64 0, .int .i64 1] 37)) := (Below.refl _ _).alloc (Nat.le_refl _) _
            have H2 := Lib.hid (Blk.new X 37 #[.int .i64 4880, .int .i64 4890, .int .i64 1000, .int .i64 1010, .int .i64 (-2), .int .i64 2, .int .i64 0, .int .i64 1, .int .i64 4980, .int .i64 4990, .int .i64 1000, .int .i64 1010, .int .i64 (-2), .int .i64 2, .int .i64 0, .int .i64 1])
            have hg2 : q + 1 + 1 + 1 < X.heap.size := HS.out.k4.lt
            replace HS := Lib.hid (HS.out.call hb)
            replace H5 := Lib.hid (H5.out.below hb H5.out.lt)
            replace H6 := Lib.hid (H6.out.below hb H6.out.lt)
            replace P10 := Lib.hid (P10.out.below hb)
            replace H1 := Lib.hid (H1.out.below hb H1.out.lt)
            clear hb
            generalize X.heap.size = g2 at *
            generalize World.alloc X _ = X at *
            refine hK.out _ _ ⟨⟨HS.out.k1, HS.out.k2⟩, HS.out.k3, HS.out.k4⟩ (fun hH10 => ?_)
            clear hK K
            try simp only [List.setIfInBounds_toArray, List.set_cons_zero, List.set_cons_succ]
            refine wpAnyH_ready (rs := [7]) (by kernel_rfl) (by simp) ?_
            refine AllReadyH.cons (by simp only [List.getElem?_toArray, List.getElem?_cons_succ, List.getElem?_cons_zero]; rfl) (fun K hK => ?_) AllReadyH.nil
            go_simp
            refine (pairL_any _ g1 g2 H1.out H2.out).mono ?_
            rintro e X ⟨A12, c12, rfl, hp, hb⟩
            replace HS := Lib.hid (HS.out.call hb)
            have P12 := Lib.hid hp
            replace H5 := Lib.hid (H5.out.below hb H5.out.lt)
            replace H6 := Lib.hid (H6.out.below hb H6.out.lt)
            replace P10 := Lib.hid (P10.out.below hb)
            clear hb hp
            refine hK.out _ _ ⟨⟨HS.out.k1, HS.out.k2⟩, HS.out.k3, HS.out.k4⟩ (fun hH11 => ?_)
            clear hK K
            try simp only [List.setIfInBounds_toArray, List.set_cons_zero, List.set_cons_succ]
            refine wpAnyH_take (i := 8 ) (v := ?_) rfl (by kernel_rfl) (by kernel_rfl) (by kernel_rfl) (fun _ _ _ h => h) (Or.inl ⟨by rfl, ?_⟩) (by assumption) ?_; rotate_left; (· (intro w0 hSw; clear hSw; go_simp); first | done | with_reducible rfl); (try simp only [Act.put, List.getElem_toArray, List.getElem_cons_succ, List.getElem_cons_zero, List.setIfInBounds_toArray, List.set_cons_zero, List.set_cons_succ])
            refine wpAnyH_take (i := 9 ) (v := ?_) rfl (by kernel_rfl) (by kernel_rfl) (by kernel_rfl) (fun _ _ _ h => h) (Or.inl ⟨by rfl, ?_⟩) (by assumption) ?_; rotate_left; (· (intro w0 hSw; clear hSw; go_simp); first | done | with_reducible rfl); (try simp only [Act.put, List.getElem_toArray, List.getElem_cons_succ, List.getElem_cons_zero, List.setIfInBounds_toArray, List.set_cons_zero, List.set_cons_succ])
            refine wpAnyH_take (i := 10 ) (v := ?_) rfl (by kernel_rfl) (by kernel_rfl) (by kernel_rfl) (fun _ _ _ h => h) (Or.inl ⟨by rfl, ?_⟩) (by assumption) ?_; rotate_left; (· (intro w0 hSw; clear hSw; go_simp); first | done | with_reducible rfl); (try simp only [Act.put, List.getElem_toArray, List.getElem_cons_succ, List.getElem_cons_zero, List.setIfInBounds_toArray, List.set_cons_zero, List.set_cons_succ])
            refine wpAnyH_take (i := 11 ) (v := ?_) rfl (by kernel_rfl) (by kernel_rfl) (by kernel_rfl) (fun _ _ _ h => h) (Or.inl ⟨by rfl, ?_⟩) (by assumption) ?_; rotate_left; (· (intro w0 hSw; clear hSw; go_simp); first | done | with_reducible rfl); (try simp only [Act.put, List.getElem_toArray, List.getElem_cons_succ, List.getElem_cons_zero, List.setIfInBounds_toArray, List.set_cons_zero, List.set_cons_succ])
            refine wpAnyH_take (i := 12 ) (v := ?_) rfl (by kernel_rfl) (by kernel_rfl) (by kernel_rfl) (fun _ _ _ h => h) (Or.inl ⟨by rfl, ?_⟩) (by assumption) ?_; rotate_left; (· (intro w0 hSw; clear hSw; go_simp); first | done | with_reducible rfl); (try simp only [Act.put, List.getElem_toArray, List.getElem_cons_succ, List.getElem_cons_zero, List.setIfInBounds_toArray, List.set_cons_zero, List.set_cons_succ])
            refine wpAnyH_take (i := 13 ) (v := ?_) rfl (by kernel_rfl) (by kernel_rfl) (by kernel_rfl) (fun _ _ _ h => h) (Or.inl ⟨by rfl, ?_⟩) (by assumption) ?_; rotate_left; (· (intro w0 hSw; clear hSw; go_simp); first | done | with_reducible rfl); (try simp only [Act.put, List.getElem_toArray, List.getElem_cons_succ, List.getElem_cons_zero, List.setIfInBounds_toArray, List.set_cons_zero, List.set_cons_succ])
            refine wpAnyH_take (i := 14 ) (v := ?_) rfl (by kernel_rfl) (by kernel_rfl) (by kernel_rfl) (fun _ _ _ h => h) (Or.inl ⟨by rfl, ?_⟩) (by assumption) ?_; rotate_left; (· (intro w0 hSw; clear hSw; go_simp); first | done | with_reducible rfl); (try simp only [Act.put, List.getElem_toArray, List.getElem_cons_succ, List.getElem_cons_zero, List.setIfInBounds_toArray, List.set_cons_zero, List.set_cons_succ])
            refine wpAnyH_done (by kernel_rfl) ?_ _
            go_wp2_with fail
            go_meet
            exact ⟨A12, c12, rfl, rfl, rfl, HS, H5, H6, P10, P12⟩
          refine AllReadyH.cons (by simp only [List.getElem?_toArray, List.getElem?_cons_succ, List.getElem?_cons_zero]; rfl) (fun K hK => ?_) ?_
          · rw [if_pos (by rfl)]
            refine wp_bs 26 37 2 _ (by rfl) #[.int .i64 4880, .int .i64 4890, .int .i64 1000, .int .i64 1010, .int .i64 (-2), .int .i64 2, .int .i64 0, .int .i64 1, .int .i64 4980, .int .i64 4990, .int .i64 1000, .int .i64 1010, .int .i64 (-2), .int .i64 2, .int .i64 0, .int .i64 1] [.agg #[.int .i64 4880, .int .i64 4890, .int .i64 1000, .int .i64 1010, .int .i64 (-2), .int .i64 2, .int .i64 0, .int .i64 1], .agg #[.int .i64 4980, .int .i64 4990, .int .i64 1000, .int .i64 1010, .int .i64 (-2), .int .i64 2, .int .i64 0, .int .i64 1]] (.agg #[.int .i64 0, .int .i64 0, .int .i64 0, .int .i64 0, .int .i64 0, .int .i64 0, .int .i64 0, .int .i64 0]) 8 (by kernel_rfl) (by kernel_rfl) (by decide) (by rfl) (by rfl) (by rfl) (by rfl) ?_
            simp only [Act.put, List.setIfInBounds_toArray, List.set_cons_zero, List.set_cons_succ]
            have hb : Below X.heap.size X (X.alloc (.cells #[.int .i64 4880, .int .i64 4890, .int .i64 1000, .int .i64 1010, .int .i64 (-2), .int .i64 2, .int .i64 0, .int .i64 1, .int .i64 4980, .int .i64 4990, .int .i64 1000, .int .i64 1010, .int .i64 (-2), .int .i64 2, .int .i64 0, .int .i64 1] 37)) := (Below.refl _ _).alloc (Nat.le_refl _) _
            have H2 := Lib.hid (Blk.new X 37 #[.int .i64 4880, .int .i64 4890, .int .i64 1000, .int .i64 1010, .int .i64 (-2), .int .i64 2, .int .i64 0, .int .i64 1, .int .i64 4980, .int .i64 4990, .int .i64 1000, .int .i64 1010, .int .i64 (-2), .int .i64 2, .int .i64 0, .int .i64 1])
            have hg2 : q + 1 + 1 + 1 < X.heap.size := HS.out.k4.lt
            replace HS := Lib.hid (HS.out.call hb)
            replace H5 := Lib.hid (H5.out.below hb H5.out.lt)
            replace H6 := Lib.hid (H6.out.below hb H6.out.lt)
            replace P10 := Lib.hid (P10.out.below hb)
            replace H1 := Lib.hid (H1.out.below hb H1.out.lt)
            clear hb
            generalize X.heap.size = g2 at *
            generalize World.alloc X _ = X at *
            refine hK.out _ _ ⟨⟨HS.out.k1, HS.out.k2⟩, HS.out.k3, HS.out.k4⟩ (fun hH12 => ?_)
            clear hK K
            try simp only [List.setIfInBounds_toArray, List.set_cons_zero, List.set_cons_succ]
            refine wpAnyH_ready (rs := [0]) (by kernel_rfl) (by simp) ?_
            refine AllReadyH.cons (by simp only [List.getElem?_toArray, List.getElem?_cons_zero]; rfl) (fun K hK => ?_) AllReadyH.nil
            go_simp
            refine (jig45_any _).mono ?_
            rintro e X ⟨rfl, hb⟩
            replace HS := Lib.hid (HS.out.call hb)
            replace H5 := Lib.hid (H5.out.below hb H5.out.lt)
            replace H6 := Lib.hid (H6.out.below hb H6.out.lt)
            replace P10 := Lib.hid (P10.out.below hb)
            replace H1 := Lib.hid (H1.out.below hb H1.out.lt)
            replace H2 := Lib.hid (H2.out.below hb H2.out.lt)
            clear hb
            refine hK.out _ _ ⟨⟨HS.out.k1, HS.out.k2⟩, HS.out.k3, HS.out.k4⟩ (fun hH13 => ?_)
            clear hK K
            try simp only [List.setIfInBounds_toArray, List.set_cons_zero]
            refine wpAnyH_ready (rs := [7]) (by kernel_rfl) (by simp) ?_
            refine AllReadyH.cons (by simp only [List.getElem?_toArray, List.getElem?_cons_succ, List.getElem?_cons_zero]; rfl) (fun K hK => ?_) AllReadyH.nil
            go_simp
            refine (pairL_any _ g1 g2 H1.out H2.out).mono ?_
            rintro e X ⟨A12, c12, rfl, hp, hb⟩
            replace HS := Lib.hid (HS.out.call hb)
            have P12 := Lib.hid hp
            replace H5 := Lib.hid (H5.out.below hb H5.out.lt)
            replace H6 := Lib.hid (H6.out.below hb H6.out.lt)
            replace P10 := Lib.hid (P10.out.below hb)
            clear hb hp
            refine hK.out _ _ ⟨⟨HS.out.k1, HS.out.k2⟩, HS.out.k3, HS.out.k4⟩ (fun hH14 => ?_)
            clear hK K
            try simp only [List.setIfInBounds_toArray, List.set_cons_zero, List.set_cons_succ]
            refine wpAnyH_take (i := 8 ) (v := ?_) rfl (by kernel_rfl) (by kernel_rfl) (by kernel_rfl) (fun _ _ _ h => h) (Or.inl ⟨by rfl, ?_⟩) (by assumption) ?_; rotate_left; (· (intro w0 hSw; clear hSw; go_simp); first | done | with_reducible rfl); (try simp only [Act.put, List.getElem_toArray, List.getElem_cons_succ, List.getElem_cons_zero, List.setIfInBounds_toArray, List.set_cons_zero, List.set_cons_succ])
            refine wpAnyH_take (i := 9 ) (v := ?_) rfl (by kernel_rfl) (by kernel_rfl) (by kernel_rfl) (fun _ _ _ h => h) (Or.inl ⟨by rfl, ?_⟩) (by assumption) ?_; rotate_left; (· (intro w0 hSw; clear hSw; go_simp); first | done | with_reducible rfl); (try simp only [Act.put, List.getElem_toArray, List.getElem_cons_succ, List.getElem_cons_zero, List.setIfInBounds_toArray, List.set_cons_zero, List.set_cons_succ])
            refine wpAnyH_take (i := 10 ) (v := ?_) rfl (by kernel_rfl) (by kernel_rfl) (by kernel_rfl) (fun _ _ _ h => h) (Or.inl ⟨by rfl, ?_⟩) (by assumption) ?_; rotate_left; (· (intro w0 hSw; clear hSw; go_simp); first | done | with_reducible rfl); (try simp only [Act.put, List.getElem_toArray, List.getElem_cons_succ, List.getElem_cons_zero, List.setIfInBounds_toArray, List.set_cons_zero, List.set_cons_succ])
            refine wpAnyH_take (i := 11 ) (v := ?_) rfl (by kernel_rfl) (by kernel_rfl) (by kernel_rfl) (fun _ _ _ h => h) (Or.inl ⟨by rfl, ?_⟩) (by assumption) ?_; rotate_left; (· (intro w0 hSw; clear hSw; go_simp); first | done | with_reducible rfl); (try simp only [Act.put, List.getElem_toArray, List.getElem_cons_succ, List.getElem_cons_zero, List.setIfInBounds_toArray, List.set_cons_zero, List.set_cons_succ])
            refine wpAnyH_take (i := 12 ) (v := ?_) rfl (by kernel_rfl) (by kernel_rfl) (by kernel_rfl) (fun _ _ _ h => h) (Or.inl ⟨by rfl, ?_⟩) (by assumption) ?_; rotate_left; (· (intro w0 hSw; clear hSw; go_simp); first | done | with_reducible rfl); (try simp only [Act.put, List.getElem_toArray, List.getElem_cons_succ, List.getElem_cons_zero, List.setIfInBounds_toArray, List.set_cons_zero, List.set_cons_succ])
            refine wpAnyH_take (i := 13 ) (v := ?_) rfl (by kernel_rfl) (by kernel_rfl) (by kernel_rfl) (fun _ _ _ h => h) (Or.inl ⟨by rfl, ?_⟩) (by assumption) ?_; rotate_left; (· (intro w0 hSw; clear hSw; go_simp); first | done | with_reducible rfl); (try simp only [Act.put, List.getElem_toArray, List.getElem_cons_succ, List.getElem_cons_zero, List.setIfInBounds_toArray, List.set_cons_zero, List.set_cons_succ])
            refine wpAnyH_take (i := 14 ) (v := ?_) rfl (by kernel_rfl) (by kernel_rfl) (by kernel_rfl) (fun _ _ _ h => h) (Or.inl ⟨by rfl, ?_⟩) (by assumption) ?_; rotate_left; (· (intro w0 hSw; clear hSw; go_simp); first | done | with_reducible rfl); (try simp only [Act.put, List.getElem_toArray, List.getElem_cons_succ, List.getElem_cons_zero, List.setIfInBounds_toArray, List.set_cons_zero, List.set_cons_succ])
            refine wpAnyH_done (by kernel_rfl) ?_ _
            go_wp2_with fail
            go_meet
            exact ⟨A12, c12, rfl, rfl, rfl, HS, H5, H6, P10, P12⟩
          exact AllReadyH.nil
        refine AllReadyH.cons (by simp only [List.getElem?_toArray, List.getElem?_cons_succ, List.getElem?_cons_zero]; rfl) (fun K hK => ?_) ?_
        · rw [if_pos (by rfl)]
          refine wp_bs 26 37 2 _ (by rfl) #[.int .i64 4880, .int .i64 4890, .int .i64 1000, .int .i64 1010, .int .i64 (-2), .int .i64 2, .int .i64 0, .int .i64 1, .int .i64 4980, .int .i64 4990, .int .i64 1000, .int .i64 1010, .int .i64 (-2), .int .i64 2, .int .i64 0, .int .i64 1] [.agg #[.int .i64 4880, .int .i64 4890, .int .i64 1000, .int .i64 1010, .int .i64 (-2), .int .i64 2, .int .i64 0, .int .i64 1], .agg #[.int .i64 4980, .int .i64 4990, .int .i64 1000, .int .i64 1010, .int .i64 (-2), .int .i64 2, .int .i64 0, .int .i64 1]] (.agg #[.int .i64 0, .int .i64 0, .int .i64 0, .int .i64 0, .int .i64 0, .int .i64 0, .int .i64 0, .int .i64 0]) 8 (by kernel_rfl) (by kernel_rfl) (by decide) (by rfl) (by rfl) (by rfl) (by rfl) ?_
          simp only [Act.put, List.setIfInBounds_toArray, List.set_cons_zero, List.set_cons_succ]
          have hb : Below V0.heap.size V0 (V0.alloc (.cells #[.int .i64 4880, .int .i64 4890, .int .i64 1000, .int .i64 1010, .int .i64 (-2), .int .i64 2, .int .i64 0, .int .i64 1, .int .i64 4980, .int .i64 4990, .int .i64 1000, .int .i64 1010, .int .i64 (-2), .int .i64 2, .int .i64 0, .int .i64 1] 37)) := (Below.refl _ _).alloc (Nat.le_refl _) _
          have H2 := Lib.hid (Blk.new V0 37 #[.int .i64 4880, .int .i64 4890, .int .i64 1000, .int .i64 1010, .int .i64 (-2), .int .i64 2, .int .i64 0, .int .i64 1, .int .i64 4980, .int .i64 4990, .int .i64 1000, .int .i64 1010, .int .i64 (-2), .int .i64 2, .int .i64 0, .int .i64 1])
          have hg2 : q + 1 + 1 + 1 < V0.heap.size := HS.out.k4.lt
          replace HS := Lib.hid (HS.out.call hb)
          replace H5 := Lib.hid (H5.out.below hb H5.out.lt)
          replace H6 := Lib.hid (H6.out.below hb H6.out.lt)
          replace P10 := Lib.hid (P10.out.below hb)
          clear hb
          generalize V0.heap.size = g2 at *
          generalize World.alloc V0 _ = X at *
          refine hK.out _ _ ⟨⟨HS.out.k1, HS.out.k2⟩, HS.out.k3, HS.out.k4⟩ (fun hH15 => ?_)
          clear hK K
          try simp only [List.setIfInBounds_toArray, List.set_cons_zero, List.set_cons_succ]
          refine wpAnyH_ready (rs := [0, 3]) (by kernel_rfl) (by simp) ?_
          refine AllReadyH.cons (by simp only [List.getElem?_toArray, List.getElem?_cons_zero]; rfl) (fun K hK => ?_) ?_
          · go_simp
            refine (jig45_any _).mono ?_
            rintro e X ⟨rfl, hb⟩
            replace HS := Lib.hid (HS.out.call hb)
            replace H5 := Lib.hid (H5.out.below hb H5.out.lt)
            replace H6 := Lib.hid (H6.out.below hb H6.out.lt)
            replace P10 := Lib.hid (P10.out.below hb)
            replace H2 := Lib.hid (H2.out.below hb H2.out.lt)
            clear hb
            refine hK.out _ _ ⟨⟨HS.out.k1, HS.out.k2⟩, HS.out.k3, HS.out.k4⟩ (fun hH16 => ?_)
            clear hK K
            try simp only [List.setIfInBounds_toArray, List.set_cons_zero]
            refine wpAnyH_ready (rs := [3]) (by kernel_rfl) (by simp) ?_
            refine AllReadyH.cons (by simp only [List.getElem?_toArray, List.getElem?_cons_succ, List.getElem?_cons_zero]; rfl) (fun K hK => ?_) AllReadyH.nil
            rw [if_pos (by rfl)]
            refine wp_bs 26 37 2 _ (by rfl) #[.int .i64 5000, .int .i64 5010, .int .i64 1010, .int .i64 1020, .int .i64 0, .int .i64 4, .int .i64 1, .int .i64 2, .int .i64 4900, .int .i64 4910, .int .i64 1010, .int .i64 1020, .int .i64 0, .int .i64 4, .int .i64 1, .int .i64 2] [.agg #[.int .i64 5000, .int .i64 5010, .int .i64 1010, .int .i64 1020, .int .i64 0, .int .i64 4, .int .i64 1, .int .i64 2], .agg #[.int .i64 4900, .int .i64 4910, .int .i64 1010, .int .i64 1020, .int .i64 0, .int .i64 4, .int .i64 1, .int .i64 2]] (.agg #[.int .i64 0, .int .i64 0, .int .i64 0, .int .i64 0, .int .i64 0, .int .i64 0, .int .i64 0, .int .i64 0]) 8 (by kernel_rfl) (by kernel_rfl) (by decide) (by rfl) (by rfl) (by rfl) (by rfl) ?_
            simp only [Act.put, List.setIfInBounds_toArray, List.set_cons_zero, List.set_cons_succ]
            have hb : Below X.heap.size X (X.alloc (.cells #[.int .i64 5000, .int .i64 5010, .int .i64 1010, .int .i64 1020, .int .i64 0, .int .i64 4, .int .i64 1, .int .i64 2, .int .i64 4900, .int .i64 4910, .int .i64 1010, .int .i64 1020, .int .i64 0, .int .i64 4, .int .i64 1, .int .i64 2] 37)) := (Below.refl _ _).alloc (Nat.le_refl _) _
            have H1 := Lib.hid (Blk.new X 37 #[.int .i64 5000, .int .i64 5010, .int .i64 1010, .int .i64 1020, .int .i64 0, .int .i64 4, .int .i64 1, .int .i64 2, .int .i64 4900, .int .i64 4910, .int .i64 1010, .int .i64 1020, .int .i64 0, .int .i64 4, .int .i64 1, .int .i64 2])
            have hg1 : q + 1 + 1 + 1 < X.heap.size := HS.out.k4.lt
            replace HS := Lib.hid (HS.out.call hb)
            replace H5 := Lib.hid (H5.out.below hb H5.out.lt)
            replace H6 := Lib.hid (H6.out.below hb H6.out.lt)
            replace P10 := Lib.hid (P10.out.below hb)
            replace H2 := Lib.hid (H2.out.below hb H2.out.lt)
            clear hb
            generalize X.heap.size = g1 at *
            generalize World.alloc X _ = X at *
            refine hK.out _ _ ⟨⟨HS.out.k1, HS.out.k2⟩, HS.out.k3, HS.out.k4⟩ (fun hH17 => ?_)
            clear hK K
            try simp only [List.setIfInBounds_toArray, List.set_cons_zero, List.set_cons_succ]
            refine wpAnyH_ready (rs := [7]) (by kernel_rfl) (by simp) ?_
            refine AllReadyH.cons (by simp only [List.getElem?_toArray, List.getElem?_cons_succ, List.getElem?_cons_zero]; rfl) (fun K hK => ?_) AllReadyH.nil
            go_simp
            refine (pairL_any _ g1 g2 H1.out H2.out).mono ?_
            rintro e X ⟨A12, c12, rfl, hp, hb⟩
            replace HS := Lib.hid (HS.out.call hb)
            have P12 := Lib.hid hp
            replace H5 := Lib.hid (H5.out.below hb H5.out.lt)
            replace H6 := Lib.hid (H6.out.below hb H6.out.lt)
            replace P10 := Lib.hid (P10.out.below hb)
            clear hb hp
            refine hK.out _ _ ⟨⟨HS.out.k1, HS.out.k2⟩, HS.out.k3, HS.out.k4⟩ (fun hH18 => ?_)
            clear hK K
            try simp only [List.setIfInBounds_toArray, List.set_cons_zero, List.set_cons_succ]
            refine wpAnyH_take (i := 8 ) (v := ?_) rfl (by kernel_rfl) (by kernel_rfl) (by kernel_rfl) (fun _ _ _ h => h) (Or.inl ⟨by rfl, ?_⟩) (by assumption) ?_; rotate_left; (· (intro w0 hSw; clear hSw; go_simp); first | done | with_reducible rfl); (try simp only [Act.put, List.getElem_toArray, List.getElem_cons_succ, List.getElem_cons_zero, List.setIfInBounds_toArray, List.set_cons_zero, List.set_cons_succ])
            refine wpAnyH_take (i := 9 ) (v := ?_) rfl (by kernel_rfl) (by kernel_rfl) (by kernel_rfl) (fun _ _ _ h => h) (Or.inl ⟨by rfl, ?_⟩) (by assumption) ?_; rotate_left; (· (intro w0 hSw; clear hSw; go_simp); first | done | with_reducible rfl); (try simp only [Act.put, List.getElem_toArray, List.getElem_cons_succ, List.getElem_cons_zero, List.setIfInBounds_toArray, List.set_cons_zero, List.set_cons_succ])
            refine wpAnyH_take (i := 10 ) (v := ?_) rfl (by kernel_rfl) (by kernel_rfl) (by kernel_rfl) (fun _ _ _ h => h) (Or.inl ⟨by rfl, ?_⟩) (by assumption) ?_; rotate_left; (· (intro w0 hSw; clear hSw; go_simp); first | done | with_reducible rfl); (try simp only [Act.put, List.getElem_toArray, List.getElem_cons_succ, List.getElem_cons_zero, List.setIfInBounds_toArray, List.set_cons_zero, List.set_cons_succ])
            refine wpAnyH_take (i := 11 ) (v := ?_) rfl (by kernel_rfl) (by kernel_rfl) (by kernel_rfl) (fun _ _ _ h => h) (Or.inl ⟨by rfl, ?_⟩) (by assumption) ?_; rotate_left; (· (intro w0 hSw; clear hSw; go_simp); first | done | with_reducible rfl); (try simp only [Act.put, List.getElem_toArray, List.getElem_cons_succ, List.getElem_cons_zero, List.setIfInBounds_toArray, List.set_cons_zero, List.set_cons_succ])
            refine wpAnyH_take (i := 12 ) (v := ?_) rfl (by kernel_rfl) (by kernel_rfl) (by kernel_rfl) (fun _ _ _ h => h) (Or.inl ⟨by rfl, ?_⟩) (by assumption) ?_; rotate_left; (· (intro w0 hSw; clear hSw; go_simp); first | done | with_reducible rfl); (try simp only [Act.put, List.getElem_toArray, List.getElem_cons_succ, List.getElem_cons_zero, List.setIfInBounds_toArray, List.set_cons_zero, List.set_cons_succ])
            refine wpAnyH_take (i := 13 ) (v := ?_) rfl (by kernel_rfl) (by kernel_rfl) (by kernel_rfl) (fun _ _ _ h => h) (Or.inl ⟨by rfl, ?_⟩) (by assumption) ?_; rotate_left; (· (intro w0 hSw; clear hSw; go_simp); first | done | with_reducible rfl); (try simp only [Act.put, List.getElem_toArray, List.getElem_cons_succ, List.getElem_cons_zero, List.setIfInBounds_toArray, List.set_cons_zero, List.set_cons_succ])
            refine wpAnyH_take (i := 14 ) (v := ?_) rfl (by kernel_rfl) (by kernel_rfl) (by kernel_rfl) (fun _ _ _ h => h) (Or.inl ⟨by rfl, ?_⟩) (by assumption) ?_; rotate_left; (· (intro w0 hSw; clear hSw; go_simp); first | done | with_reducible rfl); (try simp only [Act.put, List.getElem_toArray, List.getElem_cons_succ, List.getElem_cons_zero, List.setIfInBounds_toArray, List.set_cons_zero, List.set_cons_succ])
            refine wpAnyH_done (by kernel_rfl) ?_ _
            go_wp2_with fail
            go_meet
            exact ⟨A12, c12, rfl, rfl, rfl, HS, H5, H6, P10, P12⟩
          refine AllReadyH.cons (by simp only [List.getElem?_toArray, List.getElem?_cons_succ, List.getElem?_cons_zero]; rfl) (fun K hK => ?_) ?_
          · rw [if_pos (by rfl)]
            refine wp_bs 26 37 2 _ (by rfl) #[.int .i64 5000, .int .i64 5010, .int .i64 1010, .int .i64 1020, .int .i64 0, .int .i64 4, .int .i64 1, .int .i64 2, .int .i64 4900, .int .i64 4910, .int .i64 1010, .int .i64 1020, .int .i64 0, .int .i64 4, .int .i64 1, .int .i64 2] [.agg #[.int .i64 5000, .int .i64 5010, .int .i64 1010, .int .i64 1020, .int .i64 0, .int .i64 4, .int .i64 1, .int .i64 2], .agg #[.int .i64 4900, .int .i64 4910, .int .i64 1010, .int .i64 1020, .int .i64 0, .int .i64 4, .int .i64 1, .int .i64 2]] (.agg #[.int .i64 0, .int .i64 0, .int .i64 0, .int .i64 0, .int .i64 0, .int .i64 0, .int .i64 0, .int .i64 0]) 8 (by kernel_rfl) (by kernel_rfl) (by decide) (by rfl) (by rfl) (by rfl) (by rfl) ?_
            simp only [Act.put, List.setIfInBounds_toArray, List.set_cons_zero, List.set_cons_succ]
            have hb : Below X.heap.size X (X.alloc (.cells #[.int .i64 5000, .int .i64 5010, .int .i64 1010, .int .i64 1020, .int .i64 0, .int .i64 4, .int .i64 1, .int .i64 2, .int .i64 4900, .int .i64 4910, .int .i64 1010, .int .i64 1020, .int .i64 0, .int .i64 4, .int .i64 1, .int .i64 2] 37)) := (Below.refl _ _).alloc (Nat.le_refl _) _
            have H1 := Lib.hid (Blk.new X 37 #[.int .i64 5000, .int .i64 5010, .int .i64 1010, .int .i64 1020, .int .i64 0, .int .i64 4, .int .i64 1, .int .i64 2, .int .i64 4900, .int .i64 4910, .int .i64 1010, .int .i64 1020, .int .i64 0, .int .i64 4, .int .i64 1, .int .i64 2])
            have hg1 : q + 1 + 1 + 1 < X.heap.size := HS.out.k4.lt
            replace HS := Lib.hid (HS.out.call hb)
            replace H5 := Lib.hid (H5.out.below hb H5.out.lt)
            replace H6 := Lib.hid (H6.out.below hb H6.out.lt)
            replace P10 := Lib.hid (P10.out.below hb)
            replace H2 := Lib.hid (H2.out.below hb H2.out.lt)
            clear hb
            generalize X.heap.size = g1 at *
            generalize World.alloc X _ = X at *
            refine hK.out _ _ ⟨⟨HS.out.k1, HS.out.k2⟩, HS.out.k3, HS.out.k4⟩ (fun hH19 => ?_)
            clear hK K
            try simp only [List.setIfInBounds_toArray, List.set_cons_zero, List.set_cons_succ]
            refine wpAnyH_ready (rs := [0]) (by kernel_rfl) (by simp) ?_
            refine AllReadyH.cons (by simp only [List.getElem?_toArray, List.getElem?_cons_zero]; rfl) (fun K hK => ?_) AllReadyH.nil
            go_simp
            refine (jig45_any _).mono ?_
            rintro e X ⟨rfl, hb⟩
            replace HS := Lib.hid (HS.out.call hb)
            replace H5 := Lib.hid (H5.out.below hb H5.out.lt)
            replace H6 := Lib.hid (H6.out.below hb H6.out.lt)
            replace P10 := Lib.hid (P10.out.below hb)
            replace H1 := Lib.hid (H1.out.below hb H1.out.lt)
            replace H2 := Lib.hid (H2.out.below hb H2.out.lt)
            clear hb
            refine hK.out _ _ ⟨⟨HS.out.k1, HS.out.k2⟩, HS.out.k3, HS.out.k4⟩ (fun hH20 => ?_)
            clear hK K
            try simp only [List.setIfInBounds_toArray, List.set_cons_zero]
            refine wpAnyH_ready (rs := [7]) (by kernel_rfl) (by simp) ?_
            refine AllReadyH.cons (by simp only [List.getElem?_toArray, List.getElem?_cons_succ, List.getElem?_cons_zero]; rfl) (fun K hK => ?_) AllReadyH.nil
            go_simp
            refine (pairL_any _ g1 g2 H1.out H2.out).mono ?_
            rintro e X ⟨A12, c12, rfl, hp, hb⟩
            replace HS := Lib.hid (HS.out.call hb)
            have P12 := Lib.hid hp
            replace H5 := Lib.hid (H5.out.below hb H5.out.lt)
            replace H6 := Lib.hid (H6.out.below hb H6.out.lt)
            replace P10 := Lib.hid (P10.out.below hb)
            clear hb hp
            refine hK.out _ _ ⟨⟨HS.out.k1, HS.out.k2⟩, HS.out.k3, HS.out.k4⟩ (fun hH21 => ?_)
            clear hK K
            try simp only [List.setIfInBounds_toArray, List.set_cons_zero, List.set_cons_succ]
            refine wpAnyH_take (i := 8 ) (v := ?_) rfl (by kernel_rfl) (by kernel_rfl) (by kernel_rfl) (fun _ _ _ h => h) (Or.inl ⟨by rfl, ?_⟩) (by assumption) ?_; rotate_left; (· (intro w0 hSw; clear hSw; go_simp); first | done | with_reducible rfl); (try simp only [Act.put, List.getElem_toArray, List.getElem_cons_succ, List.getElem_cons_zero, List.setIfInBounds_toArray, List.set_cons_zero, List.set_cons_succ])
            refine wpAnyH_take (i := 9 ) (v := ?_) rfl (by kernel_rfl) (by kernel_rfl) (by kernel_rfl) (fun _ _ _ h => h) (Or.inl ⟨by rfl, ?_⟩) (by assumption) ?_; rotate_left; (· (intro w0 hSw; clear hSw; go_simp); first | done | with_reducible rfl); (try simp only [Act.put, List.getElem_toArray, List.getElem_cons_succ, List.getElem_cons_zero, List.setIfInBounds_toArray, List.set_cons_zero, List.set_cons_succ])
            refine wpAnyH_take (i := 10 ) (v := ?_) rfl (by kernel_rfl) (by kernel_rfl) (by kernel_rfl) (fun _ _ _ h => h) (Or.inl ⟨by rfl, ?_⟩) (by assumption) ?_; rotate_left; (· (intro w0 hSw; clear hSw; go_simp); first | done | with_reducible rfl); (try simp only [Act.put, List.getElem_toArray, List.getElem_cons_succ, List.getElem_cons_zero, List.setIfInBounds_toArray, List.set_cons_zero, List.set_cons_succ])
            refine wpAnyH_take (i := 11 ) (v := ?_) rfl (by kernel_rfl) (by kernel_rfl) (by kernel_rfl) (fun _ _ _ h => h) (Or.inl ⟨by rfl, ?_⟩) (by assumption) ?_; rotate_left; (· (intro w0 hSw; clear hSw; go_simp); first | done | with_reducible rfl); (try simp only [Act.put, List.getElem_toArray, List.getElem_cons_succ, List.getElem_cons_zero, List.setIfInBounds_toArray, List.set_cons_zero, List.set_cons_succ])
            refine wpAnyH_take (i := 12 ) (v := ?_) rfl (by kernel_rfl) (by kernel_rfl) (by kernel_rfl) (fun _ _ _ h => h) (Or.inl ⟨by rfl, ?_⟩) (by assumption) ?_; rotate_left; (· (intro w0 hSw; clear hSw; go_simp); first | done | with_reducible rfl); (try simp only [Act.put, List.getElem_toArray, List.getElem_cons_succ, List.getElem_cons_zero, List.setIfInBounds_toArray, List.set_cons_zero, List.set_cons_succ])
            refine wpAnyH_take (i := 13 ) (v := ?_) rfl (by kernel_rfl) (by kernel_rfl) (by kernel_rfl) (fun _ _ _ h => h) (Or.inl ⟨by rfl, ?_⟩) (by assumption) ?_; rotate_left; (· (intro w0 hSw; clear hSw; go_simp); first | done | with_reducible rfl); (try simp only [Act.put, List.getElem_toArray, List.getElem_cons_succ, List.getElem_cons_zero, List.setIfInBounds_toArray, List.set_cons_zero, List.set_cons_succ])
            refine wpAnyH_take (i := 14 ) (v := ?_) rfl (by kernel_rfl) (by kernel_rfl) (by kernel_rfl) (fun _ _ _ h => h) (Or.inl ⟨by rfl, ?_⟩) (by assumption) ?_; rotate_left; (· (intro w0 hSw; clear hSw; go_simp); first | done | with_reducible rfl); (try simp only [Act.put, List.getElem_toArray, List.getElem_cons_succ, List.getElem_cons_zero, List.setIfInBounds_toArray, List.set_cons_zero, List.set_cons_succ])
            refine wpAnyH_done (by kernel_rfl) ?_ _
            go_wp2_with fail
            go_meet
            exact ⟨A12, c12, rfl, rfl, rfl, HS, H5, H6, P10, P12⟩
          exact AllReadyH.nil
        exact AllReadyH.nil
      case rest => as_aux_lemma =>
        obtain ⟨A12, c12, rfl, rfl, rfl, HS, H5, H6, P10, P12⟩ := hcut
        go_upto_region 6 with fail
        go_cut [15, 16, 17, 18] (fun a b c d wx => a = .int .i64 1 ∧ b = .int .i64 (-7) ∧ c = .int .i64 3 ∧ d = .int .i64 0 ∧ Hid (AlS w q wx) ∧ Hid (Blk wx g5 23 #[.int .i64 (-11), .int .i64 19]) ∧ Hid (Blk wx g6 23 #[.int .i64 (-70), .int .i64 40]) ∧ Hid (PlanAt wx (.slice A10 3 c10) [0, 1, 1]) ∧ Hid (PlanAt wx (.slice A12 2 c12) [1, 0]))
        case first =>
          go_wp2_with fail
          replace HS := Lib.hid (HS.out.call (Below.refl _ _).drew)
          replace H5 := Lib.hid (H5.out.below (Below.refl _ _).drew H5.out.lt)
          replace H6 := Lib.hid (H6.out.below (Below.refl _ _).drew H6.out.lt)
          replace P10 := Lib.hid (P10.out.below (Below.refl _ _).drew)
          replace P12 := Lib.hid (P12.out.below (Below.refl _ _).drew)
          refine wp_region_held_drew (S := fun W9 => Blk W9 q 37 #[.int .i64 5000, .int .i64 5010, .int .i64 1010, .int .i64 1020, .int .i64 0, .int .i64 4, .int .i64 1, .int .i64 2] ∧ Blk W9 (q + 1) 37 #[.int .i64 4980, .int .i64 4990, .int .i64 1000, .int .i64 1010, .int .i64 (-2), .int .i64 2, .int .i64 0, .int .i64 1]) (by kernel_rfl) ⟨HS.out.k1, HS.out.k2⟩ (fun hH0 => ?_)
          generalize World.drew _ = V0 at *
          simp only [List.size_toArray, List.length_cons, List.length_nil, Nat.reduceAdd, Array.replicate_succ, Array.replicate_zero, List.push_toArray, List.nil_append, List.cons_append]
          refine wpAnyH_take (i := 1) (v := _) rfl (by kernel_rfl) (by kernel_rfl) (by kernel_rfl) (fun _ _ _ h => h) (yieldsIf_load_mid (by rfl) _ _ rfl _ _ rfl [.int .i64 5000, .int .i64 5010, .int .i64 1010, .int .i64 1020, .int .i64 0, .int .i64 4, .int .i64 1, .int .i64 2] _ (fun w0 h0 => h0.1.range) (by rfl) (by rfl) (by kernel_rfl)) (by assumption) ?_
          (try simp only [Act.put, List.getElem_toArray, List.setIfInBounds_toArray, List.set_cons_zero, List.set_cons_succ])
          refine wpAnyH_take (i := 3) (v := _) rfl (by kernel_rfl) (by kernel_rfl) (by kernel_rfl) (fun _ _ _ h => h) (yieldsIf_load_mid (by rfl) _ _ rfl _ _ rfl [.int .i64 4980, .int .i64 4990, .int .i64 1000, .int .i64 1010, .int .i64 (-2), .int .i64 2, .int .i64 0, .int .i64 1] _ (fun w0 h0 => h0.2.range) (by rfl) (by rfl) (by kernel_rfl)) (by assumption) ?_
          (try simp only [Act.put, List.getElem_toArray, List.getElem_cons_succ, List.getElem_cons_zero, List.setIfInBounds_toArray, List.set_cons_zero, List.set_cons_succ])
          refine wpAnyH_ready (rs := [0, 2, 4]) (by kernel_rfl) (by simp) ?_
          refine AllReadyH.cons (by simp only [List.getElem?_toArray, List.getElem?_cons_zero]; rfl) (fun K hK => ?_) ?_
          · go_simp
            refine (jig45_any _).mono ?_
            rintro e X ⟨rfl, hb⟩
            replace HS := Lib.hid (HS.out.call hb)
            replace H5 := Lib.hid (H5.out.below hb H5.out.lt)
            replace H6 := Lib.hid (H6.out.below hb H6.out.lt)
            replace P10 := Lib.hid (P10.out.below hb)
            replace P12 := Lib.hid (P12.out.below hb)
            clear hb
            refine hK.out _ _ ⟨HS.out.k1, HS.out.k2⟩ (fun hH1 => ?_)
            clear hK K
            try simp only [List.setIfInBounds_toArray, List.set_cons_zero]
            refine wpAnyH_ready (rs := [2, 4]) (by kernel_rfl) (by simp) ?_
            refine AllReadyH.cons (by simp only [List.getElem?_toArray, List.getElem?_cons_succ, List.getElem?_cons_zero]; rfl) (fun K hK => ?_) ?_
            · rw [if_pos (by rfl)]
              refine wp_bs 26 37 1 _ (by rfl) #[.int .i64 5000, .int .i64 5010, .int .i64 1010, .int .i64 1020, .int .i64 0, .int .i64 4, .int .i64 1, .int .i64 2] [.agg #[.int .i64 5000, .int .i64 5010, .int .i64 1010, .int .i64 1020, .int .i64 0, .int .i64 4, .int .i64 1, .int .i64 2]] (.agg #[.int .i64 0, .int .i64 0, .int .i64 0, .int .i64 0, .int .i64 0, .int .i64 0, .int .i64 0, .int .i64 0]) 8 (by kernel_rfl) (by kernel_rfl) (by decide) (by rfl) (by rfl) (by rfl) (by rfl) ?_
              simp only [Act.put, List.setIfInBounds_toArray, List.set_cons_zero, List.set_cons_succ]
              have hb : Below X.heap.size X (X.alloc (.cells #[.int .i64 5000, .int .i64 5010, .int .i64 1010, .int .i64 1020, .int .i64 0, .int .i64 4, .int .i64 1, .int .i64 2] 37)) := (Below.refl _ _).alloc (Nat.le_refl _) _
              have H1 := Lib.hid (Blk.new X 37 #[.int .i64 5000, .int .i64 5010, .int .i64 1010, .int .i64 1020, .int .i64 0, .int .i64 4, .int .i64 1, .int .i64 2])
              have hg1 : q + 1 + 1 + 1 < X.heap.size := HS.out.k4.lt
              replace HS := Lib.hid (HS.out.call hb)
              replace H5 := Lib.hid (H5.out.below hb H5.out.lt)
              replace H6 := Lib.hid (H6.out.below hb H6.out.lt)
              replace P10 := Lib.hid (P10.out.below hb)
              replace P12 := Lib.hid (P12.out.below hb)
              clear hb
              generalize X.heap.size = g1 at *
              generalize World.alloc X _ = X at *
              refine hK.out _ _ ⟨HS.out.k1, HS.out.k2⟩ (fun hH2 => ?_)
              clear hK K
              try simp only [List.setIfInBounds_toArray, List.set_cons_zero, List.set_cons_succ]
              refine wpAnyH_ready (rs := [4]) (by kernel_rfl) (by simp) ?_
              refine AllReadyH.cons (by simp only [List.getElem?_toArray, List.getElem?_cons_succ, List.getElem?_cons_zero]; rfl) (fun K hK => ?_) AllReadyH.nil
              rw [if_pos (by rfl)]
              refine wp_bs 26 37 1 _ (by rfl) #[.int .i64 4980, .int .i64 4990, .int .i64 1000, .int .i64 1010, .int .i64 (-2), .int .i64 2, .int .i64 0, .int .i64 1] [.agg #[.int .i64 4980, .int .i64 4990, .int .i64 1000, .int .i64 1010, .int .i64 (-2), .int .i64 2, .int .i64 0, .int .i64 1]] (.agg #[.int .i64 0, .int .i64 0, .int .i64 0, .int .i64 0, .int .i64 0, .int .i64 0, .int .i64 0, .int .i64 0]) 8 (by kernel_rfl) (by kernel_rfl) (by decide) (by rfl) (by rfl) (by rfl) (by rfl) ?_
              simp only [Act.put, List.setIfInBounds_toArray, List.set_cons_zero, List.set_cons_succ]
              have hb : Below X.heap.size X (X.alloc (.cells #[.int .i64 4980, .int .i64 4990, .int .i64 1000, .int .i64 1010, .int .i64 (-2), .int .i64 2, .int .i64 0, .int .i64 1] 37)) := (Below.refl _ _).alloc (Nat.le_refl _) _
              have H2 := Lib.hid (Blk.new X 37 #[.int .i64 4980, .int .i64 4990, .int .i64 1000, .int .i64 1010, .int .i64 (-2), .int .i64 2, .int .i64 0, .int .i64 1])
              have hg2 : q + 1 + 1 + 1 < X.heap.size := HS.out.k4.lt
              replace HS := Lib.hid (HS.out.call hb)
              replace H5 := Lib.hid (H5.out.below hb H5.out.lt)
              replace H6 := Lib.hid (H6.out.below hb H6.out.lt)
              replace P10 := Lib.hid (P10.out.below hb)
              replace P12 := Lib.hid (P12.out.below hb)
              replace H1 := Lib.hid (H1.out.below hb H1.out.lt)
              clear hb
              generalize X.heap.size = g2 at *
              generalize World.alloc X _ = X at *
              refine hK.out _ _ ⟨HS.out.k1, HS.out.k2⟩ (fun hH3 => ?_)
              clear hK K
              try simp only [List.setIfInBounds_toArray, List.set_cons_zero, List.set_cons_succ]
              refine wpAnyH_ready (rs := [5]) (by kernel_rfl) (by simp) ?_
              refine AllReadyH.cons (by simp only [List.getElem?_toArray, List.getElem?_cons_succ, List.getElem?_cons_zero]; rfl) (fun K hK => ?_) AllReadyH.nil
              go_simp
              refine (tuneL_any _ g1 g2 H1.out H2.out).mono ?_
              rintro e X ⟨rfl, hb⟩
              replace HS := Lib.hid (HS.out.call hb)
              replace H5 := Lib.hid (H5.out.below hb H5.out.lt)
              replace H6 := Lib.hid (H6.out.below hb H6.out.lt)
              replace P10 := Lib.hid (P10.out.below hb)
              replace P12 := Lib.hid (P12.out.below hb)
              clear hb
              refine hK.out _ _ ⟨HS.out.k1, HS.out.k2⟩ (fun hH4 => ?_)
              clear hK K
              try simp only [List.setIfInBounds_toArray, List.set_cons_zero, List.set_cons_succ]
              refine wpAnyH_take (i := 6 ) (v := ?_) rfl (by kernel_rfl) (by kernel_rfl) (by kernel_rfl) (fun _ _ _ h => h) (Or.inl ⟨by rfl, ?_⟩) (by assumption) ?_; rotate_left; (· (intro w0 hSw; clear hSw; go_simp); first | done | with_reducible rfl); (try simp only [Act.put, List.getElem_toArray, List.getElem_cons_succ, List.getElem_cons_zero, List.setIfInBounds_toArray, List.set_cons_zero, List.set_cons_succ])
              refine wpAnyH_take (i := 7 ) (v := ?_) rfl (by kernel_rfl) (by kernel_rfl) (by kernel_rfl) (fun _ _ _ h => h) (Or.inl ⟨by rfl, ?_⟩) (by assumption) ?_; rotate_left; (· (intro w0 hSw; clear hSw; go_simp); first | done | with_reducible rfl); (try simp only [Act.put, List.getElem_toArray, List.getElem_cons_succ, List.getElem_cons_zero, List.setIfInBounds_toArray, List.set_cons_zero, List.set_cons_succ])
              refine wpAnyH_take (i := 8 ) (v := ?_) rfl (by kernel_rfl) (by kernel_rfl) (by kernel_rfl) (fun _ _ _ h => h) (Or.inl ⟨by rfl, ?_⟩) (by assumption) ?_; rotate_left; (· (intro w0 hSw; clear hSw; go_simp); first | done | with_reducible rfl); (try simp only [Act.put, List.getElem_toArray, List.getElem_cons_succ, List.getElem_cons_zero, List.setIfInBounds_toArray, List.set_cons_zero, List.set_cons_succ])
              refine wpAnyH_take (i := 9 ) (v := ?_) rfl (by kernel_rfl) (by kernel_rfl) (by kernel_rfl) (fun _ _ _ h => h) (Or.inl ⟨by rfl, ?_⟩) (by assumption) ?_; rotate_left; (· (intro w0 hSw; clear hSw; go_simp); first | done | with_reducible rfl); (try simp only [Act.put, List.getElem_toArray, List.getElem_cons_succ, List.getElem_cons_zero, List.setIfInBounds_toArray, List.set_cons_zero, List.set_cons_succ])
              refine wpAnyH_take (i := 10 ) (v := ?_) rfl (by kernel_rfl) (by kernel_rfl) (by kernel_rfl) (fun _ _ _ h => h) (Or.inl ⟨by rfl, ?_⟩) (by assumption) ?_; rotate_left; (· (intro w0 hSw; clear hSw; go_simp); first | done | with_reducible rfl); (try simp only [Act.put, List.getElem_toArray, List.getElem_cons_succ, List.getElem_cons_zero, List.setIfInBounds_toArray, List.set_cons_zero, List.set_cons_succ])
              refine wpAnyH_take (i := 11 ) (v := ?_) rfl (by kernel_rfl) (by kernel_rfl) (by kernel_rfl) (fun _ _ _ h => h) (Or.inl ⟨by rfl, ?_⟩) (by assumption) ?_; rotate_left; (· (intro w0 hSw; clear hSw; go_simp); first | done | with_reducible rfl); (try simp only [Act.put, List.getElem_toArray, List.getElem_cons_succ, List.getElem_cons_zero, List.setIfInBounds_toArray, List.set_cons_zero, List.set_cons_succ])
              refine wpAnyH_take (i := 12 ) (v := ?_) rfl (by kernel_rfl) (by kernel_rfl) (by kernel_rfl) (fun _ _ _ h => h) (Or.inl ⟨by rfl, ?_⟩) (by assumption) ?_; rotate_left; (· (intro w0 hSw; clear hSw; go_simp); first | done | with_reducible rfl); (try simp only [Act.put, List.getElem_toArray, List.getElem_cons_succ, List.getElem_cons_zero, List.setIfInBounds_toArray, List.set_cons_zero, List.set_cons_succ])
              refine wpAnyH_take (i := 13 ) (v := ?_) rfl (by kernel_rfl) (by kernel_rfl) (by kernel_rfl) (fun _ _ _ h => h) (Or.inl ⟨by rfl, ?_⟩) (by assumption) ?_; rotate_left; (· (intro w0 hSw; clear hSw; go_simp); first | done | with_reducible rfl); (try simp only [Act.put, List.getElem_toArray, List.getElem_cons_succ, List.getElem_cons_zero, List.setIfInBounds_toArray, List.set_cons_zero, List.set_cons_succ])
              refine wpAnyH_take (i := 14 ) (v := ?_) rfl (by kernel_rfl) (by kernel_rfl) (by kernel_rfl) (fun _ _ _ h => h) (Or.inl ⟨by rfl, ?_⟩) (by assumption) ?_; rotate_left; (· (intro w0 hSw; clear hSw; go_simp); first | done | with_reducible rfl); (try simp only [Act.put, List.getElem_toArray, List.getElem_cons_succ, List.getElem_cons_zero, List.setIfInBounds_toArray, List.set_cons_zero, List.set_cons_succ])
              refine wpAnyH_done (by kernel_rfl) ?_ _
              go_wp2_with fail
              go_meet
              exact ⟨rfl, rfl, rfl, rfl, HS, H5, H6, P10, P12⟩
            refine AllReadyH.cons (by simp only [List.getElem?_toArray, List.getElem?_cons_succ, List.getElem?_cons_zero]; rfl) (fun K hK => ?_) ?_
            · rw [if_pos (by rfl)]
              refine wp_bs 26 37 1 _ (by rfl) #[.int .i64 4980, .int .i64 4990, .int .i64 1000, .int .i64 1010, .int .i64 (-2), .int .i64 2, .int .i64 0, .int .i64 1] [.agg #[.int .i64 4980, .int .i64 4990, .int .i64 1000, .int .i64 1010, .int .i64 (-2), .int .i64 2, .int .i64 0, .int .i64 1]] (.agg #[.int .i64 0, .int .i64 0, .int .i64 0, .int .i64 0, .int .i64 0, .int .i64 0, .int .i64 0, .int .i64 0]) 8 (by kernel_rfl) (by kernel_rfl) (by decide) (by rfl) (by rfl) (by rfl) (by rfl) ?_
              simp only [Act.put, List.setIfInBounds_toArray, List.set_cons_zero, List.set_cons_succ]
              have hb : Below X.heap.size X (X.alloc (.cells #[.int .i64 4980, .int .i64 4990, .int .i64 1000, .int .i64 1010, .int .i64 (-2), .int .i64 2, .int .i64 0, .int .i64 1] 37)) := (Below.refl _ _).alloc (Nat.le_refl _) _
              have H2 := Lib.hid (Blk.new X 37 #[.int .i64 4980, .int .i64 4990, .int .i64 1000, .int .i64 1010, .int .i64 (-2), .int .i64 2, .int .i64 0, .int .i64 1])
              have hg2 : q + 1 + 1 + 1 < X.heap.size := HS.out.k4.lt
              replace HS := Lib.hid (HS.out.call hb)
              replace H5 := Lib.hid (H5.out.below hb H5.out.lt)
              replace H6 := Lib.hid (H6.out.below hb H6.out.lt)
              replace P10 := Lib.hid (P10.out.below hb)
              replace P12 := Lib.hid (P12.out.below hb)
              clear hb
              generalize X.heap.size = g2 at *
              generalize World.alloc X _ = X at *
              refine hK.out _ _ ⟨HS.out.k1, HS.out.k2⟩ (fun hH5 => ?_)
              clear hK K
              try simp only [List.setIfInBounds_toArray, List.set_cons_zero, List.set_cons_succ]
              refine wpAnyH_ready (rs := [2]) (by kernel_rfl) (by simp) ?_
              refine AllReadyH.cons (by simp only [List.getElem?_toArray, List.getElem?_cons_succ, List.getElem?_cons_zero]; rfl) (fun K hK => ?_) AllReadyH.nil
              rw [if_pos (by rfl)]
              refine wp_bs 26 37 1 _ (by rfl) #[.int .i64 5000, .int .i64 5010, .int .i64 1010, .int .i64 1020, .int .i64 0, .int .i64 4, .int .i64 1, .int .i64 2] [.agg #[.int .i64 5000, .int .i64 5010, .int .i64 1010, .int .i64 1020, .int .i64 0, .int .i64 4, .int .i64 1, .int .i64 2]] (.agg #[.int .i64 0, .int .i64 0, .int .i64 0, .int .i64 0, .int .i64 0, .int .i64 0, .int .i64 0, .int .i64 0]) 8 (by kernel_rfl) (by kernel_rfl) (by decide) (by rfl) (by rfl) (by rfl) (by rfl) ?_
              simp only [Act.put, List.setIfInBounds_toArray, List.set_cons_zero, List.set_cons_succ]
              have hb : Below X.heap.size X (X.alloc (.cells #[.int .i64 5000, .int .i64 5010, .int .i64 1010, .int .i64 1020, .int .i64 0, .int .i64 4, .int .i64 1, .int .i64 2] 37)) := (Below.refl _ _).alloc (Nat.le_refl _) _
              have H1 := Lib.hid (Blk.new X 37 #[.int .i64 5000, .int .i64 5010, .int .i64 1010, .int .i64 1020, .int .i64 0, .int .i64 4, .int .i64 1, .int .i64 2])
              have hg1 : q + 1 + 1 + 1 < X.heap.size := HS.out.k4.lt
              replace HS := Lib.hid (HS.out.call hb)
              replace H5 := Lib.hid (H5.out.below hb H5.out.lt)
              replace H6 := Lib.hid (H6.out.below hb H6.out.lt)
              replace P10 := Lib.hid (P10.out.below hb)
              replace P12 := Lib.hid (P12.out.below hb)
              replace H2 := Lib.hid (H2.out.below hb H2.out.lt)
              clear hb
              generalize X.heap.size = g1 at *
              generalize World.alloc X _ = X at *
              refine hK.out _ _ ⟨HS.out.k1, HS.out.k2⟩ (fun hH6 => ?_)
              clear hK K
              try simp only [List.setIfInBounds_toArray, List.set_cons_zero, List.set_cons_succ]
              refine wpAnyH_ready (rs := [5]) (by kernel_rfl) (by simp) ?_
              refine AllReadyH.cons (by simp only [List.getElem?_toArray, List.getElem?_cons_succ, List.getElem?_cons_zero]; rfl) (fun K hK => ?_) AllReadyH.nil
              go_simp
              refine (tuneL_any _ g1 g2 H1.out H2.out).mono ?_
              rintro e X ⟨rfl, hb⟩
              replace HS := Lib.hid (HS.out.call hb)
              replace H5 := Lib.hid (H5.out.below hb H5.out.lt)
              replace H6 := Lib.hid (H6.out.below hb H6.out.lt)
              replace P10 := Lib.hid (P10.out.below hb)
              replace P12 := Lib.hid (P12.out.below hb)
              clear hb
              refine hK.out _ _ ⟨HS.out.k1, HS.out.k2⟩ (fun hH7 => ?_)
              clear hK K
              try simp only [List.setIfInBounds_toArray, List.set_cons_zero, List.set_cons_succ]
              refine wpAnyH_take (i := 6 ) (v := ?_) rfl (by kernel_rfl) (by kernel_rfl) (by kernel_rfl) (fun _ _ _ h => h) (Or.inl ⟨by rfl, ?_⟩) (by assumption) ?_; rotate_left; (· (intro w0 hSw; clear hSw; go_simp); first | done | with_reducible rfl); (try simp only [Act.put, List.getElem_toArray, List.getElem_cons_succ, List.getElem_cons_zero, List.setIfInBounds_toArray, List.set_cons_zero, List.set_cons_succ])
              refine wpAnyH_take (i := 7 ) (v := ?_) rfl (by kernel_rfl) (by kernel_rfl) (by kernel_rfl) (fun _ _ _ h => h) (Or.inl ⟨by rfl, ?_⟩) (by assumption) ?_; rotate_left; (· (intro w0 hSw; clear hSw; go_simp); first | done | with_reducible rfl); (try simp only [Act.put, List.getElem_toArray, List.getElem_cons_succ, List.getElem_cons_zero, List.setIfInBounds_toArray, List.set_cons_zero, List.set_cons_succ])
              refine wpAnyH_take (i := 8 ) (v := ?_) rfl (by kernel_rfl) (by kernel_rfl) (by kernel_rfl) (fun _ _ _ h => h) (Or.inl ⟨by rfl, ?_⟩) (by assumption) ?_; rotate_left; (· (intro w0 hSw; clear hSw; go_simp); first | done | with_reducible rfl); (try simp only [Act.put, List.getElem_toArray, List.getElem_cons_succ, List.getElem_cons_zero, List.setIfInBounds_toArray, List.set_cons_zero, List.set_cons_succ])
              refine wpAnyH_take (i := 9 ) (v := ?_) rfl (by kernel_rfl) (by kernel_rfl) (by kernel_rfl) (fun _ _ _ h => h) (Or.inl ⟨by rfl, ?_⟩) (by assumption) ?_; rotate_left; (· (intro w0 hSw; clear hSw; go_simp); first | done | with_reducible rfl); (try simp only [Act.put, List.getElem_toArray, List.getElem_cons_succ, List.getElem_cons_zero, List.setIfInBounds_toArray, List.set_cons_zero, List.set_cons_succ])
              refine wpAnyH_take (i := 10 ) (v := ?_) rfl (by kernel_rfl) (by kernel_rfl) (by kernel_rfl) (fun _ _ _ h => h) (Or.inl ⟨by rfl, ?_⟩) (by assumption) ?_; rotate_left; (· (intro w0 hSw; clear hSw; go_simp); first | done | with_reducible rfl); (try simp only [Act.put, List.getElem_toArray, List.getElem_cons_succ, List.getElem_cons_zero, List.setIfInBounds_toArray, List.set_cons_zero, List.set_cons_succ])
              refine wpAnyH_take (i := 11 ) (v := ?_) rfl (by kernel_rfl) (by kernel_rfl) (by kernel_rfl) (fun _ _ _ h => h) (Or.inl ⟨by rfl, ?_⟩) (by assumption) ?_; rotate_left; (· (intro w0 hSw; clear hSw; go_simp); first | done | with_reducible rfl); (try simp only [Act.put, List.getElem_toArray, List.getElem_cons_succ, List.getElem_cons_zero, List.setIfInBounds_toArray, List.set_cons_zero, List.set_cons_succ])
              refine wpAnyH_take (i := 12 ) (v := ?_) rfl (by kernel_rfl) (by kernel_rfl) (by kernel_rfl) (fun _ _ _ h => h) (Or.inl ⟨by rfl, ?_⟩) (by assumption) ?_; rotate_left; (· (intro w0 hSw; clear hSw; go_simp); first | done | with_reducible rfl); (try simp only [Act.put, List.getElem_toArray, List.getElem_cons_succ, List.getElem_cons_zero, List.setIfInBounds_toArray, List.set_cons_zero, List.set_cons_succ])
              refine wpAnyH_take (i := 13 ) (v := ?_) rfl (by kernel_rfl) (by kernel_rfl) (by kernel_rfl) (fun _ _ _ h => h) (Or.inl ⟨by rfl, ?_⟩) (by assumption) ?_; rotate_left; (· (intro w0 hSw; clear hSw; go_simp); first | done | with_reducible rfl); (try simp only [Act.put, List.getElem_toArray, List.getElem_cons_succ, List.getElem_cons_zero, List.setIfInBounds_toArray, List.set_cons_zero, List.set_cons_succ])
              refine wpAnyH_take (i := 14 ) (v := ?_) rfl (by kernel_rfl) (by kernel_rfl) (by kernel_rfl) (fun _ _ _ h => h) (Or.inl ⟨by rfl, ?_⟩) (by assumption) ?_; rotate_left; (· (intro w0 hSw; clear hSw; go_simp); first | done | with_reducible rfl); (try simp only [Act.put, List.getElem_toArray, List.getElem_cons_succ, List.getElem_cons_zero, List.setIfInBounds_toArray, List.set_cons_zero, List.set_cons_succ])
              refine wpAnyH_done (by kernel_rfl) ?_ _
              go_wp2_with fail
              go_meet
              exact ⟨rfl, rfl, rfl, rfl, HS, H5, H6, P10, P12⟩
            exact AllReadyH.nil
          refine AllReadyH.cons (by simp only [List.getElem?_toArray, List.getElem?_cons_succ, List.getElem?_cons_zero]; rfl) (fun K hK => ?_) ?_
          · rw [if_pos (by rfl)]
            refine wp_bs 26 37 1 _ (by rfl) #[.int .i64 5000, .int .i64 5010, .int .i64 1010, .int .i64 1020, .int .i64 0, .int .i64 4, .int .i64 1, .int .i64 2] [.agg #[.int .i64 5000, .int .i64 5010, .int .i64 1010, .int .i64 1020, .int .i64 0, .int .i64 4, .int .i64 1, .int .i64 2]] (.agg #[.int .i64 0, .int .i64 0, .int .i64 0, .int .i64 0, .int .i64 0, .int .i64 0, .int .i64 0, .int .i64 0]) 8 (by kernel_rfl) (by kernel_rfl) (by decide) (by rfl) (by rfl) (by rfl) (by rfl) ?_
            simp only [Act.put, List.setIfInBounds_toArray, List.set_cons_zero, List.set_cons_succ]
            have hb : Below V0.heap.size V0 (V0.alloc (.cells #[.int .i64 5000, .int .i64 5010, .int .i64 1010, .int .i64 1020, .int .i64 0, .int .i64 4, .int .i64 1, .int .i64 2] 37)) := (Below.refl _ _).alloc (Nat.le_refl _) _
            have H1 := Lib.hid (Blk.new V0 37 #[.int .i64 5000, .int .i64 5010, .int .i64 1010, .int .i64 1020, .int .i64 0, .int .i64 4, .int .i64 1, .int .i64 2])
            have hg1 : q + 1 + 1 + 1 < V0.heap.size := HS.out.k4.lt
            replace HS := Lib.hid (HS.out.call hb)
            replace H5 := Lib.hid (H5.out.below hb H5.out.lt)
            replace H6 := Lib.hid (H6.out.below hb H6.out.lt)
            replace P10 := Lib.hid (P10.out.below hb)
            replace P12 := Lib.hid (P12.out.below hb)
            clear hb
            generalize V0.heap.size = g1 at *
            generalize World.alloc V0 _ = X at *
            refine hK.out _ _ ⟨HS.out.k1, HS.out.k2⟩ (fun hH8 => ?_)
            clear hK K
            try simp only [List.setIfInBounds_toArray, List.set_cons_zero, List.set_cons_succ]
            refine wpAnyH_ready (rs := [0, 4]) (by kernel_rfl) (by simp) ?_
            refine AllReadyH.cons (by simp only [List.getElem?_toArray, List.getElem?_cons_zero]; rfl) (fun K hK => ?_) ?_
            · go_simp
              refine (jig45_any _).mono ?_
              rintro e X ⟨rfl, hb⟩
              replace HS := Lib.hid (HS.out.call hb)
              replace H5 := Lib.hid (H5.out.below hb H5.out.lt)
              replace H6 := Lib.hid (H6.out.below hb H6.out.lt)
              replace P10 := Lib.hid (P10.out.below hb)
              replace P12 := Lib.hid (P12.out.below hb)
              replace H1 := Lib.hid (H1.out.below hb H1.out.lt)
              clear hb
              refine hK.out _ _ ⟨HS.out.k1, HS.out.k2⟩ (fun hH9 => ?_)
              clear hK K
              try simp only [List.setIfInBounds_toArray, List.set_cons_zero]
              refine wpAnyH_ready (rs := [4]) (by kernel_rfl) (by simp) ?_
              refine AllReadyH.cons (by simp only [List.getElem?_toArray, List.getElem?_cons_succ, List.getElem?_cons_zero]; rfl) (fun K hK => ?_) AllReadyH.nil
              rw [if_pos (by rfl)]
              refine wp_bs 26 37 1 _ (by rfl) #[.int .i64 4980, .int .i64 4990, .int .i64 1000, .int .i64 1010, .int .i64 (-2), .int .i64 2, .int .i64 0, .int .i64 1] [.agg #[.int .i64 4980, .int .i64 4990, .int .i64 1000, .int .i64 1010, .int .i64 (-2), .int .i64 2, .int .i64 0, .int .i64 1]] (.agg #[.int .i64 0, .int .i64 0, .int .i64 0, .int .i64 0, .int .i64 0, .int .i64 0, .int .i64 0, .int .i64 0]) 8 (by kernel_rfl) (by kernel_rfl) (by decide) (by rfl) (by rfl) (by rfl) (by rfl) ?_
              simp only [Act.put, List.setIfInBounds_toArray, List.set_cons_zero, List.set_cons_succ]
              have hb : Below X.heap.size X (X.alloc (.cells #[.int .i64 4980, .int .i64 4990, .int .i64 1000, .int .i64 1010, .int .i64 (-2), .int .i64 2, .int .i64 0, .int .i64 1] 37)) := (Below.refl _ _).alloc (Nat.le_refl _) _
              have H2 := Lib.hid (Blk.new X 37 #[.int .i64 4980, .int .i64 4990, .int .i64 1000, .int .i64 1010, .int .i64 (-2), .int .i64 2, .int .i64 0, .int .i64 1])
              have hg2 : q + 1 + 1 + 1 < X.heap.size := HS.out.k4.lt
              replace HS := Lib.hid (HS.out.call hb)
              replace H5 := Lib.hid (H5.out.below hb H5.out.lt)
              replace H6 := Lib.hid (H6.out.below hb H6.out.lt)
              replace P10 := Lib.hid (P10.out.below hb)
              replace P12 := Lib.hid (P12.out.below hb)
              replace H1 := Lib.hid (H1.out.below hb H1.out.lt)
              clear hb
              generalize X.heap.size = g2 at *
              generalize World.alloc X _ = X at *
              refine hK.out _ _ ⟨HS.out.k1, HS.out.k2⟩ (fun hH10 => ?_)
              clear hK K
              try simp only [List.setIfInBounds_toArray, List.set_cons_zero, List.set_cons_succ]
              refine wpAnyH_ready (rs := [5]) (by kernel_rfl) (by simp) ?_
              refine AllReadyH.cons (by simp only [List.getElem?_toArray, List.getElem?_cons_succ, List.getElem?_cons_zero]; rfl) (fun K hK => ?_) AllReadyH.nil
              go_simp
              refine (tuneL_any _ g1 g2 H1.out H2.out).mono ?_
              rintro e X ⟨rfl, hb⟩
              replace HS := Lib.hid (HS.out.call hb)
              replace H5 := Lib.hid (H5.out.below hb H5.out.lt)
              replace H6 := Lib.hid (H6.out.below hb H6.out.lt)
              replace P10 := Lib.hid (P10.out.below hb)
              replace P12 := Lib.hid (P12.out.below hb)
              clear hb
              refine hK.out _ _ ⟨HS.out.k1, HS.out.k2⟩ (fun hH11 => ?_)
              clear hK K
              try simp only [List.setIfInBounds_toArray, List.set_cons_zero, List.set_cons_succ]
              refine wpAnyH_take (i := 6 ) (v := ?_) rfl (by kernel_rfl) (by kernel_rfl) (by kernel_rfl) (fun _ _ _ h => h) (Or.inl ⟨by rfl, ?_⟩) (by assumption) ?_; rotate_left; (· (intro w0 hSw; clear hSw; go_simp); first | done | with_reducible rfl); (try simp only [Act.put, List.getElem_toArray, List.getElem_cons_succ, List.getElem_cons_zero, List.setIfInBounds_toArray, List.set_cons_zero, List.set_cons_succ])
              refine wpAnyH_take (i := 7 ) (v := ?_) rfl (by kernel_rfl) (by kernel_rfl) (by kernel_rfl) (fun _ _ _ h => h) (Or.inl ⟨by rfl, ?_⟩) (by assumption) ?_; rotate_left; (· (intro w0 hSw; clear hSw; go_simp); first | done | with_reducible rfl); (try simp only [Act.put, List.getElem_toArray, List.getElem_cons_succ, List.getElem_cons_zero, List.setIfInBounds_toArray, List.set_cons_zero, List.set_cons_succ])
              refine wpAnyH_take (i := 8 ) (v := ?_) rfl (by kernel_rfl) (by kernel_rfl) (by kernel_rfl) (fun _ _ _ h => h) (Or.inl ⟨by rfl, ?_⟩) (by assumption) ?_; rotate_left; (· (intro w0 hSw; clear hSw; go_simp); first | done | with_reducible rfl); (try simp only [Act.put, List.getElem_toArray, List.getElem_cons_succ, List.getElem_cons_zero, List.setIfInBounds_toArray, List.set_cons_zero, List.set_cons_succ])
              refine wpAnyH_take (i := 9 ) (v := ?_) rfl (by kernel_rfl) (by kernel_rfl) (by kernel_rfl) (fun _ _ _ h => h) (Or.inl ⟨by rfl, ?_⟩) (by assumption) ?_; rotate_left; (· (intro w0 hSw; clear hSw; go_simp); first | done | with_reducible rfl); (try simp only [Act.put, List.getElem_toArray, List.getElem_cons_succ, List.getElem_cons_zero, List.setIfInBounds_toArray, List.set_cons_zero, List.set_cons_succ])
              refine wpAnyH_take (i := 10 ) (v := ?_) rfl (by kernel_rfl) (by kernel_rfl) (by kernel_rfl) (fun _ _ _ h => h) (Or.inl ⟨by rfl, ?_⟩) (by assumption) ?_; rotate_left; (· (intro w0 hSw; clear hSw; go_simp); first | done | with_reducible rfl); (try simp only [Act.put, List.getElem_toArray, List.getElem_cons_succ, List.getElem_cons_zero, List.setIfInBounds_toArray, List.set_cons_zero, List.set_cons_succ])
              refine wpAnyH_take (i := 11 ) (v := ?_) rfl (by kernel_rfl) (by kernel_rfl) (by kernel_rfl) (fun _ _ _ h => h) (Or.inl ⟨by rfl, ?_⟩) (by assumption) ?_; rotate_left; (· (intro w0 hSw; clear hSw; go_simp); first | done | with_reducible rfl); (try simp only [Act.put, List.getElem_toArray, List.getElem_cons_succ, List.getElem_cons_zero, List.setIfInBounds_toArray, List.set_cons_zero, List.set_cons_succ])
              refine wpAnyH_take (i := 12 ) (v := ?_) rfl (by kernel_rfl) (by kernel_rfl) (by kernel_rfl) (fun _ _ _ h => h) (Or.inl ⟨by rfl, ?_⟩) (by assumption) ?_; rotate_left; (· (intro w0 hSw; clear hSw; go_simp); first | done | with_reducible rfl); (try simp only [Act.put, List.getElem_toArray, List.getElem_cons_succ, List.getElem_cons_zero, List.setIfInBounds_toArray, List.set_cons_zero, List.set_cons_succ])
              refine wpAnyH_take (i := 13 ) (v := ?_) rfl (by kernel_rfl) (by kernel_rfl) (by kernel_rfl) (fun _ _ _ h => h) (Or.inl ⟨by rfl, ?_⟩) (by assumption) ?_; rotate_left; (· (intro w0 hSw; clear hSw; go_simp); first | done | with_reducible rfl); (try simp only [Act.put, List.getElem_toArray, List.getElem_cons_succ, List.getElem_cons_zero, List.setIfInBounds_toArray, List.set_cons_zero, List.set_cons_succ])
              refine wpAnyH_take (i := 14 ) (v := ?_) rfl (by kernel_rfl) (by kernel_rfl) (by kernel_rfl) (fun _ _ _ h => h) (Or.inl ⟨by rfl, ?_⟩) (by assumption) ?_; rotate_left; (· (intro w0 hSw; clear hSw; go_simp); first | done | with_reducible rfl); (try simp only [Act.put, List.getElem_toArray, List.getElem_cons_succ, List.getElem_cons_zero, List.setIfInBounds_toArray, List.set_cons_zero, List.set_cons_succ])
              refine wpAnyH_done (by kernel_rfl) ?_ _
              go_wp2_with fail
              go_meet
              exact ⟨rfl, rfl, rfl, rfl, HS, H5, H6, P10, P12⟩
            refine AllReadyH.cons (by simp only [List.getElem?_toArray, List.getElem?_cons_succ, List.getElem?_cons_zero]; rfl) (fun K hK => ?_) ?_
            · rw [if_pos (by rfl)]
              refine wp_bs 26 37 1 _ (by rfl) #[.int .i64 4980, .int .i64 4990, .int .i64 1000, .int .i64 1010, .int .i64 (-2), .int .i64 2, .int .i64 0, .int .i64 1] [.agg #[.int .i64 4980, .int .i64 4990, .int .i64 1000, .int .i64 1010, .int .i64 (-2), .int .i64 2, .int .i64 0, .int .i64 1]] (.agg #[.int .i64 0, .int .i64 0, .int .i64 0, .int .i64 0, .int .i64 0, .int .i64 0, .int .i64 0, .int .i64 0]) 8 (by kernel_rfl) (by kernel_rfl) (by decide) (by rfl) (by rfl) (by rfl) (by rfl) ?_
              simp only [Act.put, List.setIfInBounds_toArray, List.set_cons_zero, List.set_cons_succ]
              have hb : Below X.heap.size X (X.alloc (.cells #[.int .i64 4980, .int .i64 4990, .int .i64 1000, .int .i64 1010, .int .i64 (-2), .int .i64 2, .int .i64 0, .int .i64 1] 37)) := (Below.refl _ _).alloc (Nat.le_refl _) _
              have H2 := Lib.hid (Blk.new X 37 #[.int .i64 4980, .int .i64 4990, .int .i64 1000, .int .i64 1010, .int .i64 (-2), .int .i64 2, .int .i64 0, .int .i64 1])
              have hg2 : q + 1 + 1 + 1 < X.heap.size := HS.out.k4.lt
              replace HS := Lib.hid (HS.out.call hb)
              replace H5 := Lib.hid (H5.out.below hb H5.out.lt)
              replace H6 := Lib.hid (H6.out.below hb H6.out.lt)
              replace P10 := Lib.hid (P10.out.below hb)
              replace P12 := Lib.hid (P12.out.below hb)
              replace H1 := Lib.hid (H1.out.below hb H1.out.lt)
              clear hb
              generalize X.heap.size = g2 at *
              generalize World.alloc X _ = X at *
              refine hK.out _ _ ⟨HS.out.k1, HS.out.k2⟩ (fun hH12 => ?_)
              clear hK K
              try simp only [List.setIfInBounds_toArray, List.set_cons_zero, List.set_cons_succ]
              refine wpAnyH_ready (rs := [0]) (by kernel_rfl) (by simp) ?_
              refine AllReadyH.cons (by simp only [List.getElem?_toArray, List.getElem?_cons_zero]; rfl) (fun K hK => ?_) AllReadyH.nil
              go_simp
              refine (jig45_any _).mono ?_
              rintro e X ⟨rfl, hb⟩
              replace HS := Lib.hid (HS.out.call hb)
              replace H5 := Lib.hid (H5.out.below hb H5.out.lt)
              replace H6 := Lib.hid (H6.out.below hb H6.out.lt)
              replace P10 := Lib.hid (P10.out.below hb)
              replace P12 := Lib.hid (P12.out.below hb)
              replace H1 := Lib.hid (H1.out.below hb H1.out.lt)
              replace H2 := Lib.hid (H2.out.below hb H2.out.lt)
              clear hb
              refine hK.out _ _ ⟨HS.out.k1, HS.out.k2⟩ (fun hH13 => ?_)
              clear hK K
              try simp only [List.setIfInBounds_toArray, List.set_cons_zero]
              refine wpAnyH_ready (rs := [5]) (by kernel_rfl) (by simp) ?_
              refine AllReadyH.cons (by simp only [List.getElem?_toArray, List.getElem?_cons_succ, List.getElem?_cons_zero]; rfl) (fun K hK => ?_) AllReadyH.nil
              go_simp
              refine (tuneL_any _ g1 g2 H1.out H2.out).mono ?_
              rintro e X ⟨rfl, hb⟩
              replace HS := Lib.hid (HS.out.call hb)
              replace H5 := Lib.hid (H5.out.below hb H5.out.lt)
              replace H6 := Lib.hid (H6.out.below hb H6.out.lt)
              replace P10 := Lib.hid (P10.out.below hb)
              replace P12 := Lib.hid (P12.out.below hb)
              clear hb
              refine hK.out _ _ ⟨HS.out.k1, HS.out.k2⟩ (fun hH14 => ?_)
              clear hK K
              try simp only [List.setIfInBounds_toArray, List.set_cons_zero, List.set_cons_succ]
              refine wpAnyH_take (i := 6 ) (v := ?_) rfl (by kernel_rfl) (by kernel_rfl) (by kernel_rfl) (fun _ _ _ h => h) (Or.inl ⟨by rfl, ?_⟩) (by assumption) ?_; rotate_left; (· (intro w0 hSw; clear hSw; go_simp); first | done | with_reducible rfl); (try simp only [Act.put, List.getElem_toArray, List.getElem_cons_succ, List.getElem_cons_zero, List.setIfInBounds_toArray, List.set_cons_zero, List.set_cons_succ])
              refine wpAnyH_take (i := 7 ) (v := ?_) rfl (by kernel_rfl) (by kernel_rfl) (by kernel_rfl) (fun _ _ _ h => h) (Or.inl ⟨by rfl, ?_⟩) (by assumption) ?_; rotate_left; (· (intro w0 hSw; clear hSw; go_simp); first | done | with_reducible rfl); (try simp only [Act.put, List.getElem_toArray, List.getElem_cons_succ, List.getElem_cons_zero, List.setIfInBounds_toArray, List.set_cons_zero, List.set_cons_succ])
              refine wpAnyH_take (i := 8 ) (v := ?_) rfl (by kernel_rfl) (by kernel_rfl) (by kernel_rfl) (fun _ _ _ h => h) (Or.inl ⟨by rfl, ?_⟩) (by assumption) ?_; rotate_left; (· (intro w0 hSw; clear hSw; go_simp); first | done | with_reducible rfl); (try simp only [Act.put, List.getElem_toArray, List.getElem_cons_succ, List.getElem_cons_zero, List.setIfInBounds_toArray, List.set_cons_zero, List.set_cons_succ])
              refine wpAnyH_take (i := 9 ) (v := ?_) rfl (by kernel_rfl) (by kernel_rfl) (by kernel_rfl) (fun _ _ _ h => h) (Or.inl ⟨by rfl, ?_⟩) (by assumption) ?_; rotate_left; (· (intro w0 hSw; clear hSw; go_simp); first | done | with_reducible rfl); (try simp only [Act.put, List.getElem_toArray, List.getElem_cons_succ, List.getElem_cons_zero, List.setIfInBounds_toArray, List.set_cons_zero, List.set_cons_succ])
              refine wpAnyH_take (i := 10 ) (v := ?_) rfl (by kernel_rfl) (by kernel_rfl) (by kernel_rfl) (fun _ _ _ h => h) (Or.inl ⟨by rfl, ?_⟩) (by assumption) ?_; rotate_left; (· (intro w0 hSw; clear hSw; go_simp); first | done | with_reducible rfl); (try simp only [Act.put, List.getElem_toArray, List.getElem_cons_succ, List.getElem_cons_zero, List.setIfInBounds_toArray, List.set_cons_zero, List.set_cons_succ])
              refine wpAnyH_take (i := 11 ) (v := ?_) rfl (by kernel_rfl) (by kernel_rfl) (by kernel_rfl) (fun _ _ _ h => h) (Or.inl ⟨by rfl, ?_⟩) (by assumption) ?_; rotate_left; (· (intro w0 hSw; clear hSw; go_simp); first | done | with_reducible rfl); (try simp only [Act.put, List.getElem_toArray, List.getElem_cons_succ, List.getElem_cons_zero, List.setIfInBounds_toArray, List.set_cons_zero, List.set_cons_succ])
              refine wpAnyH_take (i := 12 ) (v := ?_) rfl (by kernel_rfl) (by kernel_rfl) (by kernel_rfl) (fun _ _ _ h => h) (Or.inl ⟨by rfl, ?_⟩) (by assumption) ?_; rotate_left; (· (intro w0 hSw; clear hSw; go_simp); first | done | with_reducible rfl); (try simp only [Act.put, List.getElem_toArray, List.getElem_cons_succ, List.getElem_cons_zero, List.setIfInBounds_toArray, List.set_cons_zero, List.set_cons_succ])
              refine wpAnyH_take (i := 13 ) (v := ?_) rfl (by kernel_rfl) (by kernel_rfl) (by kernel_rfl) (fun _ _ _ h => h) (Or.inl ⟨by rfl, ?_⟩) (by assumption) ?_; rotate_left; (· (intro w0 hSw; clear hSw; go_simp); first | done | with_reducible rfl); (try simp only [Act.put, List.getElem_toArray, List.getElem_cons_succ, List.getElem_cons_zero, List.setIfInBounds_toArray, List.set_cons_zero, List.set_cons_succ])
              refine wpAnyH_take (i := 14 ) (v := ?_) rfl (by kernel_rfl) (by kernel_rfl) (by kernel_rfl) (fun _ _ _ h => h) (Or.inl ⟨by rfl, ?_⟩) (by assumption) ?_; rotate_left; (· (intro w0 hSw; clear hSw; go_simp); first | done | with_reducible rfl); (try simp only [Act.put, List.getElem_toArray, List.getElem_cons_succ, List.getElem_cons_zero, List.setIfInBounds_toArray, List.set_cons_zero, List.set_cons_succ])
              refine wpAnyH_done (by kernel_rfl) ?_ _
              go_wp2_with fail
              go_meet
              exact ⟨rfl, rfl, rfl, rfl, HS, H5, H6, P10, P12⟩
            exact AllReadyH.nil
          refine AllReadyH.cons (by simp only [List.getElem?_toArray, List.getElem?_cons_succ, List.getElem?_cons_zero]; rfl) (fun K hK => ?_) ?_
          · rw [if_pos (by rfl)]
            refine wp_bs 26 37 1 _ (by rfl) #[.int .i64 4980, .int .i64 4990, .int .i64 1000, .int .i64 1010, .int .i64 (-2), .int .i64 2, .int .i64 0, .int .i64 1] [.agg #[.int .i64 4980, .int .i64 4990, .int .i64 1000, .int .i64 1010, .int .i64 (-2), .int .i64 2, .int .i64 0, .int .i64 1]] (.agg #[.int .i64 0, .int .i64 0, .int .i64 0, .int .i64 0, .int .i64 0, .int .i64 0, .int .i64 0, .int .i64 0]) 8 (by kernel_rfl) (by kernel_rfl) (by decide) (by rfl) (by rfl) (by rfl) (by rfl) ?_
            simp only [Act.put, List.setIfInBounds_toArray, List.set_cons_zero, List.set_cons_succ]
            have hb : Below V0.heap.size V0 (V0.alloc (.cells #[.int .i64 4980, .int .i64 4990, .int .i64 1000, .int .i64 1010, .int .i64 (-2), .int .i64 2, .int .i64 0, .int .i64 1] 37)) := (Below.refl _ _).alloc (Nat.le_refl _) _
            have H2 := Lib.hid (Blk.new V0 37 #[.int .i64 4980, .int .i64 4990, .int .i64 1000, .int .i64 1010, .int .i64 (-2), .int .i64 2, .int .i64 0, .int .i64 1])
            have hg2 : q + 1 + 1 + 1 < V0.heap.size := HS.out.k4.lt
            replace HS := Lib.hid (HS.out.call hb)
            replace H5 := Lib.hid (H5.out.below hb H5.out.lt)
            replace H6 := Lib.hid (H6.out.below hb H6.out.lt)
            replace P10 := Lib.hid (P10.out.below hb)
            replace P12 := Lib.hid (P12.out.below hb)
            clear hb
            generalize V0.heap.size = g2 at *
            generalize World.alloc V0 _ = X at *
            refine hK.out _ _ ⟨HS.out.k1, HS.out.k2⟩ (fun hH15 => ?_)
            clear hK K
            try simp only [List.setIfInBounds_toArray, List.set_cons_zero, List.set_cons_succ]
            refine wpAnyH_ready (rs := [0, 2]) (by kernel_rfl) (by simp) ?_
            refine AllReadyH.cons (by simp only [List.getElem?_toArray, List.getElem?_cons_zero]; rfl) (fun K hK => ?_) ?_
            · go_simp
              refine (jig45_any _).mono ?_
              rintro e X ⟨rfl, hb⟩
              replace HS := Lib.hid (HS.out.call hb)
              replace H5 := Lib.hid (H5.out.below hb H5.out.lt)
              replace H6 := Lib.hid (H6.out.below hb H6.out.lt)
              replace P10 := Lib.hid (P10.out.below hb)
              replace P12 := Lib.hid (P12.out.below hb)
              replace H2 := Lib.hid (H2.out.below hb H2.out.lt)
              clear hb
              refine hK.out _ _ ⟨HS.out.k1, HS.out.k2⟩ (fun hH16 => ?_)
              clear hK K
              try simp only [List.setIfInBounds_toArray, List.set_cons_zero]
              refine wpAnyH_ready (rs := [2]) (by kernel_rfl) (by simp) ?_
              refine AllReadyH.cons (by simp only [List.getElem?_toArray, List.getElem?_cons_succ, List.getElem?_cons_zero]; rfl) (fun K hK => ?_) AllReadyH.nil
              rw [if_pos (by rfl)]
              refine wp_bs 26 37 1 _ (by rfl) #[.int .i64 5000, .int .i64 5010, .int .i64 1010, .int .i64 1020, .int .i64 0, .int .i64 4, .int .i64 1, .int .i64 2] [.agg #[.int .i64 5000, .int .i64 5010, .int .i64 1010, .int .i64 1020, .int .i64 0, .int .i64 4, .int .i64 1, .int .i64 2]] (.agg #[.int .i64 0, .int .i64 0, .int .i64 0, .int .i64 0, .int .i64 0, .int .i64 0, .int .i64 0, .int .i64 0]) 8 (by kernel_rfl) (by kernel_rfl) (by decide) (by rfl) (by rfl) (by rfl) (by rfl) ?_
              simp only [Act.put, List.setIfInBounds_toArray, List.set_cons_zero, List.set_cons_succ]
              have hb : Below X.heap.size X (X.alloc (.cells #[.int .i64 5000, .int .i64 5010, .int .i64 1010, .int .i64 1020, .int .i64 0, .int .i64 4, .int .i64 1, .int .i64 2] 37)) := (Below.refl _ _).alloc (Nat.le_refl _) _
              have H1 := Lib.hid (Blk.new X 37 #[.int .i64 5000, .int .i64 5010, .int .i64 1010, .int .i64 1020, .int .i64 0, .int .i64 4, .int .i64 1, .int .i64 2])
              have hg1 : q + 1 + 1 + 1 < X.heap.size := HS.out.k4.lt
              replace HS := Lib.hid (HS.out.call hb)
              replace H5 := Lib.hid (H5.out.below hb H5.out.lt)
              replace H6 := Lib.hid (H6.out.below hb H6.out.lt)
              replace P10 := Lib.hid (P10.out.below hb)
              replace P12 := Lib.hid (P12.out.below hb)
              replace H2 := Lib.hid (H2.out.below hb H2.out.lt)
              clear hb
              generalize X.heap.size = g1 at *
              generalize World.alloc X _ = X at *
              refine hK.out _ _ ⟨HS.out.k1, HS.out.k2⟩ (fun hH17 => ?_)
              clear hK K
              try simp only [List.setIfInBounds_toArray, List.set_cons_zero, List.set_cons_succ]
              refine wpAnyH_ready (rs := [5]) (by kernel_rfl) (by simp) ?_
              refine AllReadyH.cons (by simp only [List.getElem?_toArray, List.getElem?_cons_succ, List.getElem?_cons_zero]; rfl) (fun K hK => ?_) AllReadyH.nil
              go_simp
              refine (tuneL_any _ g1 g2 H1.out H2.out).mono ?_
              rintro e X ⟨rfl, hb⟩
              replace HS := Lib.hid (HS.out.call hb)
              replace H5 := Lib.hid (H5.out.below hb H5.out.lt)
              replace H6 := Lib.hid (H6.out.below hb H6.out.lt)
              replace P10 := Lib.hid (P10.out.below hb)
              replace P12 := Lib.hid (P12.out.below hb)
              clear hb
              refine hK.out _ _ ⟨HS.out.k1, HS.out.k2⟩ (fun hH18 => ?_)
              clear hK K
              try simp only [List.setIfInBounds_toArray, List.set_cons_zero, List.set_cons_succ]
              refine wpAnyH_take (i := 6 ) (v := ?_) rfl (by kernel_rfl) (by kernel_rfl) (by kernel_rfl) (fun _ _ _ h => h) (Or.inl ⟨by rfl, ?_⟩) (by assumption) ?_; rotate_left; (· (intro w0 hSw; clear hSw; go_simp); first | done | with_reducible rfl); (try simp only [Act.put, List.getElem_toArray, List.getElem_cons_succ, List.getElem_cons_zero, List.setIfInBounds_toArray, List.set_cons_zero, List.set_cons_succ])
              refine wpAnyH_take (i := 7 ) (v := ?_) rfl (by kernel_rfl) (by kernel_rfl) (by kernel_rfl) (fun _ _ _ h => h) (Or.inl ⟨by rfl, ?_⟩) (by assumption) ?_; rotate_left; (· (intro w0 hSw; clear hSw; go_simp); first | done | with_reducible rfl); (try simp only [Act.put, List.getElem_toArray, List.getElem_cons_succ, List.getElem_cons_zero, List.setIfInBounds_toArray, List.set_cons_zero, List.set_cons_succ])
              refine wpAnyH_take (i := 8 ) (v := ?_) rfl (by kernel_rfl) (by kernel_rfl) (by kernel_rfl) (fun _ _ _ h => h) (Or.inl ⟨by rfl, ?_⟩) (by assumption) ?_; rotate_left; (· (intro w0 hSw; clear hSw; go_simp); first | done | with_reducible rfl); (try simp only [Act.put, List.getElem_toArray, List.getElem_cons_succ, List.getElem_cons_zero, List.setIfInBounds_toArray, List.set_cons_zero, List.set_cons_succ])
              refine wpAnyH_take (i := 9 ) (v := ?_) rfl (by kernel_rfl) (by kernel_rfl) (by kernel_rfl) (fun _ _ _ h => h) (Or.inl ⟨by rfl, ?_⟩) (by assumption) ?_; rotate_left; (· (intro w0 hSw; clear hSw; go_simp); first | done | with_reducible rfl); (try simp only [Act.put, List.getElem_toArray, List.getElem_cons_succ, List.getElem_cons_zero, List.setIfInBounds_toArray, List.set_cons_zero, List.set_cons_succ])
              refine wpAnyH_take (i := 10 ) (v := ?_) rfl (by kernel_rfl) (by kernel_rfl) (by kernel_rfl) (fun _ _ _ h => h) (Or.inl ⟨by rfl, ?_⟩) (by assumption) ?_; rotate_left; (· (intro w0 hSw; clear hSw; go_simp); first | done | with_reducible rfl); (try simp only [Act.put, List.getElem_toArray, List.getElem_cons_succ, List.getElem_cons_zero, List.setIfInBounds_toArray, List.set_cons_zero, List.set_cons_succ])
              refine wpAnyH_take (i := 11 ) (v := ?_) rfl (by kernel_rfl) (by kernel_rfl) (by kernel_rfl) (fun _ _ _ h => h) (Or.inl ⟨by rfl, ?_⟩) (by assumption) ?_; rotate_left; (· (intro w0 hSw; clear hSw; go_simp); first | done | with_reducible rfl); (try simp only [Act.put, List.getElem_toArray, List.getElem_cons_succ, List.getElem_cons_zero, List.setIfInBounds_toArray, List.set_cons_zero, List.set_cons_succ])
              refine wpAnyH_take (i := 12 ) (v := ?_) rfl (by kernel_rfl) (by kernel_rfl) (by kernel_rfl) (fun _ _ _ h => h) (Or.inl ⟨by rfl, ?_⟩) (by assumption) ?_; rotate_left; (· (intro w0 hSw; clear hSw; go_simp); first | done | with_reducible rfl); (try simp only [Act.put, List.getElem_toArray, List.getElem_cons_succ, List.getElem_cons_zero, List.setIfInBounds_toArray, List.set_cons_zero, List.set_cons_succ])
              refine wpAnyH_take (i := 13 ) (v := ?_) rfl (by kernel_rfl) (by kernel_rfl) (by kernel_rfl) (fun _ _ _ h => h) (Or.inl ⟨by rfl, ?_⟩) (by assumption) ?_; rotate_left; (· (intro w0 hSw; clear hSw; go_simp); first | done | with_reducible rfl); (try simp only [Act.put, List.getElem_toArray, List.getElem_cons_succ, List.getElem_cons_zero, List.setIfInBounds_toArray, List.set_cons_zero, List.set_cons_succ])
              refine wpAnyH_take (i := 14 ) (v := ?_) rfl (by kernel_rfl) (by kernel_rfl) (by kernel_rfl) (fun _ _ _ h => h) (Or.inl ⟨by rfl, ?_⟩) (by assumption) ?_; rotate_left; (· (intro w0 hSw; clear hSw; go_simp); first | done | with_reducible rfl); (try simp only [Act.put, List.getElem_toArray, List.getElem_cons_succ, List.getElem_cons_zero, List.setIfInBounds_toArray, List.set_cons_zero, List.set_cons_succ])
              refine wpAnyH_done (by kernel_rfl) ?_ _
              go_wp2_with fail
              go_meet
              exact ⟨rfl, rfl, rfl, rfl, HS, H5, H6, P10, P12⟩
            refine AllReadyH.cons (by simp only [List.getElem?_toArray, List.getElem?_cons_succ, List.getElem?_cons_zero]; rfl) (fun K hK => ?_) ?_
            · rw [if_pos (by rfl)]
              refine wp_bs 26 37 1 _ (by rfl) #[.int .i64 5000, .int .i64 5010, .int .i64 1010, .int .i64 1020, .int .i64 0, .int .i64 4, .int .i64 1, .int .i64 2] [.agg #[.int .i64 5000, .int .i64 5010, .int .i64 1010, .int .i64 1020, .int .i64 0, .int .i64 4, .int .i64 1, .int .i64 2]] (.agg #[.int .i64 0, .int .i64 0, .int .i64 0, .int .i64 0, .int .i64 0, .int .i64 0, .int .i64 0, .int .i64 0]) 8 (by kernel_rfl) (by kernel_rfl) (by decide) (by rfl) (by rfl) (by rfl) (by rfl) ?_
              simp only [Act.put, List.setIfInBounds_toArray, List.set_cons_zero, List.set_cons_succ]
              have hb : Below X.heap.size X (X.alloc (.cells #[.int .i64 5000, .int .i64 5010, .int .i64 1010, .int .i64 1020, .int .i64 0, .int .i64 4, .int .i64 1, .int .i64 2] 37)) := (Below.refl _ _).alloc (Nat.le_refl _) _
              have H1 := Lib.hid (Blk.new X 37 #[.int .i64 5000, .int .i64 5010, .int .i64 1010, .int .i64 1020, .int .i64 0, .int .i64 4, .int .i64 1, .int .i64 2])
              have hg1 : q + 1 + 1 + 1 < X.heap.size := HS.out.k4.lt
              replace HS := Lib.hid (HS.out.call hb)
              replace H5 := Lib.hid (H5.out.below hb H5.out.lt)
              replace H6 := Lib.hid (H6.out.below hb H6.out.lt)
              replace P10 := Lib.hid (P10.out.below hb)
              replace P12 := Lib.hid (P12.out.below hb)
              replace H2 := Lib.hid (H2.out.below hb H2.out.lt)
              clear hb
              generalize X.heap.size = g1 at *
              generalize World.alloc X _ = X at *
              refine hK.out _ _ ⟨HS.out.k1, HS.out.k2⟩ (fun hH19 => ?_)
              clear hK K
              try simp only [List.setIfInBounds_toArray, List.set_cons_zero, List.set_cons_succ]
              refine wpAnyH_ready (rs := [0]) (by kernel_rfl) (by simp) ?_
              refine AllReadyH.cons (by simp only [List.getElem?_toArray, List.getElem?_cons_zero]; rfl) (fun K hK => ?_) AllReadyH.nil
              go_simp
              refine (jig45_any _).mono ?_
              rintro e X ⟨rfl, hb⟩
              replace HS := Lib.hid (HS.out.call hb)
              replace H5 := Lib.hid (H5.out.below hb H5.out.lt)
              replace H6 := Lib.hid (H6.out.below hb H6.out.lt)
              replace P10 := Lib.hid (P10.out.below hb)
              replace P12 := Lib.hid (P12.out.below hb)
              replace H1 := Lib.hid (H1.out.below hb H1.out.lt)
              replace H2 := Lib.hid (H2.out.below hb H2.out.lt)
              clear hb
              refine hK.out _ _ ⟨HS.out.k1, HS.out.k2⟩ (fun hH20 => ?_)
              clear hK K
              try simp only [List.setIfInBounds_toArray, List.set_cons_zero]
              refine wpAnyH_ready (rs := [5]) (by kernel_rfl) (by simp) ?_
              refine AllReadyH.cons (by simp only [List.getElem?_toArray, List.getElem?_cons_succ, List.getElem?_cons_zero]; rfl) (fun K hK => ?_) AllReadyH.nil
              go_simp
              refine (tuneL_any _ g1 g2 H1.out H2.out).mono ?_
              rintro e X ⟨rfl, hb⟩
              replace HS := Lib.hid (HS.out.call hb)
              replace H5 := Lib.hid (H5.out.below hb H5.out.lt)
              replace H6 := Lib.hid (H6.out.below hb H6.out.lt)
              replace P10 := Lib.hid (P10.out.below hb)
              replace P12 := Lib.hid (P12.out.below hb)
              clear hb
              refine hK.out _ _ ⟨HS.out.k1, HS.out.k2⟩ (fun hH21 => ?_)
              clear hK K
              try simp only [List.setIfInBounds_toArray, List.set_cons_zero, List.set_cons_succ]
              refine wpAnyH_take (i := 6 ) (v := ?_) rfl (by kernel_rfl) (by kernel_rfl) (by kernel_rfl) (fun _ _ _ h => h) (Or.inl ⟨by rfl, ?_⟩) (by assumption) ?_; rotate_left; (· (intro w0 hSw; clear hSw; go_simp); first | done | with_reducible rfl); (try simp only [Act.put, List.getElem_toArray, List.getElem_cons_succ, List.getElem_cons_zero, List.setIfInBounds_toArray, List.set_cons_zero, List.set_cons_succ])
              refine wpAnyH_take (i := 7 ) (v := ?_) rfl (by kernel_rfl) (by kernel_rfl) (by kernel_rfl) (fun _ _ _ h => h) (Or.inl ⟨by rfl, ?_⟩) (by assumption) ?_; rotate_left; (· (intro w0 hSw; clear hSw; go_simp); first | done | with_reducible rfl); (try simp only [Act.put, List.getElem_toArray, List.getElem_cons_succ, List.getElem_cons_zero, List.setIfInBounds_toArray, List.set_cons_zero, List.set_cons_succ])
              refine wpAnyH_take (i := 8 ) (v := ?_) rfl (by kernel_rfl) (by kernel_rfl) (by kernel_rfl) (fun _ _ _ h => h) (Or.inl ⟨by rfl, ?_⟩) (by assumption) ?_; rotate_left; (· (intro w0 hSw; clear hSw; go_simp); first | done | with_reducible rfl); (try simp only [Act.put, List.getElem_toArray, List.getElem_cons_succ, List.getElem_cons_zero, List.setIfInBounds_toArray, List.set_cons_zero, List.set_cons_succ])
              refine wpAnyH_take (i := 9 ) (v := ?_) rfl (by kernel_rfl) (by kernel_rfl) (by kernel_rfl) (fun _ _ _ h => h) (Or.inl ⟨by rfl, ?_⟩) (by assumption) ?_; rotate_left; (· (intro w0 hSw; clear hSw; go_simp); first | done | with_reducible rfl); (try simp only [Act.put, List.getElem_toArray, List.getElem_cons_succ, List.getElem_cons_zero, List.setIfInBounds_toArray, List.set_cons_zero, List.set_cons_succ])
              refine wpAnyH_take (i := 10 ) (v := ?_) rfl (by kernel_rfl) (by kernel_rfl) (by kernel_rfl) (fun _ _ _ h => h) (Or.inl ⟨by rfl, ?_⟩) (by assumption) ?_; rotate_left; (· (intro w0 hSw; clear hSw; go_simp); first | done | with_reducible rfl); (try simp only [Act.put, List.getElem_toArray, List.getElem_cons_succ, List.getElem_cons_zero, List.setIfInBounds_toArray, List.set_cons_zero, List.set_cons_succ])
              refine wpAnyH_take (i := 11 ) (v := ?_) rfl (by kernel_rfl) (by kernel_rfl) (by kernel_rfl) (fun _ _ _ h => h) (Or.inl ⟨by rfl, ?_⟩) (by assumption) ?_; rotate_left; (· (intro w0 hSw; clear hSw; go_simp); first | done | with_reducible rfl); (try simp only [Act.put, List.getElem_toArray, List.getElem_cons_succ, List.getElem_cons_zero, List.setIfInBounds_toArray, List.set_cons_zero, List.set_cons_succ])
              refine wpAnyH_take (i := 12 ) (v := ?_) rfl (by kernel_rfl) (by kernel_rfl) (by kernel_rfl) (fun _ _ _ h => h) (Or.inl ⟨by rfl, ?_⟩) (by assumption) ?_; rotate_left; (· (intro w0 hSw; clear hSw; go_simp); first | done | with_reducible rfl); (try simp only [Act.put, List.getElem_toArray, List.getElem_cons_succ, List.getElem_cons_zero, List.setIfInBounds_toArray, List.set_cons_zero, List.set_cons_succ])
              refine wpAnyH_take (i := 13 ) (v := ?_) rfl (by kernel_rfl) (by kernel_rfl) (by kernel_rfl) (fun _ _ _ h => h) (Or.inl ⟨by rfl, ?_⟩) (by assumption) ?_; rotate_left; (· (intro w0 hSw; clear hSw; go_simp); first | done | with_reducible rfl); (try simp only [Act.put, List.getElem_toArray, List.getElem_cons_succ, List.getElem_cons_zero, List.setIfInBounds_toArray, List.set_cons_zero, List.set_cons_succ])
              refine wpAnyH_take (i := 14 ) (v := ?_) rfl (by kernel_rfl) (by kernel_rfl) (by kernel_rfl) (fun _ _ _ h => h) (Or.inl ⟨by rfl, ?_⟩) (by assumption) ?_; rotate_left; (· (intro w0 hSw; clear hSw; go_simp); first | done | with_reducible rfl); (try simp only [Act.put, List.getElem_toArray, List.getElem_cons_succ, List.getElem_cons_zero, List.setIfInBounds_toArray, List.set_cons_zero, List.set_cons_succ])
              refine wpAnyH_done (by kernel_rfl) ?_ _
              go_wp2_with fail
              go_meet
              exact ⟨rfl, rfl, rfl, rfl, HS, H5, H6, P10, P12⟩
            exact AllReadyH.nil
          exact AllReadyH.nil
        case rest => as_aux_lemma =>
          obtain ⟨rfl, rfl, rfl, rfl, HS, H5, H6, P10, P12⟩ := hcut
          go_upto_region 7 with fail
          replace HS := Lib.hid (HS.out.call (Below.refl _ _).drew)
          replace H5 := Lib.hid (H5.out.below (Below.refl _ _).drew H5.out.lt)
          replace H6 := Lib.hid (H6.out.below (Below.refl _ _).drew H6.out.lt)
          replace P10 := Lib.hid (P10.out.below (Below.refl _ _).drew)
          replace P12 := Lib.hid (P12.out.below (Below.refl _ _).drew)
          refine wp_region_held_drew (S := fun W9 => Blk W9 g5 23 #[.int .i64 (-11), .int .i64 19] ∧ Blk W9 g6 23 #[.int .i64 (-70), .int .i64 40]) (by kernel_rfl) ⟨H5.out, H6.out⟩ (fun hH0 => ?_)
          generalize World.drew _ = V0 at *
          simp only [List.size_toArray, List.length_cons, List.length_nil, Nat.reduceAdd, Array.replicate_succ, Array.replicate_zero, List.push_toArray, List.nil_append, List.cons_append]
          refine wpAnyH_take (i := 0 ) (v := ?_) rfl (by kernel_rfl) (by kernel_rfl) (by kernel_rfl) (fun _ _ _ h => h) (Or.inl ⟨by rfl, ?_⟩) (by assumption) ?_; rotate_left; (· (intro w0 hSw; have a0 := hSw.1.cell 0; have a1 := hSw.1.cell 1; have b0 := hSw.2.cell 0; have b1 := hSw.2.cell 1; clear hSw; go_simp); first | done | with_reducible rfl); (try simp only [Act.put, List.getElem_toArray, List.getElem_cons_zero, List.setIfInBounds_toArray, List.set_cons_zero, List.set_cons_succ])
          refine wpAnyH_ready (rs := [1]) (by kernel_rfl) (by simp) ?_
          refine AllReadyH.cons (by simp only [List.getElem?_toArray, List.getElem?_cons_succ, List.getElem?_cons_zero]; rfl) (fun K hK => ?_) AllReadyH.nil
          go_simp
          refine (span46_any _ _ _).mono ?_
          rintro e X ⟨rfl, hb⟩
          replace HS := Lib.hid (HS.out.call hb)
          replace H5 := Lib.hid (H5.out.below hb H5.out.lt)
          replace H6 := Lib.hid (H6.out.below hb H6.out.lt)
          replace P10 := Lib.hid (P10.out.below hb)
          replace P12 := Lib.hid (P12.out.below hb)
          clear hb
          refine hK.out _ _ ⟨H5.out, H6.out⟩ (fun hH1 => ?_)
          clear hK K
          try simp only [List.setIfInBounds_toArray, List.set_cons_zero, List.set_cons_succ]
          refine wpAnyH_take (i := 2 ) (v := ?_) rfl (by kernel_rfl) (by kernel_rfl) (by kernel_rfl) (fun _ _ _ h => h) (Or.inl ⟨by rfl, ?_⟩) (by assumption) ?_; rotate_left; (· (intro w0 hSw; have a0 := hSw.1.cell 0; have a1 := hSw.1.cell 1; have b0 := hSw.2.cell 0; have b1 := hSw.2.cell 1; clear hSw; go_simp); first | done | with_reducible rfl); (try simp only [Act.put, List.getElem_toArray, List.getElem_cons_succ, List.getElem_cons_zero, List.setIfInBounds_toArray, List.set_cons_zero, List.set_cons_succ])
          refine wpAnyH_take (i := 3 ) (v := ?_) rfl (by kernel_rfl) (by kernel_rfl) (by kernel_rfl) (fun _ _ _ h => h) (Or.inl ⟨by rfl, ?_⟩) (by assumption) ?_; rotate_left; (· (intro w0 hSw; have a0 := hSw.1.cell 0; have a1 := hSw.1.cell 1; have b0 := hSw.2.cell 0; have b1 := hSw.2.cell 1; clear hSw; go_simp); first | done | with_reducible rfl); (try simp only [Act.put, List.getElem_toArray, List.getElem_cons_succ, List.getElem_cons_zero, List.setIfInBounds_toArray, List.set_cons_zero, List.set_cons_succ])
          refine wpAnyH_take (i := 4 ) (v := ?_) rfl (by kernel_rfl) (by kernel_rfl) (by kernel_rfl) (fun _ _ _ h => h) (Or.inl ⟨by rfl, ?_⟩) (by assumption) ?_; rotate_left; (· (intro w0 hSw; have a0 := hSw.1.cell 0; have a1 := hSw.1.cell 1; have b0 := hSw.2.cell 0; have b1 := hSw.2.cell 1; clear hSw; go_simp); first | done | with_reducible rfl); (try simp only [Act.put, List.getElem_toArray, List.getElem_cons_succ, List.getElem_cons_zero, List.setIfInBounds_toArray, List.set_cons_zero, List.set_cons_succ])
          refine wpAnyH_ready (rs := [5]) (by kernel_rfl) (by simp) ?_
          refine AllReadyH.cons (by simp only [List.getElem?_toArray, List.getElem?_cons_succ, List.getElem?_cons_zero]; rfl) (fun K hK => ?_) AllReadyH.nil
          go_simp
          refine (span46_any _ _ _).mono ?_
          rintro e X ⟨rfl, hb⟩
          replace HS := Lib.hid (HS.out.call hb)
          replace H5 := Lib.hid (H5.out.below hb H5.out.lt)
          replace H6 := Lib.hid (H6.out.below hb H6.out.lt)
          replace P10 := Lib.hid (P10.out.below hb)
          replace P12 := Lib.hid (P12.out.below hb)
          clear hb
          refine hK.out _ _ ⟨H5.out, H6.out⟩ (fun hH2 => ?_)
          clear hK K
          try simp only [List.setIfInBounds_toArray, List.set_cons_zero, List.set_cons_succ]
          refine wpAnyH_take (i := 6 ) (v := ?_) rfl (by kernel_rfl) (by kernel_rfl) (by kernel_rfl) (fun _ _ _ h => h) (Or.inl ⟨by rfl, ?_⟩) (by assumption) ?_; rotate_left; (· (intro w0 hSw; have a0 := hSw.1.cell 0; have a1 := hSw.1.cell 1; have b0 := hSw.2.cell 0; have b1 := hSw.2.cell 1; clear hSw; go_simp); first | done | with_reducible rfl); (try simp only [Act.put, List.getElem_toArray, List.getElem_cons_succ, List.getElem_cons_zero, List.setIfInBounds_toArray, List.set_cons_zero, List.set_cons_succ])
          refine wpAnyH_take (i := 7 ) (v := ?_) rfl (by kernel_rfl) (by kernel_rfl) (by kernel_rfl) (fun _ _ _ h => h) (Or.inl ⟨by rfl, ?_⟩) (by assumption) ?_; rotate_left; (· (intro w0 hSw; have a0 := hSw.1.cell 0; have a1 := hSw.1.cell 1; have b0 := hSw.2.cell 0; have b1 := hSw.2.cell 1; clear hSw; go_simp); first | done | with_reducible rfl); (try simp only [Act.put, List.getElem_toArray, List.getElem_cons_succ, List.getElem_cons_zero, List.setIfInBounds_toArray, List.set_cons_zero, List.set_cons_succ])
          refine wpAnyH_take (i := 8 ) (v := ?_) rfl (by kernel_rfl) (by kernel_rfl) (by kernel_rfl) (fun _ _ _ h => h) (Or.inl ⟨by rfl, ?_⟩) (by assumption) ?_; rotate_left; (· (intro w0 hSw; have a0 := hSw.1.cell 0; have a1 := hSw.1.cell 1; have b0 := hSw.2.cell 0; have b1 := hSw.2.cell 1; clear hSw; go_simp); first | done | with_reducible rfl); (try simp only [Act.put, List.getElem_toArray, List.getElem_cons_succ, List.getElem_cons_zero, List.setIfInBounds_toArray, List.set_cons_zero, List.set_cons_succ])
          refine wpAnyH_take (i := 9 ) (v := ?_) rfl (by kernel_rfl) (by kernel_rfl) (by kernel_rfl) (fun _ _ _ h => h) (Or.inl ⟨by rfl, ?_⟩) (by assumption) ?_; rotate_left; (· (intro w0 hSw; have a0 := hSw.1.cell 0; have a1 := hSw.1.cell 1; have b0 := hSw.2.cell 0; have b1 := hSw.2.cell 1; clear hSw; go_simp); first | done | with_reducible rfl); (try simp only [Act.put, List.getElem_toArray, List.getElem_cons_succ, List.getElem_cons_zero, List.setIfInBounds_toArray, List.set_cons_zero, List.set_cons_succ])
          refine wpAnyH_take (i := 10 ) (v := ?_) rfl (by kernel_rfl) (by kernel_rfl) (by kernel_rfl) (fun _ _ _ h => h) (Or.inl ⟨by rfl, ?_⟩) (by assumption) ?_; rotate_left; (· (intro w0 hSw; have a0 := hSw.1.cell 0; have a1 := hSw.1.cell 1; have b0 := hSw.2.cell 0; have b1 := hSw.2.cell 1; clear hSw; go_simp); first | done | with_reducible rfl); (try simp only [Act.put, List.getElem_toArray, List.getElem_cons_succ, List.getElem_cons_zero, List.setIfInBounds_toArray, List.set_cons_zero, List.set_cons_succ])
          refine wpAnyH_take (i := 11 ) (v := ?_) rfl (by kernel_rfl) (by kernel_rfl) (by kernel_rfl) (fun _ _ _ h => h) (Or.inl ⟨by rfl, ?_⟩) (by assumption) ?_; rotate_left; (· (intro w0 hSw; have a0 := hSw.1.cell 0; have a1 := hSw.1.cell 1; have b0 := hSw.2.cell 0; have b1 := hSw.2.cell 1; clear hSw; go_simp); first | done | with_reducible rfl); (try simp only [Act.put, List.getElem_toArray, List.getElem_cons_succ, List.getElem_cons_zero, List.setIfInBounds_toArray, List.set_cons_zero, List.set_cons_succ])
          refine wpAnyH_take (i := 12 ) (v := ?_) rfl (by kernel_rfl) (by kernel_rfl) (by kernel_rfl) (fun _ _ _ h => h) (Or.inl ⟨by rfl, ?_⟩) (by assumption) ?_; rotate_left; (· (intro w0 hSw; have a0 := hSw.1.cell 0; have a1 := hSw.1.cell 1; have b0 := hSw.2.cell 0; have b1 := hSw.2.cell 1; clear hSw; go_simp); first | done | with_reducible rfl); (try simp only [Act.put, List.getElem_toArray, List.getElem_cons_succ, List.getElem_cons_zero, List.setIfInBounds_toArray, List.set_cons_zero, List.set_cons_succ])
          refine wpAnyH_take (i := 13 ) (v := ?_) rfl (by kernel_rfl) (by kernel_rfl) (by kernel_rfl) (fun _ _ _ h => h) (Or.inl ⟨by rfl, ?_⟩) (by assumption) ?_; rotate_left; (· (intro w0 hSw; have a0 := hSw.1.cell 0; have a1 := hSw.1.cell 1; have b0 := hSw.2.cell 0; have b1 := hSw.2.cell 1; clear hSw; go_simp); first | done | with_reducible rfl); (try simp only [Act.put, List.getElem_toArray, List.getElem_cons_succ, List.getElem_cons_zero, List.setIfInBounds_toArray, List.set_cons_zero, List.set_cons_succ])
          refine wpAnyH_take (i := 14 ) (v := ?_) rfl (by kernel_rfl) (by kernel_rfl) (by kernel_rfl) (fun _ _ _ h => h) (Or.inl ⟨by rfl, ?_⟩) (by assumption) ?_; rotate_left; (· (intro w0 hSw; have a0 := hSw.1.cell 0; have a1 := hSw.1.cell 1; have b0 := hSw.2.cell 0; have b1 := hSw.2.cell 1; clear hSw; go_simp); first | done | with_reducible rfl); (try simp only [Act.put, List.getElem_toArray, List.getElem_cons_succ, List.getElem_cons_zero, List.setIfInBounds_toArray, List.set_cons_zero, List.set_cons_succ])
          refine wpAnyH_take (i := 15 ) (v := ?_) rfl (by kernel_rfl) (by kernel_rfl) (by kernel_rfl) (fun _ _ _ h => h) (Or.inl ⟨by rfl, ?_⟩) (by assumption) ?_; rotate_left; (· (intro w0 hSw; have a0 := hSw.1.cell 0; have a1 := hSw.1.cell 1; have b0 := hSw.2.cell 0; have b1 := hSw.2.cell 1; clear hSw; go_simp); first | done | with_reducible rfl); (try simp only [Act.put, List.getElem_toArray, List.getElem_cons_succ, List.getElem_cons_zero, List.setIfInBounds_toArray, List.set_cons_zero, List.set_cons_succ])
          refine wpAnyH_take (i := 16 ) (v := ?_) rfl (by kernel_rfl) (by kernel_rfl) (by kernel_rfl) (fun _ _ _ h => h) (Or.inl ⟨by rfl, ?_⟩) (by assumption) ?_; rotate_left; (· (intro w0 hSw; have a0 := hSw.1.cell 0; have a1 := hSw.1.cell 1; have b0 := hSw.2.cell 0; have b1 := hSw.2.cell 1; clear hSw; go_simp); first | done | with_reducible rfl); (try simp only [Act.put, List.getElem_toArray, List.getElem_cons_succ, List.getElem_cons_zero, List.setIfInBounds_toArray, List.set_cons_zero, List.set_cons_succ])
          refine wpAnyH_take (i := 17 ) (v := ?_) rfl (by kernel_rfl) (by kernel_rfl) (by kernel_rfl) (fun _ _ _ h => h) (Or.inl ⟨by rfl, ?_⟩) (by assumption) ?_; rotate_left; (· (intro w0 hSw; have a0 := hSw.1.cell 0; have a1 := hSw.1.cell 1; have b0 := hSw.2.cell 0; have b1 := hSw.2.cell 1; clear hSw; go_simp); first | done | with_reducible rfl); (try simp only [Act.put, List.getElem_toArray, List.getElem_cons_succ, List.getElem_cons_zero, List.setIfInBounds_toArray, List.set_cons_zero, List.set_cons_succ])
          refine wpAnyH_take (i := 18 ) (v := ?_) rfl (by kernel_rfl) (by kernel_rfl) (by kernel_rfl) (fun _ _ _ h => h) (Or.inl ⟨by rfl, ?_⟩) (by assumption) ?_; rotate_left; (· (intro w0 hSw; have a0 := hSw.1.cell 0; have a1 := hSw.1.cell 1; have b0 := hSw.2.cell 0; have b1 := hSw.2.cell 1; clear hSw; go_simp); first | done | with_reducible rfl); (try simp only [Act.put, List.getElem_toArray, List.getElem_cons_succ, List.getElem_cons_zero, List.setIfInBounds_toArray, List.set_cons_zero, List.set_cons_succ])
          refine wpAnyH_take (i := 19 ) (v := ?_) rfl (by kernel_rfl) (by kernel_rfl) (by kernel_rfl) (fun _ _ _ h => h) (Or.inl ⟨by rfl, ?_⟩) (by assumption) ?_; rotate_left; (· (intro w0 hSw; have a0 := hSw.1.cell 0; have a1 := hSw.1.cell 1; have b0 := hSw.2.cell 0; have b1 := hSw.2.cell 1; clear hSw; go_simp); first | done | with_reducible rfl); (try simp only [Act.put, List.getElem_toArray, List.getElem_cons_succ, List.getElem_cons_zero, List.setIfInBounds_toArray, List.set_cons_zero, List.set_cons_succ])
          refine wpAnyH_take (i := 20 ) (v := ?_) rfl (by kernel_rfl) (by kernel_rfl) (by kernel_rfl) (fun _ _ _ h => h) (Or.inl ⟨by rfl, ?_⟩) (by assumption) ?_; rotate_left; (· (intro w0 hSw; have a0 := hSw.1.cell 0; have a1 := hSw.1.cell 1; have b0 := hSw.2.cell 0; have b1 := hSw.2.cell 1; clear hSw; go_simp); first | done | with_reducible rfl); (try simp only [Act.put, List.getElem_toArray, List.getElem_cons_succ, List.getElem_cons_zero, List.setIfInBounds_toArray, List.set_cons_zero, List.set_cons_succ])
          refine wpAnyH_take (i := 21 ) (v := ?_) rfl (by kernel_rfl) (by kernel_rfl) (by kernel_rfl) (fun _ _ _ h => h) (Or.inl ⟨by rfl, ?_⟩) (by assumption) ?_; rotate_left; (· (intro w0 hSw; have a0 := hSw.1.cell 0; have a1 := hSw.1.cell 1; have b0 := hSw.2.cell 0; have b1 := hSw.2.cell 1; clear hSw; go_simp); first | done | with_reducible rfl); (try simp only [Act.put, List.getElem_toArray, List.getElem_cons_succ, List.getElem_cons_zero, List.setIfInBounds_toArray, List.set_cons_zero, List.set_cons_succ])
          refine wpAnyH_ready (rs := [22]) (by kernel_rfl) (by simp) ?_
          refine AllReadyH.cons (by simp only [List.getElem?_toArray, List.getElem?_cons_succ, List.getElem?_cons_zero]; rfl) (fun K hK => ?_) AllReadyH.nil
          go_simp
          have hb : Below X.heap.size X (X.alloc (.cells #[.int .i64 0, .int .i64 1, .int .i64 1] 3)) := (Below.refl _ _).alloc (Nat.le_refl _) _
          have H9 := Lib.hid (Blk.new X 3 #[.int .i64 0, .int .i64 1, .int .i64 1])
          have hg9 : q + 1 + 1 + 1 < X.heap.size := HS.out.k4.lt
          replace HS := Lib.hid (HS.out.call hb)
          replace H5 := Lib.hid (H5.out.below hb H5.out.lt)
          replace H6 := Lib.hid (H6.out.below hb H6.out.lt)
          replace P10 := Lib.hid (P10.out.below hb)
          replace P12 := Lib.hid (P12.out.below hb)
          clear hb
          generalize X.heap.size = g9 at *
          generalize World.alloc X _ = X at *
          refine hK.out _ _ ⟨H5.out, H6.out⟩ (fun hH3 => ?_)
          clear hK K
          try simp only [List.setIfInBounds_toArray, List.set_cons_zero, List.set_cons_succ]
          refine wpAnyH_ready (rs := [23]) (by kernel_rfl) (by simp) ?_
          refine AllReadyH.cons (by simp only [List.getElem?_toArray, List.getElem?_cons_succ, List.getElem?_cons_zero]; rfl) (fun K hK => ?_) AllReadyH.nil
          go_simp
          refine (ints5_any _ A10 (some ⟨g9, 0, none⟩) c10 3 [0, 1, 1] [0, 1, 1] (by simp) (by simp) (plan_sl5 P10.out) (ints_of3 H9.out)).mono ?_
          rintro e X ⟨rfl, hb⟩
          replace HS := Lib.hid (HS.out.call hb)
          replace H5 := Lib.hid (H5.out.below hb H5.out.lt)
          replace H6 := Lib.hid (H6.out.below hb H6.out.lt)
          replace P10 := Lib.hid (P10.out.below hb)
          replace P12 := Lib.hid (P12.out.below hb)
          clear hb
          refine hK.out _ _ ⟨H5.out, H6.out⟩ (fun hH4 => ?_)
          clear hK K
          try simp only [List.setIfInBounds_toArray, List.set_cons_zero, List.set_cons_succ]
          refine wpAnyH_take (i := 24 ) (v := ?_) rfl (by kernel_rfl) (by kernel_rfl) (by kernel_rfl) (fun _ _ _ h => h) (Or.inl ⟨by rfl, ?_⟩) (by assumption) ?_; rotate_left; (· (intro w0 hSw; have a0 := hSw.1.cell 0; have a1 := hSw.1.cell 1; have b0 := hSw.2.cell 0; have b1 := hSw.2.cell 1; clear hSw; go_simp); first | done | with_reducible rfl); (try simp only [Act.put, List.getElem_toArray, List.getElem_cons_succ, List.getElem_cons_zero, List.setIfInBounds_toArray, List.set_cons_zero, List.set_cons_succ])
          refine wpAnyH_take (i := 25 ) (v := ?_) rfl (by kernel_rfl) (by kernel_rfl) (by kernel_rfl) (fun _ _ _ h => h) (Or.inl ⟨by rfl, ?_⟩) (by assumption) ?_; rotate_left; (· (intro w0 hSw; have a0 := hSw.1.cell 0; have a1 := hSw.1.cell 1; have b0 := hSw.2.cell 0; have b1 := hSw.2.cell 1; clear hSw; go_simp); first | done | with_reducible rfl); (try simp only [Act.put, List.getElem_toArray, List.getElem_cons_succ, List.getElem_cons_zero, List.setIfInBounds_toArray, List.set_cons_zero, List.set_cons_succ])
          refine wpAnyH_take (i := 26 ) (v := ?_) rfl (by kernel_rfl) (by kernel_rfl) (by kernel_rfl) (fun _ _ _ h => h) (Or.inl ⟨by rfl, ?_⟩) (by assumption) ?_; rotate_left; (· (intro w0 hSw; have a0 := hSw.1.cell 0; have a1 := hSw.1.cell 1; have b0 := hSw.2.cell 0; have b1 := hSw.2.cell 1; clear hSw; go_simp); first | done | with_reducible rfl); (try simp only [Act.put, List.getElem_toArray, List.getElem_cons_succ, List.getElem_cons_zero, List.setIfInBounds_toArray, List.set_cons_zero, List.set_cons_succ])
          refine wpAnyH_take (i := 27 ) (v := ?_) rfl (by kernel_rfl) (by kernel_rfl) (by kernel_rfl) (fun _ _ _ h => h) (Or.inl ⟨by rfl, ?_⟩) (by assumption) ?_; rotate_left; (· (intro w0 hSw; have a0 := hSw.1.cell 0; have a1 := hSw.1.cell 1; have b0 := hSw.2.cell 0; have b1 := hSw.2.cell 1; clear hSw; go_simp); first | done | with_reducible rfl); (try simp only [Act.put, List.getElem_toArray, List.getElem_cons_succ, List.getElem_cons_zero, List.setIfInBounds_toArray, List.set_cons_zero, List.set_cons_succ])
          refine wpAnyH_take (i := 28 ) (v := ?_) rfl (by kernel_rfl) (by kernel_rfl) (by kernel_rfl) (fun _ _ _ h => h) (Or.inl ⟨by rfl, ?_⟩) (by assumption) ?_; rotate_left; (· (intro w0 hSw; have a0 := hSw.1.cell 0; have a1 := hSw.1.cell 1; have b0 := hSw.2.cell 0; have b1 := hSw.2.cell 1; clear hSw; go_simp); first | done | with_reducible rfl); (try simp only [Act.put, List.getElem_toArray, List.getElem_cons_succ, List.getElem_cons_zero, List.setIfInBounds_toArray, List.set_cons_zero, List.set_cons_succ])
          refine wpAnyH_take (i := 29 ) (v := ?_) rfl (by kernel_rfl) (by kernel_rfl) (by kernel_rfl) (fun _ _ _ h => h) (Or.inl ⟨by rfl, ?_⟩) (by assumption) ?_; rotate_left; (· (intro w0 hSw; have a0 := hSw.1.cell 0; have a1 := hSw.1.cell 1; have b0 := hSw.2.cell 0; have b1 := hSw.2.cell 1; clear hSw; go_simp); first | done | with_reducible rfl); (try simp only [Act.put, List.getElem_toArray, List.getElem_cons_succ, List.getElem_cons_zero, List.setIfInBounds_toArray, List.set_cons_zero, List.set_cons_succ])
          refine wpAnyH_take (i := 30 ) (v := ?_) rfl (by kernel_rfl) (by kernel_rfl) (by kernel_rfl) (fun _ _ _ h => h) (Or.inl ⟨by rfl, ?_⟩) (by assumption) ?_; rotate_left; (· (intro w0 hSw; have a0 := hSw.1.cell 0; have a1 := hSw.1.cell 1; have b0 := hSw.2.cell 0; have b1 := hSw.2.cell 1; clear hSw; go_simp); first | done | with_reducible rfl); (try simp only [Act.put, List.getElem_toArray, List.getElem_cons_succ, List.getElem_cons_zero, List.setIfInBounds_toArray, List.set_cons_zero, List.set_cons_succ])
          refine wpAnyH_ready (rs := [31]) (by kernel_rfl) (by simp) ?_
          refine AllReadyH.cons (by simp only [List.getElem?_toArray, List.getElem?_cons_succ, List.getElem?_cons_zero]; rfl) (fun K hK => ?_) AllReadyH.nil
          go_simp
          have hb : Below X.heap.size X (X.alloc (.cells #[.int .i64 1, .int .i64 0] 3)) := (Below.refl _ _).alloc (Nat.le_refl _) _
          have H8 := Lib.hid (Blk.new X 3 #[.int .i64 1, .int .i64 0])
          have hg8 : q + 1 + 1 + 1 < X.heap.size := HS.out.k4.lt
          replace HS := Lib.hid (HS.out.call hb)
          replace H5 := Lib.hid (H5.out.below hb H5.out.lt)
          replace H6 := Lib.hid (H6.out.below hb H6.out.lt)
          replace P10 := Lib.hid (P10.out.below hb)
          replace P12 := Lib.hid (P12.out.below hb)
          clear hb
          generalize X.heap.size = g8 at *
          generalize World.alloc X _ = X at *
          refine hK.out _ _ ⟨H5.out, H6.out⟩ (fun hH5 => ?_)
          clear hK K
          try simp only [List.setIfInBounds_toArray, List.set_cons_zero, List.set_cons_succ]
          refine wpAnyH_ready (rs := [32]) (by kernel_rfl) (by simp) ?_
          refine AllReadyH.cons (by simp only [List.getElem?_toArray, List.getElem?_cons_succ, List.getElem?_cons_zero]; rfl) (fun K hK => ?_) AllReadyH.nil
          go_simp
          refine (ints5_any _ A12 (some ⟨g8, 0, none⟩) c12 2 [1, 0] [1, 0] (by simp) (by simp) (plan_sl5 P12.out) (ints_of2 H8.out)).mono ?_
          rintro e X ⟨rfl, hb⟩
          replace HS := Lib.hid (HS.out.call hb)
          replace H5 := Lib.hid (H5.out.below hb H5.out.lt)
          replace H6 := Lib.hid (H6.out.below hb H6.out.lt)
          replace P10 := Lib.hid (P10.out.below hb)
          replace P12 := Lib.hid (P12.out.below hb)
          clear hb
          refine hK.out _ _ ⟨H5.out, H6.out⟩ (fun hH6 => ?_)
          clear hK K
          try simp only [List.setIfInBounds_toArray, List.set_cons_zero, List.set_cons_succ]
          refine wpAnyH_take (i := 33 ) (v := ?_) rfl (by kernel_rfl) (by kernel_rfl) (by kernel_rfl) (fun _ _ _ h => h) (Or.inl ⟨by rfl, ?_⟩) (by assumption) ?_; rotate_left; (· (intro w0 hSw; have a0 := hSw.1.cell 0; have a1 := hSw.1.cell 1; have b0 := hSw.2.cell 0; have b1 := hSw.2.cell 1; clear hSw; go_simp); first | done | with_reducible rfl); (try simp only [Act.put, List.getElem_toArray, List.getElem_cons_succ, List.getElem_cons_zero, List.setIfInBounds_toArray, List.set_cons_zero, List.set_cons_succ])
          refine wpAnyH_take (i := 34 ) (v := ?_) rfl (by kernel_rfl) (by kernel_rfl) (by kernel_rfl) (fun _ _ _ h => h) (Or.inl ⟨by rfl, ?_⟩) (by assumption) ?_; rotate_left; (· (intro w0 hSw; have a0 := hSw.1.cell 0; have a1 := hSw.1.cell 1; have b0 := hSw.2.cell 0; have b1 := hSw.2.cell 1; clear hSw; go_simp); first | done | with_reducible rfl); (try simp only [Act.put, List.getElem_toArray, List.getElem_cons_succ, List.getElem_cons_zero, List.setIfInBounds_toArray, List.set_cons_zero, List.set_cons_succ])
          refine wpAnyH_take (i := 35 ) (v := ?_) rfl (by kernel_rfl) (by kernel_rfl) (by kernel_rfl) (fun _ _ _ h => h) (Or.inl ⟨by rfl, ?_⟩) (by assumption) ?_; rotate_left; (· (intro w0 hSw; have a0 := hSw.1.cell 0; have a1 := hSw.1.cell 1; have b0 := hSw.2.cell 0; have b1 := hSw.2.cell 1; clear hSw; go_simp); first | done | with_reducible rfl); (try simp only [Act.put, List.getElem_toArray, List.getElem_cons_succ, List.getElem_cons_zero, List.setIfInBounds_toArray, List.set_cons_zero, List.set_cons_succ])
          refine wpAnyH_take (i := 36 ) (v := ?_) rfl (by kernel_rfl) (by kernel_rfl) (by kernel_rfl) (fun _ _ _ h => h) (Or.inl ⟨by rfl, ?_⟩) (by assumption) ?_; rotate_left; (· (intro w0 hSw; have a0 := hSw.1.cell 0; have a1 := hSw.1.cell 1; have b0 := hSw.2.cell 0; have b1 := hSw.2.cell 1; clear hSw; go_simp); first | done | with_reducible rfl); (try simp only [Act.put, List.getElem_toArray, List.getElem_cons_succ, List.getElem_cons_zero, List.setIfInBounds_toArray, List.set_cons_zero, List.set_cons_succ])
          refine wpAnyH_take (i := 37 ) (v := ?_) rfl (by kernel_rfl) (by kernel_rfl) (by kernel_rfl) (fun _ _ _ h => h) (Or.inl ⟨by rfl, ?_⟩) (by assumption) ?_; rotate_left; (· (intro w0 hSw; have a0 := hSw.1.cell 0; have a1 := hSw.1.cell 1; have b0 := hSw.2.cell 0; have b1 := hSw.2.cell 1; clear hSw; go_simp); first | done | with_reducible rfl); (try simp only [Act.put, List.getElem_toArray, List.getElem_cons_succ, List.getElem_cons_zero, List.setIfInBounds_toArray, List.set_cons_zero, List.set_cons_succ])
          refine wpAnyH_take (i := 38 ) (v := ?_) rfl (by kernel_rfl) (by kernel_rfl) (by kernel_rfl) (fun _ _ _ h => h) (Or.inl ⟨by rfl, ?_⟩) (by assumption) ?_; rotate_left; (· (intro w0 hSw; have a0 := hSw.1.cell 0; have a1 := hSw.1.cell 1; have b0 := hSw.2.cell 0; have b1 := hSw.2.cell 1; clear hSw; go_simp); first | done | with_reducible rfl); (try simp only [Act.put, List.getElem_toArray, List.getElem_cons_succ, List.getElem_cons_zero, List.setIfInBounds_toArray, List.set_cons_zero, List.set_cons_succ])
          refine wpAnyH_take (i := 39 ) (v := ?_) rfl (by kernel_rfl) (by kernel_rfl) (by kernel_rfl) (fun _ _ _ h => h) (Or.inl ⟨by rfl, ?_⟩) (by assumption) ?_; rotate_left; (· (intro w0 hSw; have a0 := hSw.1.cell 0; have a1 := hSw.1.cell 1; have b0 := hSw.2.cell 0; have b1 := hSw.2.cell 1; clear hSw; go_simp); first | done | with_reducible rfl); (try simp only [Act.put, List.getElem_toArray, List.getElem_cons_succ, List.getElem_cons_zero, List.setIfInBounds_toArray, List.set_cons_zero, List.set_cons_succ])
          refine wpAnyH_take (i := 40 ) (v := ?_) rfl (by kernel_rfl) (by kernel_rfl) (by kernel_rfl) (fun _ _ _ h => h) (Or.inl ⟨by rfl, ?_⟩) (by assumption) ?_; rotate_left; (· (intro w0 hSw; have a0 := hSw.1.cell 0; have a1 := hSw.1.cell 1; have b0 := hSw.2.cell 0; have b1 := hSw.2.cell 1; clear hSw; go_simp); first | done | with_reducible rfl); (try simp only [Act.put, List.getElem_toArray, List.getElem_cons_succ, List.getElem_cons_zero, List.setIfInBounds_toArray, List.set_cons_zero, List.set_cons_succ])
          refine wpAnyH_take (i := 41 ) (v := ?_) rfl (by kernel_rfl) (by kernel_rfl) (by kernel_rfl) (fun _ _ _ h => h) (Or.inl ⟨by rfl, ?_⟩) (by assumption) ?_; rotate_left; (· (intro w0 hSw; have a0 := hSw.1.cell 0; have a1 := hSw.1.cell 1; have b0 := hSw.2.cell 0; have b1 := hSw.2.cell 1; clear hSw; go_simp); first | done | with_reducible rfl); (try simp only [Act.put, List.getElem_toArray, List.getElem_cons_succ, List.getElem_cons_zero, List.setIfInBounds_toArray, List.set_cons_zero, List.set_cons_succ])
          refine wpAnyH_take (i := 42 ) (v := ?_) rfl (by kernel_rfl) (by kernel_rfl) (by kernel_rfl) (fun _ _ _ h => h) (Or.inl ⟨by rfl, ?_⟩) (by assumption) ?_; rotate_left; (· (intro w0 hSw; have a0 := hSw.1.cell 0; have a1 := hSw.1.cell 1; have b0 := hSw.2.cell 0; have b1 := hSw.2.cell 1; clear hSw; go_simp); first | done | with_reducible rfl); (try simp only [Act.put, List.getElem_toArray, List.getElem_cons_succ, List.getElem_cons_zero, List.setIfInBounds_toArray, List.set_cons_zero, List.set_cons_succ])
          refine wpAnyH_take (i := 43 ) (v := ?_) rfl (by kernel_rfl) (by kernel_rfl) (by kernel_rfl) (fun _ _ _ h => h) (Or.inl ⟨by rfl, ?_⟩) (by assumption) ?_; rotate_left; (· (intro w0 hSw; have a0 := hSw.1.cell 0; have a1 := hSw.1.cell 1; have b0 := hSw.2.cell 0; have b1 := hSw.2.cell 1; clear hSw; go_simp); first | done | with_reducible rfl); (try simp only [Act.put, List.getElem_toArray, List.getElem_cons_succ, List.getElem_cons_zero, List.setIfInBounds_toArray, List.set_cons_zero, List.set_cons_succ])
          refine wpAnyH_take (i := 44 ) (v := ?_) rfl (by kernel_rfl) (by kernel_rfl) (by kernel_rfl) (fun _ _ _ h => h) (Or.inl ⟨by rfl, ?_⟩) (by assumption) ?_; rotate_left; (· (intro w0 hSw; have a0 := hSw.1.cell 0; have a1 := hSw.1.cell 1; have b0 := hSw.2.cell 0; have b1 := hSw.2.cell 1; clear hSw; go_simp); first | done | with_reducible rfl); (try simp only [Act.put, List.getElem_toArray, List.getElem_cons_succ, List.getElem_cons_zero, List.setIfInBounds_toArray, List.set_cons_zero, List.set_cons_succ])
          refine wpAnyH_take (i := 45 ) (v := ?_) rfl (by kernel_rfl) (by kernel_rfl) (by kernel_rfl) (fun _ _ _ h => h) (Or.inl ⟨by rfl, ?_⟩) (by assumption) ?_; rotate_left; (· (intro w0 hSw; have a0 := hSw.1.cell 0; have a1 := hSw.1.cell 1; have b0 := hSw.2.cell 0; have b1 := hSw.2.cell 1; clear hSw; go_simp); first | done | with_reducible rfl); (try simp only [Act.put, List.getElem_toArray, List.getElem_cons_succ, List.getElem_cons_zero, List.setIfInBounds_toArray, List.set_cons_zero, List.set_cons_succ])
          refine wpAnyH_take (i := 46 ) (v := ?_) rfl (by kernel_rfl) (by kernel_rfl) (by kernel_rfl) (fun _ _ _ h => h) (Or.inl ⟨by rfl, ?_⟩) (by assumption) ?_; rotate_left; (· (intro w0 hSw; have a0 := hSw.1.cell 0; have a1 := hSw.1.cell 1; have b0 := hSw.2.cell 0; have b1 := hSw.2.cell 1; clear hSw; go_simp); first | done | with_reducible rfl); (try simp only [Act.put, List.getElem_toArray, List.getElem_cons_succ, List.getElem_cons_zero, List.setIfInBounds_toArray, List.set_cons_zero, List.set_cons_succ])
          refine wpAnyH_take (i := 47 ) (v := ?_) rfl (by kernel_rfl) (by kernel_rfl) (by kernel_rfl) (fun _ _ _ h => h) (Or.inl ⟨by rfl, ?_⟩) (by assumption) ?_; rotate_left; (· (intro w0 hSw; have a0 := hSw.1.cell 0; have a1 := hSw.1.cell 1; have b0 := hSw.2.cell 0; have b1 := hSw.2.cell 1; clear hSw; go_simp); first | done | with_reducible rfl); (try simp only [Act.put, List.getElem_toArray, List.getElem_cons_succ, List.getElem_cons_zero, List.setIfInBounds_toArray, List.set_cons_zero, List.set_cons_succ])
          refine wpAnyH_take (i := 48 ) (v := ?_) rfl (by kernel_rfl) (by kernel_rfl) (by kernel_rfl) (fun _ _ _ h => h) (Or.inl ⟨by rfl, ?_⟩) (by assumption) ?_; rotate_left; (· (intro w0 hSw; have a0 := hSw.1.cell 0; have a1 := hSw.1.cell 1; have b0 := hSw.2.cell 0; have b1 := hSw.2.cell 1; clear hSw; go_simp); first | done | with_reducible rfl); (try simp only [Act.put, List.getElem_toArray, List.getElem_cons_succ, List.getElem_cons_zero, List.setIfInBounds_toArray, List.set_cons_zero, List.set_cons_succ])
          refine wpAnyH_take (i := 49 ) (v := ?_) rfl (by kernel_rfl) (by kernel_rfl) (by kernel_rfl) (fun _ _ _ h => h) (Or.inl ⟨by rfl, ?_⟩) (by assumption) ?_; rotate_left; (· (intro w0 hSw; have a0 := hSw.1.cell 0; have a1 := hSw.1.cell 1; have b0 := hSw.2.cell 0; have b1 := hSw.2.cell 1; clear hSw; go_simp); first | done | with_reducible rfl); (try simp only [Act.put, List.getElem_toArray, List.getElem_cons_succ, List.getElem_cons_zero, List.setIfInBounds_toArray, List.set_cons_zero, List.set_cons_succ])
          refine wpAnyH_take (i := 50 ) (v := ?_) rfl (by kernel_rfl) (by kernel_rfl) (by kernel_rfl) (fun _ _ _ h => h) (Or.inl ⟨by rfl, ?_⟩) (by assumption) ?_; rotate_left; (· (intro w0 hSw; have a0 := hSw.1.cell 0; have a1 := hSw.1.cell 1; have b0 := hSw.2.cell 0; have b1 := hSw.2.cell 1; clear hSw; go_simp); first | done | with_reducible rfl); (try simp only [Act.put, List.getElem_toArray, List.getElem_cons_succ, List.getElem_cons_zero, List.setIfInBounds_toArray, List.set_cons_zero, List.set_cons_succ])
          refine wpAnyH_take (i := 51 ) (v := ?_) rfl (by kernel_rfl) (by kernel_rfl) (by kernel_rfl) (fun _ _ _ h => h) (Or.inl ⟨by rfl, ?_⟩) (by assumption) ?_; rotate_left; (· (intro w0 hSw; have a0 := hSw.1.cell 0; have a1 := hSw.1.cell 1; have b0 := hSw.2.cell 0; have b1 := hSw.2.cell 1; clear hSw; go_simp); first | done | with_reducible rfl); (try simp only [Act.put, List.getElem_toArray, List.getElem_cons_succ, List.getElem_cons_zero, List.setIfInBounds_toArray, List.set_cons_zero, List.set_cons_succ])
          refine wpAnyH_take (i := 52 ) (v := ?_) rfl (by kernel_rfl) (by kernel_rfl) (by kernel_rfl) (fun _ _ _ h => h) (Or.inl ⟨by rfl, ?_⟩) (by assumption) ?_; rotate_left; (· (intro w0 hSw; have a0 := hSw.1.cell 0; have a1 := hSw.1.cell 1; have b0 := hSw.2.cell 0; have b1 := hSw.2.cell 1; clear hSw; go_simp); first | done | with_reducible rfl); (try simp only [Act.put, List.getElem_toArray, List.getElem_cons_succ, List.getElem_cons_zero, List.setIfInBounds_toArray, List.set_cons_zero, List.set_cons_succ])
          refine wpAnyH_take (i := 53 ) (v := ?_) rfl (by kernel_rfl) (by kernel_rfl) (by kernel_rfl) (fun _ _ _ h => h) (Or.inl ⟨by rfl, ?_⟩) (by assumption) ?_; rotate_left; (· (intro w0 hSw; have a0 := hSw.1.cell 0; have a1 := hSw.1.cell 1; have b0 := hSw.2.cell 0; have b1 := hSw.2.cell 1; clear hSw; go_simp); first | done | with_reducible rfl); (try simp only [Act.put, List.getElem_toArray, List.getElem_cons_succ, List.getElem_cons_zero, List.setIfInBounds_toArray, List.set_cons_zero, List.set_cons_succ])
          refine wpAnyH_take (i := 54 ) (v := ?_) rfl (by kernel_rfl) (by kernel_rfl) (by kernel_rfl) (fun _ _ _ h => h) (Or.inl ⟨by rfl, ?_⟩) (by assumption) ?_; rotate_left; (· (intro w0 hSw; have a0 := hSw.1.cell 0; have a1 := hSw.1.cell 1; have b0 := hSw.2.cell 0; have b1 := hSw.2.cell 1; clear hSw; go_simp); first | done | with_reducible rfl); (try simp only [Act.put, List.getElem_toArray, List.getElem_cons_succ, List.getElem_cons_zero, List.setIfInBounds_toArray, List.set_cons_zero, List.set_cons_succ])
          refine wpAnyH_take (i := 55 ) (v := ?_) rfl (by kernel_rfl) (by kernel_rfl) (by kernel_rfl) (fun _ _ _ h => h) (Or.inl ⟨by rfl, ?_⟩) (by assumption) ?_; rotate_left; (· (intro w0 hSw; have a0 := hSw.1.cell 0; have a1 := hSw.1.cell 1; have b0 := hSw.2.cell 0; have b1 := hSw.2.cell 1; clear hSw; go_simp); first | done | with_reducible rfl); (try simp only [Act.put, List.getElem_toArray, List.getElem_cons_succ, List.getElem_cons_zero, List.setIfInBounds_toArray, List.set_cons_zero, List.set_cons_succ])
          refine wpAnyH_take (i := 56 ) (v := ?_) rfl (by kernel_rfl) (by kernel_rfl) (by kernel_rfl) (fun _ _ _ h => h) (Or.inl ⟨by rfl, ?_⟩) (by assumption) ?_; rotate_left; (· (intro w0 hSw; have a0 := hSw.1.cell 0; have a1 := hSw.1.cell 1; have b0 := hSw.2.cell 0; have b1 := hSw.2.cell 1; clear hSw; go_simp); first | done | with_reducible rfl); (try simp only [Act.put, List.getElem_toArray, List.getElem_cons_succ, List.getElem_cons_zero, List.setIfInBounds_toArray, List.set_cons_zero, List.set_cons_succ])
          refine wpAnyH_take (i := 57 ) (v := ?_) rfl (by kernel_rfl) (by kernel_rfl) (by kernel_rfl) (fun _ _ _ h => h) (Or.inl ⟨by rfl, ?_⟩) (by assumption) ?_; rotate_left; (· (intro w0 hSw; have a0 := hSw.1.cell 0; have a1 := hSw.1.cell 1; have b0 := hSw.2.cell 0; have b1 := hSw.2.cell 1; clear hSw; go_simp); first | done | with_reducible rfl); (try simp only [Act.put, List.getElem_toArray, List.getElem_cons_succ, List.getElem_cons_zero, List.setIfInBounds_toArray, List.set_cons_zero, List.set_cons_succ])
          refine wpAnyH_take (i := 58 ) (v := ?_) rfl (by kernel_rfl) (by kernel_rfl) (by kernel_rfl) (fun _ _ _ h => h) (Or.inl ⟨by rfl, ?_⟩) (by assumption) ?_; rotate_left; (· (intro w0 hSw; have a0 := hSw.1.cell 0; have a1 := hSw.1.cell 1; have b0 := hSw.2.cell 0; have b1 := hSw.2.cell 1; clear hSw; go_simp); first | done | with_reducible rfl); (try simp only [Act.put, List.getElem_toArray, List.getElem_cons_succ, List.getElem_cons_zero, List.setIfInBounds_toArray, List.set_cons_zero, List.set_cons_succ])
          refine wpAnyH_done (by kernel_rfl) ?_ _
          go_wp2_with fail
          exact bodyPost_ret (v := .bool true) (by simp [results, Try.results12, go_sem]) rfl ⟨rfl, HS.out.hb⟩
end Go.Proofs.Ytfpfafijockfnaa