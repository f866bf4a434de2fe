/- Walks: the closure of the law BoxLack. -/
import Derived.Test.YthapgiajbonhgaaPk
namespace Go.Proofs.Ythapgiajbonhgaa
open Go.RowKit Go.Shelf

set_option maxRecDepth 100000 in
set_option maxHeartbeats 2000000 in
theorem lk1_any (w : World) (gb gn gl c d s : Nat) (A B : Option Addr) (need : List Int) (l : List Pile) (b : Int) (hs : s < 256) (hok : boxOk need l = true) (hb : 0 ≤ b ∧ b ≤ 1048576)
    (k1 : Blk w gb 3 #[.int .i64 b]) (k2 : Blk w gn 22 #[.slice A need.length c]) (k3 : Blk w gl 23 #[.slice B l.length d]) (hA : IntSl w w.heap.size A need) (hB : PileSl w w.heap.size B l) :
    Calls Try.prog 27 #[.int .i64 (s : Int), .pointer (some ⟨gb, 0, none⟩), .pointer (some ⟨gn, 0, none⟩), .pointer (some ⟨gl, 0, none⟩)] w (Ret (.int .i64 (lackS need l b s)) w) := by
  obtain ⟨hN, hP, hc1, hc8⟩ := ok_in hok
  have hn48 : ∀ n ∈ need, 0 ≤ n ∧ n ≤ 48 := by
    unfold boxOk at hok
    rw [Bool.and_eq_true] at hok
    exact (need_parts hok.1).2.1
  obtain ⟨n0, n1⟩ := needF_bd need s 0 hn48
  obtain ⟨h0, h1⟩ := has_bd9 hP s
  have HN := Lib.hid hN
  have HP := Lib.hid hP
  have HRD : Hid (∀ W9 : World, Below w.heap.size w W9 → W9.cell? ⟨gb, 0, none⟩ = some (.int .i64 b) ∧ W9.cell? ⟨gn, 0, none⟩ = some (.slice A need.length c) ∧ W9.cell? ⟨gl, 0, none⟩ = some (.slice B l.length d)) := Lib.hid fun W9 h9 => ⟨(k1.below h9 k1.lt).cell 0, (k2.below h9 k2.lt).cell 0, (k3.below h9 k3.lt).cell 0⟩
  have HA := Lib.hid hA
  have HB := Lib.hid hB
  have HNE : Hid (needS need s = needF need s 0) := Lib.hid rfl
  have HLE : Hid (b * needF need s 0 - hasS l s = lackS need l b s) := Lib.hid (by unfold lackS needS; rw [Int.mul_comm])
  have e0 : 0 ≤ b * needF need s 0 := Int.mul_nonneg hb.1 n0
  have e1 : b * needF need s 0 ≤ 1048576 * 384 := Int.mul_le_mul hb.2 (by omega) n0 (by omega)
  clear k1 k2 k3 hN hP hA hB hok hn48
  have hw1 : IntKind.i64.wrap (b * needF need s 0) = b * needF need s 0 := IntWalk.i64_in _ ⟨by omega, by omega⟩
  have hw2 : IntKind.i64.wrap (b * needF need s 0 - hasS l s) = b * needF need s 0 - hasS l s := IntWalk.i64_in _ ⟨by omega, by omega⟩
  go_enter Try.func27, Try.ntmps27
  go_upto_region 1 with fail
  have HD := Lib.hid ((Below.refl w.heap.size w).drew)
  refine wp_region_held_drew (S := fun W9 => Below w.heap.size w W9) (by kernel_rfl) HD.out (fun hH0 => ?_)
  generalize World.drew _ = V0 at *
  simp only [List.size_toArray, List.length_cons, List.length_nil, Nat.reduceAdd, Array.replicate_succ, Array.replicate_zero, List.push_toArray, List.nil_append, List.cons_append]
  refine wpAnyH_take (i := 0 ) (v := ?_) rfl (by kernel_rfl) (by kernel_rfl) (by kernel_rfl) (fun _ _ _ h => h) (Or.inl ⟨by rfl, ?_⟩) (by assumption) ?_; rotate_left; (· (intro w0 hSw; obtain ⟨y0, y1, y2⟩ := HRD.out _ hSw; clear hSw; go_simp); first | done | with_reducible rfl); (try simp only [Act.put, List.getElem_toArray, List.getElem_cons_zero, List.setIfInBounds_toArray, List.set_cons_zero, List.set_cons_succ])
  refine wpAnyH_take (i := 1 ) (v := ?_) rfl (by kernel_rfl) (by kernel_rfl) (by kernel_rfl) (fun _ _ _ h => h) (Or.inl ⟨by rfl, ?_⟩) (by assumption) ?_; rotate_left; (· (intro w0 hSw; obtain ⟨y0, y1, y2⟩ := HRD.out _ hSw; clear hSw; go_simp); first | done | with_reducible rfl); (try simp only [Act.put, List.getElem_toArray, List.getElem_cons_succ, List.getElem_cons_zero, List.setIfInBounds_toArray, List.set_cons_zero, List.set_cons_succ])
  refine wpAnyH_take (i := 2 ) (v := ?_) rfl (by kernel_rfl) (by kernel_rfl) (by kernel_rfl) (fun _ _ _ h => h) (Or.inl ⟨by rfl, ?_⟩) (by assumption) ?_; rotate_left; (· (intro w0 hSw; obtain ⟨y0, y1, y2⟩ := HRD.out _ hSw; clear hSw; go_simp); first | done | with_reducible rfl); (try simp only [Act.put, List.getElem_toArray, List.getElem_cons_succ, List.getElem_cons_zero, List.setIfInBounds_toArray, List.set_cons_zero, List.set_cons_succ])
  refine wpAnyH_take (i := 5 ) (v := ?_) rfl (by kernel_rfl) (by kernel_rfl) (by kernel_rfl) (fun _ _ _ h => h) (Or.inl ⟨by rfl, ?_⟩) (by assumption) ?_; rotate_left; (· (intro w0 hSw; obtain ⟨y0, y1, y2⟩ := HRD.out _ hSw; clear hSw; go_simp); first | done | with_reducible rfl); (try simp only [Act.put, List.getElem_toArray, List.getElem_cons_succ, List.getElem_cons_zero, List.setIfInBounds_toArray, List.set_cons_zero, List.set_cons_succ])
  refine wpAnyH_take (i := 6 ) (v := ?_) rfl (by kernel_rfl) (by kernel_rfl) (by kernel_rfl) (fun _ _ _ h => h) (Or.inl ⟨by rfl, ?_⟩) (by assumption) ?_; rotate_left; (· (intro w0 hSw; obtain ⟨y0, y1, y2⟩ := HRD.out _ hSw; clear hSw; go_simp); first | done | with_reducible rfl); (try simp only [Act.put, List.getElem_toArray, List.getElem_cons_succ, List.getElem_cons_zero, List.setIfInBounds_toArray, List.set_cons_zero, List.set_cons_succ])
  refine wpAnyH_ready (rs := [3]) (by kernel_rfl) (by simp) ?_
  refine AllReadyH.cons (by simp only [List.getElem?_toArray, List.getElem?_cons_succ, List.getElem?_cons_zero]; rfl) (fun K hK => ?_) AllReadyH.nil
  go_simp
  refine (rNeeds_any _ A c s need hs HN.out (HA.out.on HD.out (Nat.le_refl _))).mono ?_
  rintro e X9 ⟨rfl, rfl⟩
  rw [HNE.out]
  refine hK.out _ _ HD.out (fun hH1 => ?_)
  clear hK K
  try simp only [List.setIfInBounds_toArray, List.set_cons_zero, List.set_cons_succ]
  refine wpAnyH_take (i := 4 ) (v := ?_) rfl (by kernel_rfl) (by kernel_rfl) (by kernel_rfl) (fun _ _ _ h => h) (Or.inl ⟨by rfl, ?_⟩) (by assumption) ?_; rotate_left; (· (intro w0 hSw; obtain ⟨y0, y1, y2⟩ := HRD.out _ hSw; clear hSw; go_simp); first | done | with_reducible rfl); (try simp only [Act.put, List.getElem_toArray, List.getElem_cons_succ, List.getElem_cons_zero, List.setIfInBounds_toArray, List.set_cons_zero, List.set_cons_succ])
  refine wpAnyH_ready (rs := [7]) (by kernel_rfl) (by simp) ?_
  refine AllReadyH.cons (by simp only [List.getElem?_toArray, List.getElem?_cons_succ, List.getElem?_cons_zero]; rfl) (fun K hK => ?_) AllReadyH.nil
  go_simp
  refine (rOf_any _ B d s l hs HP.out (HB.out.on HD.out (Nat.le_refl _))).mono ?_
  rintro e X9 ⟨rfl, rfl⟩
  refine hK.out _ _ HD.out (fun hH2 => ?_)
  clear hK K
  try simp only [List.setIfInBounds_toArray, List.set_cons_zero, List.set_cons_succ]
  refine wpAnyH_take (i := 8 ) (v := ?_) rfl (by kernel_rfl) (by kernel_rfl) (by kernel_rfl) (fun _ _ _ h => h) (Or.inl ⟨by rfl, ?_⟩) (by assumption) ?_; rotate_left; (· (intro w0 hSw; obtain ⟨y0, y1, y2⟩ := HRD.out _ hSw; clear hSw; go_simp); first | done | with_reducible rfl); (try simp only [Act.put, List.getElem_toArray, List.getElem_cons_succ, List.getElem_cons_zero, List.setIfInBounds_toArray, List.set_cons_zero, List.set_cons_succ])
  refine wpAnyH_take (i := 9 ) (v := ?_) rfl (by kernel_rfl) (by kernel_rfl) (by kernel_rfl) (fun _ _ _ h => h) (Or.inl ⟨by rfl, ?_⟩) (by assumption) ?_; rotate_left; (· (intro w0 hSw; obtain ⟨y0, y1, y2⟩ := HRD.out _ hSw; clear hSw; go_simp); first | done | with_reducible rfl); (try simp only [Act.put, List.getElem_toArray, List.getElem_cons_succ, List.getElem_cons_zero, List.setIfInBounds_toArray, List.set_cons_zero, List.set_cons_succ])
  refine wpAnyH_done (by kernel_rfl) ?_ _
  rw [HLE.out]
  go_wp2_with fail
  go_ret
  exact ⟨rfl, HD.out⟩
end Go.Proofs.Ythapgiajbonhgaa
