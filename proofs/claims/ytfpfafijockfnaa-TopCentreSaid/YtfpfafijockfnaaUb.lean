/- The closure of TopCentre that draws a number out of a span. -/
import Derived.Test.YtfpfafijockfnaaUa
import Derived.Test.YtfpfafijockfnaaUg
namespace Go.Proofs.Ytfpfafijockfnaa
open Go.RowKit Go.Shelf

theorem u16_bd (n : Int) : 0 ≤ IntKind.u16.wrap n ∧ IntKind.u16.wrap n ≤ 65535 := by
  have h : IntKind.u16.wrap n = n % 65536 := by
    simp [IntKind.wrap, IntKind.signed, IntKind.bits]
  rw [h]
  omega
/-- What the closure needs: where it counts, and what it draws by. -/
structure PickS (ga gb B : Nat) (Y : Option Addr) (c : Nat) (ys : List Int) (k : Nat) (W : World) : Prop where
  ka : Blk W ga 3 #[.int .i64 (k : Int)]
  kb : Blk W gb 48 #[.slice Y ys.length c]
  sl : U16Sl W B Y ys
theorem PickS.keep {ga gb B : Nat} {Y : Option Addr} {c : Nat} {ys : List Int} {k : Nat} {W W' : World} (x : PickS ga gb B Y c ys k W) (hb : Below W.heap.size W W') (hB : B ≤ W.heap.size) : PickS ga gb B Y c ys k W' :=
  ⟨x.ka.below hb x.ka.lt, x.kb.below hb x.kb.lt, fun hne => by obtain ⟨b, off, e, hlt, hs⟩ := x.sl hne; exact ⟨b, off, e, hlt, hs.below hb (Nat.lt_of_lt_of_le hlt hB)⟩⟩
def RetPick (ga gb B : Nat) (Y : Option Addr) (c : Nat) (ys : List Int) (k : Nat) (lo hi : Int) (w : World) (e : Ending) (w' : World) : Prop := ∃ v : Int, e = .returned (.int .i64 v) ∧ (lo ≤ v ∧ v ≤ hi) ∧ PickS ga gb B Y c ys (k + 1) w' ∧ Keeps1 ga w w' ∧ Below ga w w'
set_option maxRecDepth 100000 in
set_option maxHeartbeats 2000000 in
theorem pick5_any (ga gb B : Nat) (Y : Option Addr) (c : Nat) (ys : List Int) (k : Nat) (lo hi : Int) (w : World) (hk : k ≤ 100) (h0 : -1000000 ≤ lo) (h1 : lo ≤ hi) (h2 : hi ≤ 1000000) (hy : ys ≠ []) (hyl : ys.length ≤ 9223372036854775807) (hyb : ∀ y ∈ ys, 0 ≤ y ∧ y ≤ 65535) (hS : PickS ga gb B Y c ys k w) (hgb : gb < ga) (hB : B ≤ gb) :
    Calls Try.prog 35 #[.agg #[.int .i64 lo, .int .i64 hi], .pointer (some ⟨ga, 0, none⟩), .pointer (some ⟨gb, 0, none⟩)] w (RetPick ga gb B Y c ys k lo hi w) := by
  obtain ⟨bY, oY, rfl, hbY, hat⟩ := hS.sl hy
  have hl1 : 0 < ys.length := List.length_pos_iff.2 hy
  obtain ⟨m, hm⟩ : ∃ m, (k + 1) % ys.length = m := ⟨_, rfl⟩
  have hml : m < ys.length := by rw [← hm]; exact Nat.mod_lt _ hl1
  have hcm := hat m hml
  have hyb2 := hyb ys[m] (List.getElem_mem hml)
  have hga := hS.ka.lt
  have hgbz := hS.kb.lt
  generalize ys[m] = y at *
  obtain ⟨v1, hv1⟩ : ∃ v, IntKind.u16.wrap ((k : Int) + 1) = v := ⟨_, rfl⟩
  obtain ⟨u, hu⟩ : ∃ v, IntKind.u16.wrap (y + v1) = v := ⟨_, rfl⟩
  have hub := u16_bd (y + v1)
  rw [hu] at hub
  have hb := pickV_bd (y := u) h1
  have HP : Hid (pickV lo hi u = lo + u % (hi - lo + 1)) := Lib.hid rfl
  have hr : u.tmod (hi - lo + 1) = u % (hi - lo + 1) := Int.tmod_eq_emod_of_nonneg hub.1
  have hm0 := Int.emod_nonneg u (show hi - lo + 1 ≠ 0 by omega)
  have hm1 := Int.emod_lt_of_pos u (show (0 : Int) < hi - lo + 1 by omega)
  have hw1 : IntKind.i64.wrap (hi - lo) = hi - lo := wr (by omega) (by omega)
  have hw2 : IntKind.i64.wrap (hi - lo + 1) = hi - lo + 1 := wr (by omega) (by omega)
  have hw3 : IntKind.i64.wrap u = u := wr (by omega) (by omega)
  have hn : (hi - lo + 1 == 0) = false := by rw [beq_eq_false_iff_ne]; omega
  have hn2 : hi - lo + 1 ≠ 0 := by omega
  have hrk : ((k : Int) + 1).tmod (ys.length : Int) = (m : Int) := by
    rw [Int.tmod_eq_emod_of_nonneg (by omega), ← hm]
    simp
  have hwk : IntKind.i64.wrap ((k : Int) + 1) = (k : Int) + 1 := wr (by omega) (by omega)
  have hwm : IntKind.i64.wrap (m : Int) = (m : Int) := wr (by omega) (by omega)
  have hnl : ((ys.length : Int) == 0) = false := by rw [beq_eq_false_iff_ne]; omega
  have hnl2 : (ys.length : Int) ≠ 0 := by omega
  have hml' : (m : Int) < ys.length := by omega
  have hm0' : (0 : Int) ≤ m := by omega
  generalize u % (hi - lo + 1) = r at *
  have hw4 : IntKind.i64.wrap r = r := wr (by omega) (by omega)
  have hw5 : IntKind.i64.wrap (lo + r) = lo + r := wr (by omega) (by omega)
  generalize pickV lo hi u = z at *
  have x0 := hS.ka.cell 0
  have x1 := hS.ka.frozen 0
  have hs3 : Below (w.setCell ⟨ga, 0, none⟩ (.int .i64 ((k : Int) + 1))).heap.size (w.setCell ⟨ga, 0, none⟩ (.int .i64 ((k : Int) + 1))) ((w.setCell ⟨ga, 0, none⟩ (.int .i64 ((k : Int) + 1))).alloc (.cells #[.int .i64 lo, .int .i64 hi] 23)) := (Below.refl _ _).alloc (Nat.le_refl _) _
  have hcm1 : (w.setCell ⟨ga, 0, none⟩ (.int .i64 ((k : Int) + 1))).cell? ⟨bY, oY + m, none⟩ = some (.int .u16 y) := (World.cell?_of_block (a := ⟨bY, oY + m, none⟩) (Below.heap_setCell _ _ _ _ (by simp only []; omega))).trans hcm
  have hW : PickS ga gb B (some ⟨bY, oY, none⟩) c ys (k + 1) ((w.setCell ⟨ga, 0, none⟩ (.int .i64 ((k : Int) + 1))).alloc (.cells #[.int .i64 lo, .int .i64 hi] 23)) := by
    refine PickS.keep ⟨?_, hS.kb.far (by simp only []; omega) _, fun hne => ⟨bY, oY, rfl, hbY, fun i hi => ?_⟩⟩ hs3 (by simp; omega)
    · exact hS.ka.set_ 0 (.int .i64 ((k : Int) + 1))
    · obtain ⟨b, off, e, hlt, hs⟩ := hS.sl hne
      cases e
      exact (World.cell?_of_block (a := ⟨bY, oY + i, none⟩) (Below.heap_setCell _ _ _ _ (by simp only []; omega))).trans (hs i hi)
  have hK : Keeps1 ga w ((w.setCell ⟨ga, 0, none⟩ (.int .i64 ((k : Int) + 1))).alloc (.cells #[.int .i64 lo, .int .i64 hi] 23)) := (Keeps1.set _ _ _).trans (.of_below hs3)
  have hBl : Below ga w ((w.setCell ⟨ga, 0, none⟩ (.int .i64 ((k : Int) + 1))).alloc (.cells #[.int .i64 lo, .int .i64 hi] 23)) := ((Below.refl ga w).setCell (by simp) _).alloc (by simp; omega) _
  have K3 : Blk ((w.setCell ⟨ga, 0, none⟩ (.int .i64 ((k : Int) + 1))).alloc (.cells #[.int .i64 lo, .int .i64 hi] 23)) w.heap.size 23 #[.int .i64 lo, .int .i64 hi] := by
    have h9 := Blk.new (w.setCell ⟨ga, 0, none⟩ (.int .i64 ((k : Int) + 1))) 23 #[.int .i64 lo, .int .i64 hi]
    rw [World.size_setCell] at h9
    exact h9
  have HW := Lib.hid hW
  have HKA : Hid (Blk ((w.setCell ⟨ga, 0, none⟩ (.int .i64 ((k : Int) + 1))).alloc (.cells #[.int .i64 lo, .int .i64 hi] 23)) ga 3 #[.int .i64 ((k : Int) + 1)]) := Lib.hid (by have h9 := hW.ka; rw [Int.natCast_add] at h9; exact h9)
  have HK := Lib.hid hK
  have HBl := Lib.hid hBl
  have HK3 := Lib.hid K3
  have HC : Hid (((w.setCell ⟨ga, 0, none⟩ (.int .i64 ((k : Int) + 1))).alloc (.cells #[.int .i64 lo, .int .i64 hi] 23)).cell? ⟨bY, oY + m, none⟩ = some (.int .u16 y)) := Lib.hid ((hs3.cell (p := ⟨bY, oY + m, none⟩) (by simp; omega)).trans hcm1)
  clear hS hs3 hW hK hBl K3 hat hcm hcm1 hm hbY
  go_enter Try.func35, Try.ntmps35
  go_wp2_with fail
  generalize World.alloc (World.setCell _ _ _) _ = V at HW HKA HK HBl HK3 HC ⊢
  refine wp_region_held_drew (S := fun W => Blk W w.heap.size 23 #[.int .i64 lo, .int .i64 hi] ∧ Blk W gb 48 #[.slice (some ⟨bY, oY, none⟩) ys.length c] ∧ Blk W ga 3 #[.int .i64 ((k : Int) + 1)] ∧ W.cell? ⟨bY, oY + m, none⟩ = some (.int .u16 y)) (by kernel_rfl) ⟨HK3.out, HW.out.kb, HKA.out, HC.out⟩ (fun hH0 => ?_)
  generalize hV0 : World.drew V = V0 at hH0 ⊢
  simp only [List.size_toArray, List.length_cons, List.length_nil, Nat.reduceAdd, Array.replicate_succ, Array.replicate_zero, List.push_toArray, List.nil_append, List.cons_append]
  refine wpAnyH_take (i := 0 ) (v := ?_) rfl (by kernel_rfl) (by kernel_rfl) (by kernel_rfl) (fun _ _ _ h => h) (Or.inl ⟨by rfl, ?_⟩) (by assumption) ?_; rotate_left; (· (intro w0 hSw; obtain ⟨k1, k2, k3, k4⟩ := hSw; have s0 := k1.cell 0; have s1 := k1.cell 1; have s2 := k2.cell 0; have s3 := k3.cell 0; clear k1 k2 k3; go_simp); first | done | with_reducible rfl); (try simp only [Act.put, List.getElem_toArray, List.getElem_cons_zero, List.setIfInBounds_toArray, List.set_cons_zero, List.set_cons_succ])
  refine wpAnyH_take (i := 1 ) (v := ?_) rfl (by kernel_rfl) (by kernel_rfl) (by kernel_rfl) (fun _ _ _ h => h) (Or.inl ⟨by rfl, ?_⟩) (by assumption) ?_; rotate_left; (· (intro w0 hSw; obtain ⟨k1, k2, k3, k4⟩ := hSw; have s0 := k1.cell 0; have s1 := k1.cell 1; have s2 := k2.cell 0; have s3 := k3.cell 0; clear k1 k2 k3; go_simp); first | done | with_reducible rfl); (try simp only [Act.put, List.getElem_toArray, List.getElem_cons_succ, List.getElem_cons_zero, List.setIfInBounds_toArray, List.set_cons_zero, List.set_cons_succ])
  refine wpAnyH_take (i := 2 ) (v := ?_) rfl (by kernel_rfl) (by kernel_rfl) (by kernel_rfl) (fun _ _ _ h => h) (Or.inl ⟨by rfl, ?_⟩) (by assumption) ?_; rotate_left; (· (intro w0 hSw; obtain ⟨k1, k2, k3, k4⟩ := hSw; have s0 := k1.cell 0; have s1 := k1.cell 1; have s2 := k2.cell 0; have s3 := k3.cell 0; clear k1 k2 k3; go_simp); first | done | with_reducible rfl); (try simp only [Act.put, List.getElem_toArray, List.getElem_cons_succ, List.getElem_cons_zero, List.setIfInBounds_toArray, List.set_cons_zero, List.set_cons_succ])
  refine wpAnyH_take (i := 3 ) (v := ?_) rfl (by kernel_rfl) (by kernel_rfl) (by kernel_rfl) (fun _ _ _ h => h) (Or.inl ⟨by rfl, ?_⟩) (by assumption) ?_; rotate_left; (· (intro w0 hSw; obtain ⟨k1, k2, k3, k4⟩ := hSw; have s0 := k1.cell 0; have s1 := k1.cell 1; have s2 := k2.cell 0; have s3 := k3.cell 0; clear k1 k2 k3; go_simp); first | done | with_reducible rfl); (try simp only [Act.put, List.getElem_toArray, List.getElem_cons_succ, List.getElem_cons_zero, List.setIfInBounds_toArray, List.set_cons_zero, List.set_cons_succ])
  refine wpAnyH_take (i := 4 ) (v := ?_) rfl (by kernel_rfl) (by kernel_rfl) (by kernel_rfl) (fun _ _ _ h => h) (Or.inl ⟨by rfl, ?_⟩) (by assumption) ?_; rotate_left; (· (intro w0 hSw; obtain ⟨k1, k2, k3, k4⟩ := hSw; have s0 := k1.cell 0; have s1 := k1.cell 1; have s2 := k2.cell 0; have s3 := k3.cell 0; clear k1 k2 k3; go_simp); first | done | with_reducible rfl); (try simp only [Act.put, List.getElem_toArray, List.getElem_cons_succ, List.getElem_cons_zero, List.setIfInBounds_toArray, List.set_cons_zero, List.set_cons_succ])
  refine wpAnyH_take (i := 5 ) (v := ?_) rfl (by kernel_rfl) (by kernel_rfl) (by kernel_rfl) (fun _ _ _ h => h) (Or.inl ⟨by rfl, ?_⟩) (by assumption) ?_; rotate_left; (· (intro w0 hSw; obtain ⟨k1, k2, k3, k4⟩ := hSw; have s0 := k1.cell 0; have s1 := k1.cell 1; have s2 := k2.cell 0; have s3 := k3.cell 0; clear k1 k2 k3; go_simp); first | done | with_reducible rfl); (try simp only [Act.put, List.getElem_toArray, List.getElem_cons_succ, List.getElem_cons_zero, List.setIfInBounds_toArray, List.set_cons_zero, List.set_cons_succ])
  refine wpAnyH_take (i := 6 ) (v := ?_) rfl (by kernel_rfl) (by kernel_rfl) (by kernel_rfl) (fun _ _ _ h => h) (Or.inl ⟨by rfl, ?_⟩) (by assumption) ?_; rotate_left; (· (intro w0 hSw; obtain ⟨k1, k2, k3, k4⟩ := hSw; have s0 := k1.cell 0; have s1 := k1.cell 1; have s2 := k2.cell 0; have s3 := k3.cell 0; clear k1 k2 k3; go_simp); first | done | with_reducible rfl); (try simp only [Act.put, List.getElem_toArray, List.getElem_cons_succ, List.getElem_cons_zero, List.setIfInBounds_toArray, List.set_cons_zero, List.set_cons_succ])
  refine wpAnyH_take (i := 7 ) (v := ?_) rfl (by kernel_rfl) (by kernel_rfl) (by kernel_rfl) (fun _ _ _ h => h) (Or.inl ⟨by rfl, ?_⟩) (by assumption) ?_; rotate_left; (· (intro w0 hSw; obtain ⟨k1, k2, k3, k4⟩ := hSw; have s0 := k1.cell 0; have s1 := k1.cell 1; have s2 := k2.cell 0; have s3 := k3.cell 0; clear k1 k2 k3; go_simp); first | done | with_reducible rfl); (try simp only [Act.put, List.getElem_toArray, List.getElem_cons_succ, List.getElem_cons_zero, List.setIfInBounds_toArray, List.set_cons_zero, List.set_cons_succ])
  refine wpAnyH_take (i := 8 ) (v := ?_) rfl (by kernel_rfl) (by kernel_rfl) (by kernel_rfl) (fun _ _ _ h => h) (Or.inl ⟨by rfl, ?_⟩) (by assumption) ?_; rotate_left; (· (intro w0 hSw; obtain ⟨k1, k2, k3, k4⟩ := hSw; have s0 := k1.cell 0; have s1 := k1.cell 1; have s2 := k2.cell 0; have s3 := k3.cell 0; clear k1 k2 k3; go_simp); first | done | with_reducible rfl); (try simp only [Act.put, List.getElem_toArray, List.getElem_cons_succ, List.getElem_cons_zero, List.setIfInBounds_toArray, List.set_cons_zero, List.set_cons_succ])
  refine wpAnyH_take (i := 9 ) (v := ?_) rfl (by kernel_rfl) (by kernel_rfl) (by kernel_rfl) (fun _ _ _ h => h) (Or.inl ⟨by rfl, ?_⟩) (by assumption) ?_; rotate_left; (· (intro w0 hSw; obtain ⟨k1, k2, k3, k4⟩ := hSw; have s0 := k1.cell 0; have s1 := k1.cell 1; have s2 := k2.cell 0; have s3 := k3.cell 0; clear k1 k2 k3; go_simp); first | done | with_reducible rfl); (try simp only [Act.put, List.getElem_toArray, List.getElem_cons_succ, List.getElem_cons_zero, List.setIfInBounds_toArray, List.set_cons_zero, List.set_cons_succ])
  refine wpAnyH_take (i := 10 ) (v := ?_) rfl (by kernel_rfl) (by kernel_rfl) (by kernel_rfl) (fun _ _ _ h => h) (Or.inl ⟨by rfl, ?_⟩) (by assumption) ?_; rotate_left; (· (intro w0 hSw; obtain ⟨k1, k2, k3, k4⟩ := hSw; have s0 := k1.cell 0; have s1 := k1.cell 1; have s2 := k2.cell 0; have s3 := k3.cell 0; clear k1 k2 k3; go_simp); first | done | with_reducible rfl); (try simp only [Act.put, List.getElem_toArray, List.getElem_cons_succ, List.getElem_cons_zero, List.setIfInBounds_toArray, List.set_cons_zero, List.set_cons_succ])
  refine wpAnyH_take (i := 11 ) (v := ?_) rfl (by kernel_rfl) (by kernel_rfl) (by kernel_rfl) (fun _ _ _ h => h) (Or.inl ⟨by rfl, ?_⟩) (by assumption) ?_; rotate_left; (· (intro w0 hSw; obtain ⟨k1, k2, k3, k4⟩ := hSw; have s0 := k1.cell 0; have s1 := k1.cell 1; have s2 := k2.cell 0; have s3 := k3.cell 0; clear k1 k2 k3; go_simp); first | done | with_reducible rfl); (try simp only [Act.put, List.getElem_toArray, List.getElem_cons_succ, List.getElem_cons_zero, List.setIfInBounds_toArray, List.set_cons_zero, List.set_cons_succ])
  refine wpAnyH_take (i := 12 ) (v := ?_) rfl (by kernel_rfl) (by kernel_rfl) (by kernel_rfl) (fun _ _ _ h => h) (Or.inl ⟨by rfl, ?_⟩) (by assumption) ?_; rotate_left; (· (intro w0 hSw; obtain ⟨k1, k2, k3, k4⟩ := hSw; have s0 := k1.cell 0; have s1 := k1.cell 1; have s2 := k2.cell 0; have s3 := k3.cell 0; clear k1 k2 k3; go_simp); first | done | with_reducible rfl); (try simp only [Act.put, List.getElem_toArray, List.getElem_cons_succ, List.getElem_cons_zero, List.setIfInBounds_toArray, List.set_cons_zero, List.set_cons_succ])
  refine wpAnyH_take (i := 13 ) (v := ?_) rfl (by kernel_rfl) (by kernel_rfl) (by kernel_rfl) (fun _ _ _ h => h) (Or.inl ⟨by rfl, ?_⟩) (by assumption) ?_; rotate_left; (· (intro w0 hSw; obtain ⟨k1, k2, k3, k4⟩ := hSw; have s0 := k1.cell 0; have s1 := k1.cell 1; have s2 := k2.cell 0; have s3 := k3.cell 0; clear k1 k2 k3; go_simp); first | done | with_reducible rfl); (try simp only [Act.put, List.getElem_toArray, List.getElem_cons_succ, List.getElem_cons_zero, List.setIfInBounds_toArray, List.set_cons_zero, List.set_cons_succ])
  refine wpAnyH_take (i := 14 ) (v := ?_) rfl (by kernel_rfl) (by kernel_rfl) (by kernel_rfl) (fun _ _ _ h => h) (Or.inl ⟨by rfl, ?_⟩) (by assumption) ?_; rotate_left; (· (intro w0 hSw; obtain ⟨k1, k2, k3, k4⟩ := hSw; have s0 := k1.cell 0; have s1 := k1.cell 1; have s2 := k2.cell 0; have s3 := k3.cell 0; clear k1 k2 k3; go_simp); first | done | with_reducible rfl); (try simp only [Act.put, List.getElem_toArray, List.getElem_cons_succ, List.getElem_cons_zero, List.setIfInBounds_toArray, List.set_cons_zero, List.set_cons_succ])
  refine wpAnyH_take (i := 15 ) (v := ?_) rfl (by kernel_rfl) (by kernel_rfl) (by kernel_rfl) (fun _ _ _ h => h) (Or.inl ⟨by rfl, ?_⟩) (by assumption) ?_; rotate_left; (· (intro w0 hSw; obtain ⟨k1, k2, k3, k4⟩ := hSw; have s0 := k1.cell 0; have s1 := k1.cell 1; have s2 := k2.cell 0; have s3 := k3.cell 0; clear k1 k2 k3; go_simp); first | done | with_reducible rfl); (try simp only [Act.put, List.getElem_toArray, List.getElem_cons_succ, List.getElem_cons_zero, List.setIfInBounds_toArray, List.set_cons_zero, List.set_cons_succ])
  refine wpAnyH_take (i := 16 ) (v := ?_) rfl (by kernel_rfl) (by kernel_rfl) (by kernel_rfl) (fun _ _ _ h => h) (Or.inl ⟨by rfl, ?_⟩) (by assumption) ?_; rotate_left; (· (intro w0 hSw; obtain ⟨k1, k2, k3, k4⟩ := hSw; have s0 := k1.cell 0; have s1 := k1.cell 1; have s2 := k2.cell 0; have s3 := k3.cell 0; clear k1 k2 k3; go_simp); first | done | with_reducible rfl); (try simp only [Act.put, List.getElem_toArray, List.getElem_cons_succ, List.getElem_cons_zero, List.setIfInBounds_toArray, List.set_cons_zero, List.set_cons_succ])
  refine wpAnyH_take (i := 17 ) (v := ?_) rfl (by kernel_rfl) (by kernel_rfl) (by kernel_rfl) (fun _ _ _ h => h) (Or.inl ⟨by rfl, ?_⟩) (by assumption) ?_; rotate_left; (· (intro w0 hSw; obtain ⟨k1, k2, k3, k4⟩ := hSw; have s0 := k1.cell 0; have s1 := k1.cell 1; have s2 := k2.cell 0; have s3 := k3.cell 0; clear k1 k2 k3; go_simp); first | done | with_reducible rfl); (try simp only [Act.put, List.getElem_toArray, List.getElem_cons_succ, List.getElem_cons_zero, List.setIfInBounds_toArray, List.set_cons_zero, List.set_cons_succ])
  refine wpAnyH_take (i := 18 ) (v := ?_) rfl (by kernel_rfl) (by kernel_rfl) (by kernel_rfl) (fun _ _ _ h => h) (Or.inl ⟨by rfl, ?_⟩) (by assumption) ?_; rotate_left; (· (intro w0 hSw; obtain ⟨k1, k2, k3, k4⟩ := hSw; have s0 := k1.cell 0; have s1 := k1.cell 1; have s2 := k2.cell 0; have s3 := k3.cell 0; clear k1 k2 k3; go_simp); first | done | with_reducible rfl); (try simp only [Act.put, List.getElem_toArray, List.getElem_cons_succ, List.getElem_cons_zero, List.setIfInBounds_toArray, List.set_cons_zero, List.set_cons_succ])
  refine wpAnyH_take (i := 19 ) (v := ?_) rfl (by kernel_rfl) (by kernel_rfl) (by kernel_rfl) (fun _ _ _ h => h) (Or.inl ⟨by rfl, ?_⟩) (by assumption) ?_; rotate_left; (· (intro w0 hSw; obtain ⟨k1, k2, k3, k4⟩ := hSw; have s0 := k1.cell 0; have s1 := k1.cell 1; have s2 := k2.cell 0; have s3 := k3.cell 0; clear k1 k2 k3; go_simp); first | done | with_reducible rfl); (try simp only [Act.put, List.getElem_toArray, List.getElem_cons_succ, List.getElem_cons_zero, List.setIfInBounds_toArray, List.set_cons_zero, List.set_cons_succ])
  refine wpAnyH_take (i := 20 ) (v := ?_) rfl (by kernel_rfl) (by kernel_rfl) (by kernel_rfl) (fun _ _ _ h => h) (Or.inl ⟨by rfl, ?_⟩) (by assumption) ?_; rotate_left; (· (intro w0 hSw; obtain ⟨k1, k2, k3, k4⟩ := hSw; have s0 := k1.cell 0; have s1 := k1.cell 1; have s2 := k2.cell 0; have s3 := k3.cell 0; clear k1 k2 k3; go_simp); first | done | with_reducible rfl); (try simp only [Act.put, List.getElem_toArray, List.getElem_cons_succ, List.getElem_cons_zero, List.setIfInBounds_toArray, List.set_cons_zero, List.set_cons_succ])
  refine wpAnyH_take (i := 21 ) (v := ?_) rfl (by kernel_rfl) (by kernel_rfl) (by kernel_rfl) (fun _ _ _ h => h) (Or.inl ⟨by rfl, ?_⟩) (by assumption) ?_; rotate_left; (· (intro w0 hSw; obtain ⟨k1, k2, k3, k4⟩ := hSw; have s0 := k1.cell 0; have s1 := k1.cell 1; have s2 := k2.cell 0; have s3 := k3.cell 0; clear k1 k2 k3; go_simp); first | done | with_reducible rfl); (try simp only [Act.put, List.getElem_toArray, List.getElem_cons_succ, List.getElem_cons_zero, List.setIfInBounds_toArray, List.set_cons_zero, List.set_cons_succ])
  refine wpAnyH_done (by kernel_rfl) ?_ _
  go_wp2_with fail
  go_ret
  exact ⟨z, ret_int HP.out.symm, hb, by rw [← hV0]; exact HW.out.keep (Below.refl _ _).drew (by have := HW.out.kb.lt; omega), by rw [← hV0]; exact HK.out.trans (.of_below (Below.refl _ _).drew), by rw [← hV0]; exact HBl.out.drew⟩
end Go.Proofs.Ytfpfafijockfnaa
