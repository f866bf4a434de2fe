/- Walk of the document's own definition of whether a die does for a draw. -/
import Derived.Test.YtdadgljllnkppaaRt
namespace Go.Proofs.Ytdadgljllnkppaa
open Go.RowKit Go.Shelf

def RdS2 (p : Press) (A : Option Addr) (c q : Nat) (V : World) (x : Draw) (W : World) : Prop := PbS p A c q V W ∧ W.cell? ⟨q + 1, 0, none⟩ = some (.int .i64 x.len) ∧ W.cell? ⟨q + 1, 1, none⟩ = some (.int .i64 x.want.lo) ∧ W.cell? ⟨q + 1, 2, none⟩ = some (.int .i64 x.want.hi)
set_option maxRecDepth 100000 in
set_option maxHeartbeats 8000000 in
theorem rdoes_any (w : World) (A : Option Addr) (c : Nat) (p : Press) (k : Nat) (u : Int) (x : Draw) (hk : k < p.dies.length) (hA : DieSl w w.heap.size A p.dies) (hd : DieIn p.dies[k]) (hs : ShrIn p.shrink) (hx : drawOk x = true) (u0 : 0 ≤ u) (u1 : u ≤ 8000) :
    Calls Try.prog 74 #[.agg #[.slice A p.dies.length c, .int .i64 p.shrink.lo, .int .i64 p.shrink.hi, .int .i64 p.change], .int .i64 (k : Int), .int .i64 u, .agg #[.int .i64 x.len, .int .i64 x.want.lo, .int .i64 x.want.hi]] w (Ret (.bool (doesB p.dies[k] p.shrink x u)) w) := by
  simp only [drawOk, Bool.and_eq_true, fromB_iff, withinB_iff] at hx
  have hb0 : Below w.heap.size w ((w.alloc (.cells #[.slice A p.dies.length c, .int .i64 p.shrink.lo, .int .i64 p.shrink.hi, .int .i64 p.change] 26)).alloc (.cells #[.int .i64 x.len, .int .i64 x.want.lo, .int .i64 x.want.hi] 51)) := by repeat (first | exact Below.refl _ _ | assumption | refine Below.drew ?_ | refine Below.alloc ?_ (by first | omega | (simp only [World.size_alloc]; omega) | simp) _ | refine Below.setCell ?_ (by first | omega | (simp only [World.size_alloc]; omega) | simp) _)
  have hq0 : Blk ((w.alloc (.cells #[.slice A p.dies.length c, .int .i64 p.shrink.lo, .int .i64 p.shrink.hi, .int .i64 p.change] 26)).alloc (.cells #[.int .i64 x.len, .int .i64 x.want.lo, .int .i64 x.want.hi] 51)) w.heap.size 26 #[.slice A p.dies.length c, .int .i64 p.shrink.lo, .int .i64 p.shrink.hi, .int .i64 p.change] := (Blk.new _ _ _).alloc _
  have hz0 : Blk ((w.alloc (.cells #[.slice A p.dies.length c, .int .i64 p.shrink.lo, .int .i64 p.shrink.hi, .int .i64 p.change] 26)).alloc (.cells #[.int .i64 x.len, .int .i64 x.want.lo, .int .i64 x.want.hi] 51)) (w.heap.size + 1) 51 #[.int .i64 x.len, .int .i64 x.want.lo, .int .i64 x.want.hi] := blk_at _ _ (by simp)
  have HTN : Hid (∀ V, Below w.heap.size w V → Calls Try.prog 35 #[.agg #[.slice A p.dies.length c, .int .i64 p.shrink.lo, .int .i64 p.shrink.hi, .int .i64 p.change], .int .i64 (k : Int), .int .i64 u] V (Ret (.int .i64 (thin p.dies[k] p.shrink u)) V)) := Lib.hid fun V hV => rthin_any V A c p k u hk (hA.on hV (Nat.le_refl _)) hd hs u0 (by omega)
  have HTK : Hid (∀ V, Below w.heap.size w V → Calls Try.prog 36 #[.agg #[.slice A p.dies.length c, .int .i64 p.shrink.lo, .int .i64 p.shrink.hi, .int .i64 p.change], .int .i64 (k : Int), .int .i64 (u + x.len)] V (Ret (.int .i64 (thick p.dies[k] p.shrink (u + x.len))) V)) := Lib.hid fun V hV => rthick_any V A c p k (u + x.len) hk (hA.on hV (Nat.le_refl _)) hd hs (by omega) (by omega)
  have HD : Hid (doesB p.dies[k] p.shrink x u = (decide (1000 * x.want.lo ≤ thin p.dies[k] p.shrink u) && decide (thick p.dies[k] p.shrink (u + x.len) ≤ 1000 * x.want.hi))) := Lib.hid rfl
  have hq1 : IntKind.i64.wrap (1000 * x.want.lo) = 1000 * x.want.lo := wr (by omega) (by omega)
  have hq2 : IntKind.i64.wrap (1000 * x.want.hi) = 1000 * x.want.hi := wr (by omega) (by omega)
  have hq3 : IntKind.i64.wrap (u + x.len) = u + x.len := wr (by omega) (by omega)
  generalize doesB p.dies[k] p.shrink x u = db at *
  generalize thin p.dies[k] p.shrink u = tn at *
  generalize thick p.dies[k] p.shrink (u + x.len) = tk at *
  clear hx hA hd hs
  cases e1 : decide (1000 * x.want.lo ≤ tn) with
  | true =>
    rw [e1, Bool.true_and] at HD
    go_enter Try.func74, Try.ntmps74
    go_wp2_with fail
    generalize World.alloc (World.alloc w _) _ = V at hb0 hq0 hz0 ⊢
    have hS0 := PbS.of (Below.refl _ V) hq0
    have HS0 := Lib.hid hS0
    have HB1 := Lib.hid hb0
    have HZ1 := Lib.hid hz0
    have hS2 : PbS p A c w.heap.size V V ∧ V.cell? ⟨w.heap.size + 1, 0, none⟩ = some (.int .i64 x.len) ∧ V.cell? ⟨w.heap.size + 1, 1, none⟩ = some (.int .i64 x.want.lo) ∧ V.cell? ⟨w.heap.size + 1, 2, none⟩ = some (.int .i64 x.want.hi) := ⟨hS0, hz0.cell 0, hz0.cell 1, hz0.cell 2⟩
    unfold PbS at hS2
    clear hS0 hb0 hq0 hz0
    go_region_held3 (fun W => (Below V.heap.size V W ∧ W.cell? ⟨w.heap.size, 0, none⟩ = some (.slice A p.dies.length c) ∧ W.cell? ⟨w.heap.size, 1, none⟩ = some (.int .i64 p.shrink.lo) ∧ W.cell? ⟨w.heap.size, 2, none⟩ = some (.int .i64 p.shrink.hi) ∧ W.cell? ⟨w.heap.size, 3, none⟩ = some (.int .i64 p.change)) ∧ W.cell? ⟨w.heap.size + 1, 0, none⟩ = some (.int .i64 x.len) ∧ W.cell? ⟨w.heap.size + 1, 1, none⟩ = some (.int .i64 x.want.lo) ∧ W.cell? ⟨w.heap.size + 1, 2, none⟩ = some (.int .i64 x.want.hi)) (first | exact ⟨HS0.out.drew, HZ1.out.cell 0, HZ1.out.cell 1, HZ1.out.cell 2⟩ | exact ⟨HS2.out, HZ2.out.cell 0, HZ2.out.cell 1, HZ2.out.cell 2⟩ | exact ⟨HS3.out, HZ3.out.cell 0, HZ3.out.cell 1, HZ3.out.cell 2⟩ | assumption | fail "keep") (first | (go_at_call 35; (with_reducible refine (HTN.out _ HB1.out.drew).mono ?_); rintro e W2 ⟨rfl, hb⟩; have HS2 := Lib.hid (HS0.out.drew.call hb); have HB2 := Lib.hid (HB1.out.trans (HS2.out.1.mono HB1.out.size)); have HZ2 := Lib.hid (HZ1.out.below HS2.out.1 HZ1.out.lt); clear hb) | (go_at_call 36; (with_reducible refine (HTK.out _ HB2.out).mono ?_); rintro e W3 ⟨rfl, hb⟩; have HS3 := Lib.hid (HS2.out.call hb); have HB3 := Lib.hid (HB1.out.trans (HS3.out.1.mono HB1.out.size)); have HZ3 := Lib.hid (HZ1.out.below HS3.out.1 HZ1.out.lt); clear hb) | fail "no arm")
    clear hS2
    go_wp2_with fail
    go_ret
    exact ⟨ret_bool HD.out.symm, HB3.out⟩
  | false =>
    rw [e1, Bool.false_and] at HD
    go_enter Try.func74, Try.ntmps74
    go_wp2_with fail
    generalize World.alloc (World.alloc w _) _ = V at hb0 hq0 hz0 ⊢
    have hS0 := PbS.of (Below.refl _ V) hq0
    have HS0 := Lib.hid hS0
    have HB1 := Lib.hid hb0
    have HZ1 := Lib.hid hz0
    clear hS0 hb0 hq0 hz0
    refine wp_region_held_drew (S := RdS2 p A c w.heap.size V x) (by kernel_rfl) ⟨HS0.out.drew, HZ1.out.cell 0, HZ1.out.cell 1, HZ1.out.cell 2⟩ (fun hH0 => ?_)
    simp only [List.size_toArray, List.length_cons, List.length_nil, Nat.reduceAdd, Array.replicate_succ, Array.replicate_zero, List.push_toArray, List.nil_append, List.cons_append]
    refine wpAnyH_take (i := 0 ) (v := ?_) rfl (by kernel_rfl) (by kernel_rfl) (by kernel_rfl) (fun _ _ _ h => h) (Or.inl ⟨by rfl, ?_⟩) (by assumption) ?_; rotate_left; (· (intro w hSw; obtain ⟨⟨-, p0, p1, p2, p3⟩, q0, q1, q2⟩ := hSw; go_simp); first | done | with_reducible rfl); (try simp only [Act.put, List.getElem_toArray, List.getElem_cons_zero, List.setIfInBounds_toArray, List.set_cons_zero, List.set_cons_succ])
    refine wpAnyH_take (i := 1 ) (v := ?_) rfl (by kernel_rfl) (by kernel_rfl) (by kernel_rfl) (fun _ _ _ h => h) (Or.inl ⟨by rfl, ?_⟩) (by assumption) ?_; rotate_left; (· (intro w hSw; obtain ⟨⟨-, p0, p1, p2, p3⟩, q0, q1, q2⟩ := hSw; go_simp); first | done | with_reducible rfl); (try simp only [Act.put, List.getElem_toArray, List.getElem_cons_succ, List.getElem_cons_zero, List.setIfInBounds_toArray, List.set_cons_zero, List.set_cons_succ])
    refine wpAnyH_take (i := 2 ) (v := ?_) rfl (by kernel_rfl) (by kernel_rfl) (by kernel_rfl) (fun _ _ _ h => h) (Or.inl ⟨by rfl, ?_⟩) (by assumption) ?_; rotate_left; (· (intro w hSw; obtain ⟨⟨-, p0, p1, p2, p3⟩, q0, q1, q2⟩ := hSw; go_simp); first | done | with_reducible rfl); (try simp only [Act.put, List.getElem_toArray, List.getElem_cons_succ, List.getElem_cons_zero, List.setIfInBounds_toArray, List.set_cons_zero, List.set_cons_succ])
    refine wpAnyH_take (i := 4 ) (v := ?_) rfl (by kernel_rfl) (by kernel_rfl) (by kernel_rfl) (fun _ _ _ h => h) (Or.inl ⟨by rfl, ?_⟩) (by assumption) ?_; rotate_left; (· (intro w hSw; obtain ⟨⟨-, p0, p1, p2, p3⟩, q0, q1, q2⟩ := hSw; go_simp); first | done | with_reducible rfl); (try simp only [Act.put, List.getElem_toArray, List.getElem_cons_succ, List.getElem_cons_zero, List.setIfInBounds_toArray, List.set_cons_zero, List.set_cons_succ])
    refine wpAnyH_take (i := 5 ) (v := ?_) rfl (by kernel_rfl) (by kernel_rfl) (by kernel_rfl) (fun _ _ _ h => h) (Or.inl ⟨by rfl, ?_⟩) (by assumption) ?_; rotate_left; (· (intro w hSw; obtain ⟨⟨-, p0, p1, p2, p3⟩, q0, q1, q2⟩ := hSw; go_simp); first | done | with_reducible rfl); (try simp only [Act.put, List.getElem_toArray, List.getElem_cons_succ, List.getElem_cons_zero, List.setIfInBounds_toArray, List.set_cons_zero, List.set_cons_succ])
    refine wpAnyH_take (i := 6 ) (v := ?_) rfl (by kernel_rfl) (by kernel_rfl) (by kernel_rfl) (fun _ _ _ h => h) (Or.inl ⟨by rfl, ?_⟩) (by assumption) ?_; rotate_left; (· (intro w hSw; obtain ⟨⟨-, p0, p1, p2, p3⟩, q0, q1, q2⟩ := hSw; go_simp); first | done | with_reducible rfl); (try simp only [Act.put, List.getElem_toArray, List.getElem_cons_succ, List.getElem_cons_zero, List.setIfInBounds_toArray, List.set_cons_zero, List.set_cons_succ])
    refine wpAnyH_take (i := 7 ) (v := ?_) rfl (by kernel_rfl) (by kernel_rfl) (by kernel_rfl) (fun _ _ _ h => h) (Or.inl ⟨by rfl, ?_⟩) (by assumption) ?_; rotate_left; (· (intro w hSw; obtain ⟨⟨-, p0, p1, p2, p3⟩, q0, q1, q2⟩ := hSw; go_simp); first | done | with_reducible rfl); (try simp only [Act.put, List.getElem_toArray, List.getElem_cons_succ, List.getElem_cons_zero, List.setIfInBounds_toArray, List.set_cons_zero, List.set_cons_succ])
    refine wpAnyH_ready (rs := [3]) (by kernel_rfl) (by simp) ?_
    refine AllReadyH.cons rfl (fun K hK => ?_) ?_
    · go_simp
      refine (HTN.out _ HB1.out.drew).mono ?_
      rintro e W2 ⟨rfl, hb⟩
      have HS2 := Lib.hid (HS0.out.drew.call hb)
      have HB2 := Lib.hid (HB1.out.trans (HS2.out.1.mono HB1.out.size))
      have HZ2 := Lib.hid (HZ1.out.below HS2.out.1 HZ1.out.lt)
      clear hb
      refine hK.out _ _ ⟨HS2.out, HZ2.out.cell 0, HZ2.out.cell 1, HZ2.out.cell 2⟩ (fun hH1 => ?_)
      clear hK K hH0
      try simp only [List.setIfInBounds_toArray, List.set_cons_zero, List.set_cons_succ]
      refine wpAnyH_take (i := 8 ) (v := ?_) rfl (by kernel_rfl) (by kernel_rfl) (by kernel_rfl) (fun _ _ _ h => h) (Or.inl ⟨by rfl, ?_⟩) (by assumption) ?_; rotate_left; (· (intro w hSw; obtain ⟨⟨-, p0, p1, p2, p3⟩, q0, q1, q2⟩ := hSw; go_simp); first | done | with_reducible rfl); (try simp only [Act.put, List.getElem_toArray, List.getElem_cons_succ, List.getElem_cons_zero, List.setIfInBounds_toArray, List.set_cons_zero, List.set_cons_succ])
      refine wpAnyH_take (i := 9 ) (v := ?_) rfl (by kernel_rfl) (by kernel_rfl) (by kernel_rfl) (fun _ _ _ h => h) (Or.inl ⟨by rfl, ?_⟩) (by assumption) ?_; rotate_left; (· (intro w hSw; obtain ⟨⟨-, p0, p1, p2, p3⟩, q0, q1, q2⟩ := hSw; go_simp); first | done | with_reducible rfl); (try simp only [Act.put, List.getElem_toArray, List.getElem_cons_succ, List.getElem_cons_zero, List.setIfInBounds_toArray, List.set_cons_zero, List.set_cons_succ])
      refine wpAnyH_take (i := 10) (v := undef) rfl (by kernel_rfl) (by kernel_rfl) (by kernel_rfl) (fun _ _ _ h => h) (Or.inr ⟨by rfl, rfl⟩) (by assumption) ?_; (try simp only [Act.put, List.getElem_toArray, List.getElem_cons_succ, List.getElem_cons_zero, List.setIfInBounds_toArray, List.set_cons_zero, List.set_cons_succ])
      refine wpAnyH_take (i := 11) (v := undef) rfl (by kernel_rfl) (by kernel_rfl) (by kernel_rfl) (fun _ _ _ h => h) (Or.inr ⟨by rfl, rfl⟩) (by assumption) ?_; (try simp only [Act.put, List.getElem_toArray, List.getElem_cons_succ, List.getElem_cons_zero, List.setIfInBounds_toArray, List.set_cons_zero, List.set_cons_succ])
      refine wpAnyH_take (i := 12) (v := undef) rfl (by kernel_rfl) (by kernel_rfl) (by kernel_rfl) (fun _ _ _ h => h) (Or.inr ⟨by rfl, rfl⟩) (by assumption) ?_; (try simp only [Act.put, List.getElem_toArray, List.getElem_cons_succ, List.getElem_cons_zero, List.setIfInBounds_toArray, List.set_cons_zero, List.set_cons_succ])
      refine wpAnyH_take (i := 13) (v := undef) rfl (by kernel_rfl) (by kernel_rfl) (by kernel_rfl) (fun _ _ _ h => h) (Or.inr ⟨by rfl, rfl⟩) (by assumption) ?_; (try simp only [Act.put, List.getElem_toArray, List.getElem_cons_succ, List.getElem_cons_zero, List.setIfInBounds_toArray, List.set_cons_zero, List.set_cons_succ])
      refine wpAnyH_take (i := 14) (v := undef) rfl (by kernel_rfl) (by kernel_rfl) (by kernel_rfl) (fun _ _ _ h => h) (Or.inr ⟨by rfl, rfl⟩) (by assumption) ?_; (try simp only [Act.put, List.getElem_toArray, List.getElem_cons_succ, List.getElem_cons_zero, List.setIfInBounds_toArray, List.set_cons_zero, List.set_cons_succ])
      refine wpAnyH_take (i := 15) (v := undef) rfl (by kernel_rfl) (by kernel_rfl) (by kernel_rfl) (fun _ _ _ h => h) (Or.inr ⟨by rfl, rfl⟩) (by assumption) ?_; (try simp only [Act.put, List.getElem_toArray, List.getElem_cons_succ, List.getElem_cons_zero, List.setIfInBounds_toArray, List.set_cons_zero, List.set_cons_succ])
      refine wpAnyH_take (i := 16) (v := undef) rfl (by kernel_rfl) (by kernel_rfl) (by kernel_rfl) (fun _ _ _ h => h) (Or.inr ⟨by rfl, rfl⟩) (by assumption) ?_; (try simp only [Act.put, List.getElem_toArray, List.getElem_cons_succ, List.getElem_cons_zero, List.setIfInBounds_toArray, List.set_cons_zero, List.set_cons_succ])
      refine wpAnyH_take (i := 17) (v := undef) rfl (by kernel_rfl) (by kernel_rfl) (by kernel_rfl) (fun _ _ _ h => h) (Or.inr ⟨by rfl, rfl⟩) (by assumption) ?_; (try simp only [Act.put, List.getElem_toArray, List.getElem_cons_succ, List.getElem_cons_zero, List.setIfInBounds_toArray, List.set_cons_zero, List.set_cons_succ])
      refine wpAnyH_take (i := 18) (v := undef) rfl (by kernel_rfl) (by kernel_rfl) (by kernel_rfl) (fun _ _ _ h => h) (Or.inr ⟨by rfl, rfl⟩) (by assumption) ?_; (try simp only [Act.put, List.getElem_toArray, List.getElem_cons_succ, List.getElem_cons_zero, List.setIfInBounds_toArray, List.set_cons_zero, List.set_cons_succ])
      refine wpAnyH_take (i := 19) (v := undef) rfl (by kernel_rfl) (by kernel_rfl) (by kernel_rfl) (fun _ _ _ h => h) (Or.inr ⟨by rfl, rfl⟩) (by assumption) ?_; (try simp only [Act.put, List.getElem_toArray, List.getElem_cons_succ, List.getElem_cons_zero, List.setIfInBounds_toArray, List.set_cons_zero, List.set_cons_succ])
      refine wpAnyH_take (i := 20) (v := undef) rfl (by kernel_rfl) (by kernel_rfl) (by kernel_rfl) (fun _ _ _ h => h) (Or.inr ⟨by rfl, rfl⟩) (by assumption) ?_; (try simp only [Act.put, List.getElem_toArray, List.getElem_cons_succ, List.getElem_cons_zero, List.setIfInBounds_toArray, List.set_cons_zero, List.set_cons_succ])
      refine wpAnyH_take (i := 21) (v := undef) rfl (by kernel_rfl) (by kernel_rfl) (by kernel_rfl) (fun _ _ _ h => h) (Or.inr ⟨by rfl, rfl⟩) (by assumption) ?_; (try simp only [Act.put, List.getElem_toArray, List.getElem_cons_succ, List.getElem_cons_zero, List.setIfInBounds_toArray, List.set_cons_zero, List.set_cons_succ])
      refine wpAnyH_take (i := 22 ) (v := ?_) rfl (by kernel_rfl) (by kernel_rfl) (by kernel_rfl) (fun _ _ _ h => h) (Or.inl ⟨by rfl, ?_⟩) (by assumption) ?_; rotate_left; (· (intro w hSw; obtain ⟨⟨-, p0, p1, p2, p3⟩, q0, q1, q2⟩ := hSw; go_simp); first | done | with_reducible rfl); (try simp only [Act.put, List.getElem_toArray, List.getElem_cons_succ, List.getElem_cons_zero, List.setIfInBounds_toArray, List.set_cons_zero, List.set_cons_succ])
      refine wpAnyH_take (i := 23 ) (v := ?_) rfl (by kernel_rfl) (by kernel_rfl) (by kernel_rfl) (fun _ _ _ h => h) (Or.inl ⟨by rfl, ?_⟩) (by assumption) ?_; rotate_left; (· (intro w hSw; obtain ⟨⟨-, p0, p1, p2, p3⟩, q0, q1, q2⟩ := hSw; go_simp); first | done | with_reducible rfl); (try simp only [Act.put, List.getElem_toArray, List.getElem_cons_succ, List.getElem_cons_zero, List.setIfInBounds_toArray, List.set_cons_zero, List.set_cons_succ])
      refine wpAnyH_done (by kernel_rfl) ?_ _
      go_wp2_with fail
      go_ret
      exact ⟨ret_bool HD.out.symm, HB2.out⟩
    · exact AllReadyH.nil
end Go.Proofs.Ytdadgljllnkppaa
