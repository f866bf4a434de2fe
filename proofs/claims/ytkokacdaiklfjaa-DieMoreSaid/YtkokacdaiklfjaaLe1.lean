/- The law DieEnds: its closure, whether a lead is surely within a span after so many hundreds of metres. -/
import Derived.Test.YtkokacdaiklfjaaPd
import Derived.Test.YtkokacdaiklfjaaRd2
namespace Go.Proofs.Ytkokacdaiklfjaa
open Go.RowKit Go.Shelf

def GdS (p : Press) (A : Option Addr) (c q1 q2 q3 k : Nat) (V : World) (x : Span) (W : World) : Prop := PbS p A c q1 V W ∧ W.cell? ⟨q2, 0, none⟩ = some (.int .i64 (k : Int)) ∧ W.cell? ⟨q3, 0, none⟩ = some (.int .i64 x.lo) ∧ W.cell? ⟨q3, 1, none⟩ = some (.int .i64 x.hi)
set_option maxRecDepth 100000 in
set_option maxHeartbeats 8000000 in
theorem goodc_any (w : World) (A : Option Addr) (c q1 q2 q3 : Nat) (p : Press) (k : Nat) (u : Int) (x : Span) (hk : k < p.dies.length) (hq : Blk w q1 26 #[.slice A p.dies.length c, .int .i64 p.shrink.lo, .int .i64 p.shrink.hi, .int .i64 p.change]) (hn : Blk w q2 3 #[.int .i64 (k : Int)]) (hz : Blk w q3 24 #[.int .i64 x.lo, .int .i64 x.hi]) (hA : DieSl w w.heap.size A p.dies) (hd : DieIn p.dies[k]) (hs : ShrIn p.shrink) (x0 : 0 ≤ x.lo) (x1 : x.lo ≤ 20000) (y0 : 0 ≤ x.hi) (y1 : x.hi ≤ 20000) (u0 : 0 ≤ u) (u1 : u ≤ 8000) :
    Calls Try.prog 26 #[.int .i64 u, .pointer (some ⟨q1, 0, none⟩), .pointer (some ⟨q2, 0, none⟩), .pointer (some ⟨q3, 0, none⟩)] w (Ret (.bool (goodB p.dies[k] p.shrink x u)) w) := by
  have HTN : Hid (∀ V, Below w.heap.size w V → Calls Try.prog 27 #[.agg #[.slice A p.dies.length c, .int .i64 p.shrink.lo, .int .i64 p.shrink.hi, .int .i64 p.change], .int .i64 (k : Int), .int .i64 u] V (Ret (.int .i64 (thin p.dies[k] p.shrink u)) V)) := Lib.hid fun V hV => rthin_any V A c p k u hk (hA.on hV (Nat.le_refl _)) hd hs u0 (by omega)
  have HTK : Hid (∀ V, Below w.heap.size w V → Calls Try.prog 28 #[.agg #[.slice A p.dies.length c, .int .i64 p.shrink.lo, .int .i64 p.shrink.hi, .int .i64 p.change], .int .i64 (k : Int), .int .i64 u] V (Ret (.int .i64 (thick p.dies[k] p.shrink u)) V)) := Lib.hid fun V hV => rthick_any V A c p k u hk (hA.on hV (Nat.le_refl _)) hd hs u0 (by omega)
  have HD : Hid (goodB p.dies[k] p.shrink x u = (decide (1000 * x.lo ≤ thin p.dies[k] p.shrink u) && decide (thick p.dies[k] p.shrink u ≤ 1000 * x.hi))) := Lib.hid rfl
  have hw1 : IntKind.i64.wrap (1000 * x.lo) = 1000 * x.lo := wr (by omega) (by omega)
  have hw2 : IntKind.i64.wrap (1000 * x.hi) = 1000 * x.hi := wr (by omega) (by omega)
  have HS0 := Lib.hid (PbS.of (Below.refl _ w) hq)
  have HN1 := Lib.hid hn
  have HZ1 := Lib.hid hz
  generalize goodB p.dies[k] p.shrink x u = db at *
  generalize thin p.dies[k] p.shrink u = tn at *
  generalize thick p.dies[k] p.shrink u = tk at *
  clear hA hd hs hq hn hz x0 x1 y0 y1
  cases e1 : decide (1000 * x.lo ≤ tn) with
  | true =>
    rw [e1, Bool.true_and] at HD
    go_enter Try.func26, Try.ntmps26
    go_wp2_with fail
    have hS2 : PbS p A c q1 w w ∧ w.cell? ⟨q2, 0, none⟩ = some (.int .i64 (k : Int)) ∧ w.cell? ⟨q3, 0, none⟩ = some (.int .i64 x.lo) ∧ w.cell? ⟨q3, 1, none⟩ = some (.int .i64 x.hi) := ⟨HS0.out, HN1.out.cell 0, HZ1.out.cell 0, HZ1.out.cell 1⟩
    unfold PbS at hS2
    go_region_held3 (fun W => (Below w.heap.size w W ∧ W.cell? ⟨q1, 0, none⟩ = some (.slice A p.dies.length c) ∧ W.cell? ⟨q1, 1, none⟩ = some (.int .i64 p.shrink.lo) ∧ W.cell? ⟨q1, 2, none⟩ = some (.int .i64 p.shrink.hi) ∧ W.cell? ⟨q1, 3, none⟩ = some (.int .i64 p.change)) ∧ W.cell? ⟨q2, 0, none⟩ = some (.int .i64 (k : Int)) ∧ W.cell? ⟨q3, 0, none⟩ = some (.int .i64 x.lo) ∧ W.cell? ⟨q3, 1, none⟩ = some (.int .i64 x.hi)) (first | exact ⟨HS0.out.drew, HN1.out.cell 0, HZ1.out.cell 0, HZ1.out.cell 1⟩ | exact ⟨HS2.out, HN2.out.cell 0, HZ2.out.cell 0, HZ2.out.cell 1⟩ | exact ⟨HS3.out, HN3.out.cell 0, HZ3.out.cell 0, HZ3.out.cell 1⟩ | assumption | fail "keep") (first | (go_at_call 27; (with_reducible refine (HTN.out _ (Below.refl _ w).drew).mono ?_); rintro e W2 ⟨rfl, hb⟩; have HS2 := Lib.hid (HS0.out.drew.call hb); have HB2 := Lib.hid HS2.out.1; have HN2 := Lib.hid (HN1.out.below HS2.out.1 HN1.out.lt); have HZ2 := Lib.hid (HZ1.out.below HS2.out.1 HZ1.out.lt); clear hb) | (go_at_call 28; (with_reducible refine (HTK.out _ HB2.out).mono ?_); rintro e W3 ⟨rfl, hb⟩; have HS3 := Lib.hid (HS2.out.call hb); have HN3 := Lib.hid (HN1.out.below HS3.out.1 HN1.out.lt); have HZ3 := Lib.hid (HZ1.out.below HS3.out.1 HZ1.out.lt); clear hb) | fail "no arm")
    clear hS2
    go_wp2_with fail
    go_ret
    exact ⟨ret_bool HD.out.symm, HS3.out.1⟩
  | false =>
    rw [e1, Bool.false_and] at HD
    go_enter Try.func26, Try.ntmps26
    go_wp2_with fail
    refine wp_region_held_drew (S := GdS p A c q1 q2 q3 k w x) (by kernel_rfl) ⟨HS0.out.drew, HN1.out.cell 0, HZ1.out.cell 0, HZ1.out.cell 1⟩ (fun hH0 => ?_)
    simp only [List.size_toArray, List.length_cons, List.length_nil, Nat.reduceAdd, Array.replicate_succ, Array.replicate_zero, List.push_toArray, List.nil_append, List.cons_append]
    refine wpAnyH_take (i := 0 ) (v := ?_) rfl (by kernel_rfl) (by kernel_rfl) (by kernel_rfl) (fun _ _ _ h => h) (Or.inl ⟨by rfl, ?_⟩) (by assumption) ?_; rotate_left; (· (intro w hSw; obtain ⟨⟨-, p0, p1, p2, p3⟩, n0, z0, z1⟩ := hSw; go_simp); first | done | with_reducible rfl); (try simp only [Act.put, List.getElem_toArray, List.getElem_cons_zero, List.setIfInBounds_toArray, List.set_cons_zero, List.set_cons_succ])
    refine wpAnyH_take (i := 1 ) (v := ?_) rfl (by kernel_rfl) (by kernel_rfl) (by kernel_rfl) (fun _ _ _ h => h) (Or.inl ⟨by rfl, ?_⟩) (by assumption) ?_; rotate_left; (· (intro w hSw; obtain ⟨⟨-, p0, p1, p2, p3⟩, n0, z0, z1⟩ := hSw; go_simp); first | done | with_reducible rfl); (try simp only [Act.put, List.getElem_toArray, List.getElem_cons_succ, List.getElem_cons_zero, List.setIfInBounds_toArray, List.set_cons_zero, List.set_cons_succ])
    refine wpAnyH_take (i := 2 ) (v := ?_) rfl (by kernel_rfl) (by kernel_rfl) (by kernel_rfl) (fun _ _ _ h => h) (Or.inl ⟨by rfl, ?_⟩) (by assumption) ?_; rotate_left; (· (intro w hSw; obtain ⟨⟨-, p0, p1, p2, p3⟩, n0, z0, z1⟩ := hSw; go_simp); first | done | with_reducible rfl); (try simp only [Act.put, List.getElem_toArray, List.getElem_cons_succ, List.getElem_cons_zero, List.setIfInBounds_toArray, List.set_cons_zero, List.set_cons_succ])
    refine wpAnyH_take (i := 4 ) (v := ?_) rfl (by kernel_rfl) (by kernel_rfl) (by kernel_rfl) (fun _ _ _ h => h) (Or.inl ⟨by rfl, ?_⟩) (by assumption) ?_; rotate_left; (· (intro w hSw; obtain ⟨⟨-, p0, p1, p2, p3⟩, n0, z0, z1⟩ := hSw; go_simp); first | done | with_reducible rfl); (try simp only [Act.put, List.getElem_toArray, List.getElem_cons_succ, List.getElem_cons_zero, List.setIfInBounds_toArray, List.set_cons_zero, List.set_cons_succ])
    refine wpAnyH_take (i := 5 ) (v := ?_) rfl (by kernel_rfl) (by kernel_rfl) (by kernel_rfl) (fun _ _ _ h => h) (Or.inl ⟨by rfl, ?_⟩) (by assumption) ?_; rotate_left; (· (intro w hSw; obtain ⟨⟨-, p0, p1, p2, p3⟩, n0, z0, z1⟩ := hSw; go_simp); first | done | with_reducible rfl); (try simp only [Act.put, List.getElem_toArray, List.getElem_cons_succ, List.getElem_cons_zero, List.setIfInBounds_toArray, List.set_cons_zero, List.set_cons_succ])
    refine wpAnyH_take (i := 6 ) (v := ?_) rfl (by kernel_rfl) (by kernel_rfl) (by kernel_rfl) (fun _ _ _ h => h) (Or.inl ⟨by rfl, ?_⟩) (by assumption) ?_; rotate_left; (· (intro w hSw; obtain ⟨⟨-, p0, p1, p2, p3⟩, n0, z0, z1⟩ := hSw; go_simp); first | done | with_reducible rfl); (try simp only [Act.put, List.getElem_toArray, List.getElem_cons_succ, List.getElem_cons_zero, List.setIfInBounds_toArray, List.set_cons_zero, List.set_cons_succ])
    refine wpAnyH_ready (rs := [3]) (by kernel_rfl) (by simp) ?_
    refine AllReadyH.cons rfl (fun K hK => ?_) ?_
    · go_simp
      refine (HTN.out _ (Below.refl _ w).drew).mono ?_
      rintro e W2 ⟨rfl, hb⟩
      have HS2 := Lib.hid (HS0.out.drew.call hb)
      have HN2 := Lib.hid (HN1.out.below HS2.out.1 HN1.out.lt)
      have HZ2 := Lib.hid (HZ1.out.below HS2.out.1 HZ1.out.lt)
      clear hb
      refine hK.out _ _ ⟨HS2.out, HN2.out.cell 0, HZ2.out.cell 0, HZ2.out.cell 1⟩ (fun hH1 => ?_)
      clear hK K hH0
      try simp only [List.setIfInBounds_toArray, List.set_cons_zero, List.set_cons_succ]
      refine wpAnyH_take (i := 7 ) (v := ?_) rfl (by kernel_rfl) (by kernel_rfl) (by kernel_rfl) (fun _ _ _ h => h) (Or.inl ⟨by rfl, ?_⟩) (by assumption) ?_; rotate_left; (· (intro w hSw; obtain ⟨⟨-, p0, p1, p2, p3⟩, n0, z0, z1⟩ := hSw; go_simp); first | done | with_reducible rfl); (try simp only [Act.put, List.getElem_toArray, List.getElem_cons_succ, List.getElem_cons_zero, List.setIfInBounds_toArray, List.set_cons_zero, List.set_cons_succ])
      refine wpAnyH_take (i := 8 ) (v := ?_) rfl (by kernel_rfl) (by kernel_rfl) (by kernel_rfl) (fun _ _ _ h => h) (Or.inl ⟨by rfl, ?_⟩) (by assumption) ?_; rotate_left; (· (intro w hSw; obtain ⟨⟨-, p0, p1, p2, p3⟩, n0, z0, z1⟩ := hSw; go_simp); first | done | with_reducible rfl); (try simp only [Act.put, List.getElem_toArray, List.getElem_cons_succ, List.getElem_cons_zero, List.setIfInBounds_toArray, List.set_cons_zero, List.set_cons_succ])
      refine wpAnyH_take (i := 9) (v := undef) rfl (by kernel_rfl) (by kernel_rfl) (by kernel_rfl) (fun _ _ _ h => h) (Or.inr ⟨by rfl, rfl⟩) (by assumption) ?_; (try simp only [Act.put, List.getElem_toArray, List.getElem_cons_succ, List.getElem_cons_zero, List.setIfInBounds_toArray, List.set_cons_zero, List.set_cons_succ])
      refine wpAnyH_take (i := 10) (v := undef) rfl (by kernel_rfl) (by kernel_rfl) (by kernel_rfl) (fun _ _ _ h => h) (Or.inr ⟨by rfl, rfl⟩) (by assumption) ?_; (try simp only [Act.put, List.getElem_toArray, List.getElem_cons_succ, List.getElem_cons_zero, List.setIfInBounds_toArray, List.set_cons_zero, List.set_cons_succ])
      refine wpAnyH_take (i := 11) (v := undef) rfl (by kernel_rfl) (by kernel_rfl) (by kernel_rfl) (fun _ _ _ h => h) (Or.inr ⟨by rfl, rfl⟩) (by assumption) ?_; (try simp only [Act.put, List.getElem_toArray, List.getElem_cons_succ, List.getElem_cons_zero, List.setIfInBounds_toArray, List.set_cons_zero, List.set_cons_succ])
      refine wpAnyH_take (i := 12) (v := undef) rfl (by kernel_rfl) (by kernel_rfl) (by kernel_rfl) (fun _ _ _ h => h) (Or.inr ⟨by rfl, rfl⟩) (by assumption) ?_; (try simp only [Act.put, List.getElem_toArray, List.getElem_cons_succ, List.getElem_cons_zero, List.setIfInBounds_toArray, List.set_cons_zero, List.set_cons_succ])
      refine wpAnyH_take (i := 13) (v := undef) rfl (by kernel_rfl) (by kernel_rfl) (by kernel_rfl) (fun _ _ _ h => h) (Or.inr ⟨by rfl, rfl⟩) (by assumption) ?_; (try simp only [Act.put, List.getElem_toArray, List.getElem_cons_succ, List.getElem_cons_zero, List.setIfInBounds_toArray, List.set_cons_zero, List.set_cons_succ])
      refine wpAnyH_take (i := 14) (v := undef) rfl (by kernel_rfl) (by kernel_rfl) (by kernel_rfl) (fun _ _ _ h => h) (Or.inr ⟨by rfl, rfl⟩) (by assumption) ?_; (try simp only [Act.put, List.getElem_toArray, List.getElem_cons_succ, List.getElem_cons_zero, List.setIfInBounds_toArray, List.set_cons_zero, List.set_cons_succ])
      refine wpAnyH_take (i := 15) (v := undef) rfl (by kernel_rfl) (by kernel_rfl) (by kernel_rfl) (fun _ _ _ h => h) (Or.inr ⟨by rfl, rfl⟩) (by assumption) ?_; (try simp only [Act.put, List.getElem_toArray, List.getElem_cons_succ, List.getElem_cons_zero, List.setIfInBounds_toArray, List.set_cons_zero, List.set_cons_succ])
      refine wpAnyH_take (i := 16) (v := undef) rfl (by kernel_rfl) (by kernel_rfl) (by kernel_rfl) (fun _ _ _ h => h) (Or.inr ⟨by rfl, rfl⟩) (by assumption) ?_; (try simp only [Act.put, List.getElem_toArray, List.getElem_cons_succ, List.getElem_cons_zero, List.setIfInBounds_toArray, List.set_cons_zero, List.set_cons_succ])
      refine wpAnyH_take (i := 17 ) (v := ?_) rfl (by kernel_rfl) (by kernel_rfl) (by kernel_rfl) (fun _ _ _ h => h) (Or.inl ⟨by rfl, ?_⟩) (by assumption) ?_; rotate_left; (· (intro w hSw; obtain ⟨⟨-, p0, p1, p2, p3⟩, n0, z0, z1⟩ := hSw; go_simp); first | done | with_reducible rfl); (try simp only [Act.put, List.getElem_toArray, List.getElem_cons_succ, List.getElem_cons_zero, List.setIfInBounds_toArray, List.set_cons_zero, List.set_cons_succ])
      refine wpAnyH_take (i := 18 ) (v := ?_) rfl (by kernel_rfl) (by kernel_rfl) (by kernel_rfl) (fun _ _ _ h => h) (Or.inl ⟨by rfl, ?_⟩) (by assumption) ?_; rotate_left; (· (intro w hSw; obtain ⟨⟨-, p0, p1, p2, p3⟩, n0, z0, z1⟩ := hSw; go_simp); first | done | with_reducible rfl); (try simp only [Act.put, List.getElem_toArray, List.getElem_cons_succ, List.getElem_cons_zero, List.setIfInBounds_toArray, List.set_cons_zero, List.set_cons_succ])
      refine wpAnyH_done (by kernel_rfl) ?_ _
      go_wp2_with fail
      go_ret
      exact ⟨ret_bool HD.out.symm, HS2.out.1⟩
    · exact AllReadyH.nil
end Go.Proofs.Ytkokacdaiklfjaa
