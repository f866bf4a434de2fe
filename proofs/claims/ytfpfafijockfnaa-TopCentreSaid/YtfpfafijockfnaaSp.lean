/- Walks: whether a lead is within a limit, its grade; the iterator over the places of grooves. -/
import Derived.Test.YtfpfafijockfnaaSx
import Derived.Test.YtfpfafijockfnaaSn
import Derived.Test.YtfpfafijockfnaaFb
namespace Go.Proofs.Ytfpfafijockfnaa
open Go.RowKit Go.Shelf

def LeadBd (l : Lead) : Prop := (SpanBd l.side 100000 ∧ l.side.lo ≤ l.side.hi) ∧ SpanBd l.height 100000 ∧ l.height.lo ≤ l.height.hi
theorem sq_bd {a : Int} (h0 : 0 ≤ a) (h1 : a ≤ 100000) : 0 ≤ a * a ∧ a * a ≤ 10000000000 := ⟨Int.mul_nonneg h0 h0, Int.mul_le_mul h1 h1 h0 (by omega)⟩
set_option maxRecDepth 100000 in
set_option maxHeartbeats 2000000 in
theorem leadin_any (l : Lead) (lim : Int) (w : World) (hl : LeadBd l) (h0 : 0 ≤ lim) (h1 : lim ≤ 1000) : Calls Try.prog 67 #[.agg #[.int .i64 l.side.lo, .int .i64 l.side.hi, .int .i64 l.height.lo, .int .i64 l.height.hi], .int .i64 lim] w (Ret (.bool (leadIn l lim)) w) := by
  obtain ⟨⟨a1, a2⟩, b1, b2⟩ := hl
  obtain ⟨as0, as1⟩ := amount_bd a1 a2
  obtain ⟨bs0, bs1⟩ := amount_bd b1 b2
  unfold SpanBd at a1 b1
  have HA : Hid (∀ W : World, Calls Try.prog 92 #[.agg #[.int .i64 l.side.lo, .int .i64 l.side.hi]] W (Ret (.int .i64 (amountS l.side)) W)) := Lib.hid fun W => amount5_any l.side.lo l.side.hi W ⟨by omega, by omega⟩
  have HC : Hid (∀ W : World, Calls Try.prog 92 #[.agg #[.int .i64 l.height.lo, .int .i64 l.height.hi]] W (Ret (.int .i64 (amountS l.height)) W)) := Lib.hid fun W => amount5_any l.height.lo l.height.hi W ⟨by omega, by omega⟩
  have HD : Hid (leadIn l lim = decide (amountS l.side * amountS l.side + amountS l.height * amountS l.height ≤ 4 * lim * lim)) := Lib.hid rfl
  generalize amountS l.side = sa at *
  generalize amountS l.height = sb at *
  generalize leadIn l lim = z at HD ⊢
  obtain ⟨x0, x1⟩ := sq_bd as0 as1
  obtain ⟨y0, y1⟩ := sq_bd bs0 bs1
  have l0 : 0 ≤ 4 * lim * lim := Int.mul_nonneg (by omega) h0
  have l1 : 4 * lim * lim ≤ 4000 * 1000 := Int.mul_le_mul (by omega) h1 h0 (by omega)
  obtain ⟨u, hu⟩ : ∃ u, 4 * lim = u := ⟨_, rfl⟩
  rw [hu] at l0 l1 HD
  have wu : IntKind.i64.wrap (4 * lim) = u := by rw [hu]; exact IntWalk.i64_in _ ⟨by omega, by omega⟩
  have wx : IntKind.i64.wrap (sa * sa) = sa * sa := IntWalk.i64_in _ ⟨by omega, by omega⟩
  have wy : IntKind.i64.wrap (sb * sb) = sb * sb := IntWalk.i64_in _ ⟨by omega, by omega⟩
  have wv : IntKind.i64.wrap (u * lim) = u * lim := IntWalk.i64_in _ ⟨by omega, by omega⟩
  have wz : IntKind.i64.wrap (sa * sa + sb * sb) = sa * sa + sb * sb := IntWalk.i64_in _ ⟨by omega, by omega⟩
  have K0 := Lib.hid (Blk.new w 109 #[.int .i64 l.side.lo, .int .i64 l.side.hi, .int .i64 l.height.lo, .int .i64 l.height.hi])
  have HB := Lib.hid (show Below w.heap.size w (w.alloc (.cells #[.int .i64 l.side.lo, .int .i64 l.side.hi, .int .i64 l.height.lo, .int .i64 l.height.hi] 109)) from (Below.refl _ _).alloc (Nat.le_refl _) _)
  clear as0 as1 bs0 bs1 a1 a2 b1 b2 x0 x1 y0 y1 l0 l1 hu h0 h1
  go_enter Try.func67, Try.ntmps67
  go_wp2_with fail
  generalize World.alloc w _ = V at K0 HB ⊢
  replace K0 := Lib.hid K0.out.drew
  replace HB := Lib.hid HB.out.drew
  refine wp_region_held_drew (S := fun W => Blk W w.heap.size 109 #[.int .i64 l.side.lo, .int .i64 l.side.hi, .int .i64 l.height.lo, .int .i64 l.height.hi]) (by kernel_rfl) K0.out (fun hH0 => ?_)
  generalize World.drew _ = V0 at *
  simp only [List.size_toArray, List.length_cons, List.length_nil, Nat.reduceAdd, Array.replicate_succ, Array.replicate_zero, List.push_toArray, List.nil_append, List.cons_append]
  refine wpAnyH_take (i := 0 ) (v := ?_) rfl (by kernel_rfl) (by kernel_rfl) (by kernel_rfl) (fun _ _ _ h => h) (Or.inl ⟨by rfl, ?_⟩) (by assumption) ?_; rotate_left; (· (intro w0 hSw; have s0 := hSw.cell 0; have s1 := hSw.cell 1; have s2 := hSw.cell 2; have s3 := hSw.cell 3; go_simp); first | done | with_reducible rfl); (try simp only [Act.put, List.getElem_toArray, List.getElem_cons_zero, List.setIfInBounds_toArray, List.set_cons_zero, List.set_cons_succ])
  refine wpAnyH_take (i := 1 ) (v := ?_) rfl (by kernel_rfl) (by kernel_rfl) (by kernel_rfl) (fun _ _ _ h => h) (Or.inl ⟨by rfl, ?_⟩) (by assumption) ?_; rotate_left; (· (intro w0 hSw; have s0 := hSw.cell 0; have s1 := hSw.cell 1; have s2 := hSw.cell 2; have s3 := hSw.cell 3; go_simp); first | done | with_reducible rfl); (try simp only [Act.put, List.getElem_toArray, List.getElem_cons_succ, List.getElem_cons_zero, List.setIfInBounds_toArray, List.set_cons_zero, List.set_cons_succ])
  refine wpAnyH_take (i := 3 ) (v := ?_) rfl (by kernel_rfl) (by kernel_rfl) (by kernel_rfl) (fun _ _ _ h => h) (Or.inl ⟨by rfl, ?_⟩) (by assumption) ?_; rotate_left; (· (intro w0 hSw; have s0 := hSw.cell 0; have s1 := hSw.cell 1; have s2 := hSw.cell 2; have s3 := hSw.cell 3; go_simp); first | done | with_reducible rfl); (try simp only [Act.put, List.getElem_toArray, List.getElem_cons_succ, List.getElem_cons_zero, List.setIfInBounds_toArray, List.set_cons_zero, List.set_cons_succ])
  refine wpAnyH_take (i := 4 ) (v := ?_) rfl (by kernel_rfl) (by kernel_rfl) (by kernel_rfl) (fun _ _ _ h => h) (Or.inl ⟨by rfl, ?_⟩) (by assumption) ?_; rotate_left; (· (intro w0 hSw; have s0 := hSw.cell 0; have s1 := hSw.cell 1; have s2 := hSw.cell 2; have s3 := hSw.cell 3; go_simp); first | done | with_reducible rfl); (try simp only [Act.put, List.getElem_toArray, List.getElem_cons_succ, List.getElem_cons_zero, List.setIfInBounds_toArray, List.set_cons_zero, List.set_cons_succ])
  refine wpAnyH_ready (rs := [2]) (by kernel_rfl) (by simp) ?_
  refine AllReadyH.cons (by simp only [List.getElem?_toArray, List.getElem?_cons_succ, List.getElem?_cons_zero]; rfl) (fun K hK => ?_) AllReadyH.nil
  go_simp
  refine (HA.out _).mono ?_
  rintro e V1 ⟨rfl, hb⟩
  replace K0 := Lib.hid (K0.out.below hb K0.out.lt)
  replace HB := Lib.hid (HB.out.trans (hb.mono HB.out.size))
  clear hb
  refine hK.out _ _ K0.out (fun hH1 => ?_)
  clear hK K
  try simp only [List.setIfInBounds_toArray, List.set_cons_zero, List.set_cons_succ]
  refine wpAnyH_ready (rs := [5]) (by kernel_rfl) (by simp) ?_
  refine AllReadyH.cons (by simp only [List.getElem?_toArray, List.getElem?_cons_succ, List.getElem?_cons_zero]; rfl) (fun K hK => ?_) AllReadyH.nil
  go_simp
  refine (HC.out _).mono ?_
  rintro e V2 ⟨rfl, hb⟩
  replace K0 := Lib.hid (K0.out.below hb K0.out.lt)
  replace HB := Lib.hid (HB.out.trans (hb.mono HB.out.size))
  clear hb
  refine hK.out _ _ K0.out (fun hH2 => ?_)
  clear hK K
  try simp only [List.setIfInBounds_toArray, List.set_cons_zero, List.set_cons_succ]
  refine wpAnyH_take (i := 6 ) (v := ?_) rfl (by kernel_rfl) (by kernel_rfl) (by kernel_rfl) (fun _ _ _ h => h) (Or.inl ⟨by rfl, ?_⟩) (by assumption) ?_; rotate_left; (· (intro w0 hSw; have s0 := hSw.cell 0; have s1 := hSw.cell 1; have s2 := hSw.cell 2; have s3 := hSw.cell 3; go_simp); first | done | with_reducible rfl); (try simp only [Act.put, List.getElem_toArray, List.getElem_cons_succ, List.getElem_cons_zero, List.setIfInBounds_toArray, List.set_cons_zero, List.set_cons_succ])
  refine wpAnyH_take (i := 7 ) (v := ?_) rfl (by kernel_rfl) (by kernel_rfl) (by kernel_rfl) (fun _ _ _ h => h) (Or.inl ⟨by rfl, ?_⟩) (by assumption) ?_; rotate_left; (· (intro w0 hSw; have s0 := hSw.cell 0; have s1 := hSw.cell 1; have s2 := hSw.cell 2; have s3 := hSw.cell 3; go_simp); first | done | with_reducible rfl); (try simp only [Act.put, List.getElem_toArray, List.getElem_cons_succ, List.getElem_cons_zero, List.setIfInBounds_toArray, List.set_cons_zero, List.set_cons_succ])
  refine wpAnyH_done (by kernel_rfl) ?_ _
  go_wp2_with fail
  go_ret
  exact ⟨ret_bool HD.out.symm, HB.out⟩
set_option maxRecDepth 100000 in
set_option maxHeartbeats 2000000 in
theorem grade_any (l : Lead) (w : World) (A : Option Addr) (c : Nat) (lims : List Int) (hl : LeadBd l) (hA : IntSl w w.heap.size A lims) (hn : lims.length ≤ 9223372036854775807) (hx : ∀ x ∈ lims, 0 ≤ x ∧ x ≤ 1000) : Calls Try.prog 52 #[.agg #[.int .i64 l.side.lo, .int .i64 l.side.hi, .int .i64 l.height.lo, .int .i64 l.height.hi], .slice A lims.length c] w (Ret (.int .i64 (gradeOf l lims)) w) := by
  have HS := Lib.hid hA
  have HX := Lib.hid hx
  have HL : Hid (∀ (W : World) (x : Int), 0 ≤ x ∧ x ≤ 1000 → Calls Try.prog 67 #[.agg #[.int .i64 l.side.lo, .int .i64 l.side.hi, .int .i64 l.height.lo, .int .i64 l.height.hi], .int .i64 x] W (Ret (.bool (leadIn l x)) W)) := Lib.hid fun W x h => leadin_any l x W hl h.1 h.2
  have hn' : (lims.length : Int) ≤ 9223372036854775807 := by omega
  have hn0 : (0 : Int) ≤ lims.length := by omega
  have K0 := Lib.hid (Blk.new w 109 #[.int .i64 l.side.lo, .int .i64 l.side.hi, .int .i64 l.height.lo, .int .i64 l.height.hi])
  have HB := Lib.hid (show Below w.heap.size w (w.alloc (.cells #[.int .i64 l.side.lo, .int .i64 l.side.hi, .int .i64 l.height.lo, .int .i64 l.height.hi] 109)) from (Below.refl _ _).alloc (Nat.le_refl _) _)
  unfold gradeOf
  clear hA hx hl
  go_enter Try.func52, Try.ntmps52
  go_wp2_with fail
  generalize World.alloc w _ = V at K0 HB ⊢
  go_loopw [9] (fun i wr => ∃ k : Nat, k ≤ lims.length ∧ i = .int .i64 k ∧ Hid (gradeFrom l lims 0 = gradeFrom l (lims.drop k) k) ∧ Hid (Blk wr w.heap.size 109 #[.int .i64 l.side.lo, .int .i64 l.side.hi, .int .i64 l.height.lo, .int .i64 l.height.hi]) ∧ Hid (Below w.heap.size w wr)) (fun i _ => lims.length - (intOf i).toNat)
  case atStart => exact ⟨0, by omega, rfl, Lib.hid rfl, K0, HB⟩
  case round =>
    clear K0 HB
    obtain ⟨k, hk, rfl, HG, K0, HB⟩ := hrel
    by_cases hlt : k < lims.length
    · obtain ⟨b, off, rfl, hb, hs⟩ := HS.out (by intro e; rw [e] at hlt; simp at hlt)
      have c0 := hs k hlt
      rw [← HB.out.cell (p := ⟨b, _, none⟩) hb] at c0
      have hbz : b < wr.heap.size := by have := HB.out.size; omega
      have hr := HX.out lims[k] (List.getElem_mem hlt)
      have HD : Hid (gradeFrom l lims 0 = if leadIn l lims[k] = true then (k : Int) else gradeFrom l (lims.drop (k + 1)) (k + 1)) := Lib.hid (by rw [HG.out, List.drop_eq_getElem_cons hlt]; rfl)
      generalize lims[k] = d at *
      have HR := Lib.hid hr
      have x0 := K0.out.cell 0
      have x1 := K0.out.cell 1
      have x2 := K0.out.cell 2
      have x3 := K0.out.cell 3
      clear hs HG hr
      go_wp2_with fail
      refine (HL.out _ _ HR.out).mono ?_
      rintro e W1 ⟨rfl, hb1⟩
      replace K0 := Lib.hid (K0.out.below hb1 K0.out.lt)
      replace HB := Lib.hid (HB.out.trans (hb1.mono HB.out.size))
      clear hb1 c0 x0 x1 x2 x3 hbz
      cases hz : leadIn l d with
      | true =>
        have HE := Lib.hid (HD.out.trans (if_pos hz))
        clear hz
        go_wp2_with fail
        go_ret
        exact ⟨ret_int HE.out.symm, HB.out⟩
      | false =>
        have HE := Lib.hid (HD.out.trans (if_neg (by rw [hz]; simp)))
        clear hz
        go_wp2_with fail
        go_roundw
        case rel => exact ⟨k + 1, by omega, by go_num, HE, K0, HB⟩
        case measure => simp [intOf]; omega
    · obtain rfl : k = lims.length := by omega
      have HE := Lib.hid (HG.out.trans (by rw [List.drop_length]; rfl : gradeFrom l (lims.drop lims.length) lims.length = -1))
      clear hlt hk HG
      go_wp2_with fail
      go_ret
      exact ⟨ret_int HE.out.symm, HB.out⟩
set_option maxHeartbeats 400000 in
theorem mkPlaces_any (w : World) (s : Slat) (g : Int) : Calls Try.prog 79 #[.agg #[.int .i64 s.thick.lo, .int .i64 s.thick.hi, .int .i64 s.depth.lo, .int .i64 s.depth.hi, .int .i64 s.shift.lo, .int .i64 s.shift.hi, .int .i64 s.pitch.lo, .int .i64 s.pitch.hi], .int .i64 g] w fun e w' => e = .returned (.func (.func 98) #[] #[.pointer (some ⟨w.heap.size, 0, none⟩), .pointer (some ⟨w.heap.size + 1, 0, none⟩)]) ∧ (w.alloc (.cells #[.int .i64 s.thick.lo, .int .i64 s.thick.hi, .int .i64 s.depth.lo, .int .i64 s.depth.hi, .int .i64 s.shift.lo, .int .i64 s.shift.hi, .int .i64 s.pitch.lo, .int .i64 s.pitch.hi] 37)).alloc (.cells #[.int .i64 g] 3) = w' := by
  go_enter Try.func79, Try.ntmps79
  go_wp2
  go_ret
  exact ⟨rfl, rfl⟩
theorem place_next (s : Slat) (k : Nat) : sumS [placeS s k, s.pitch] = placeS s ((k : Int) + 1) := by
  simp only [sumS, addS, placeS, List.foldl_cons, List.foldl_nil, Int.zero_add, Int.add_mul, Int.one_mul, Int.add_assoc]
theorem place_zero (s : Slat) : placeS s 0 = s.shift := by simp [placeS]
/-- What the iterator keeps: k places have been yielded. -/
structure PlS (L D q q2 q4 : Nat) (s : Slat) (g : Int) (W0 : World) (J : Nat → World → Prop) (k : Nat) (W : World) : Prop where
  bq : Blk W q 37 #[.int .i64 s.thick.lo, .int .i64 s.thick.hi, .int .i64 s.depth.lo, .int .i64 s.depth.hi, .int .i64 s.shift.lo, .int .i64 s.shift.hi, .int .i64 s.pitch.lo, .int .i64 s.pitch.hi]
  bp : Blk W q4 99 #[.int .i64 (placeS s k).lo, .int .i64 (placeS s k).hi]
  size : W0.heap.size < W.heap.size
  come : J k W
set_option maxRecDepth 100000 in
set_option maxHeartbeats 4000000 in
theorem places_in (n : Nat) (hn : 2 ≤ n) (q q2 L N : Nat) (s : Slat) (w : World) (hs : SlatIn s) (hN : N ≤ 10) (hq : Blk w q 37 #[.int .i64 s.thick.lo, .int .i64 s.thick.hi, .int .i64 s.depth.lo, .int .i64 s.depth.hi, .int .i64 s.shift.lo, .int .i64 s.shift.hi, .int .i64 s.pitch.lo, .int .i64 s.pitch.hi]) (hq2 : Blk w q2 3 #[.int .i64 (N : Int)]) (hqL : q ≠ L) (hL : L < w.heap.size) :
    SeqN n Try.prog 98 #[.pointer (some ⟨q, 0, none⟩), .pointer (some ⟨q2, 0, none⟩)] (fun k => #[.int .i64 (k : Int), .agg #[.int .i64 (placeS s k).lo, .int .i64 (placeS s k).hi]]) L N w := by
  intro l J W hW hz hJ hY h0
  have hqz := hq.lt
  have hq2z := hq2.lt
  have hwz := hW.size
  have HQ := Lib.hid (hq.below hW hqz)
  have HQ2 := Lib.hid (hq2.below hW hq2z)
  have HJ := Lib.hid hJ
  have HY := Lib.hid hY
  have H0 := Lib.hid h0
  have HIN := Lib.hid hs
  have hN' : (N : Int) ≤ 10 := by omega
  have hN0 : (0 : Int) ≤ N := by omega
  clear hJ hY h0 hq hq2 hs hW
  refine callsIn_of_wp Try.func98 rfl trivial ?_ rfl
  simp only [Try.ntmps98, List.size_toArray, List.length_cons, List.length_nil, Nat.reduceAdd, Nat.reduceSub, Array.replicate_succ, Array.replicate_zero, List.push_toArray, List.append_toArray, List.nil_append, List.cons_append]
  have x4 := HQ.out.cell 4
  have x5 := HQ.out.cell 5
  have g0 := HQ2.out.cell 0
  have hqW : q < W.heap.size := by omega
  have hq2W : q2 < W.heap.size := by omega
  gi_wp2
  have hb : Below W.heap.size W (W.alloc (.cells #[.int .i64 s.shift.lo, .int .i64 s.shift.hi] 99)) := (Below.refl _ _).alloc (Nat.le_refl _) _
  have HS : Hid (PlS L (w.heap.size + 1) q q2 W.heap.size s N W J 0 (W.alloc (.cells #[.int .i64 s.shift.lo, .int .i64 s.shift.hi] 99))) := Lib.hid ⟨HQ.out.alloc _, by have h9 := Blk.new W 99 #[.int .i64 s.shift.lo, .int .i64 s.shift.hi]; rw [show placeS s ((0 : Nat) : Int) = s.shift from place_zero s]; exact h9, by simp, HJ.out _ _ _ H0.out hb⟩
  clear x4 x5 g0 hb H0 HQ HQ2
  generalize World.alloc W _ = V at HS ⊢
  gi_loopw [9] (fun i wr => ∃ k : Nat, k ≤ N ∧ i = .int .i64 k ∧ Hid (PlS L (w.heap.size + 1) q q2 W.heap.size s N W J k wr)) (fun i _ => N - (intOf i).toNat)
  case atStart => exact ⟨0, by omega, rfl, HS⟩
  case round =>
    clear HS
    obtain ⟨k, hk, rfl, HS⟩ := hrel
    by_cases hlt : k < N
    · have p0 := HS.out.bp.cell 0
      have p1 := HS.out.bp.cell 1
      obtain ⟨fn, tmps, assign, body, hy, hR⟩ := HY.out k wr HS.out.come hlt
      have hF1 : Hid (Far (placeS s k)) := Lib.hid (by have := place_bd HIN.out (i := (k : Int)) (by omega) (by omega); unfold SpanBd at this; unfold Far; omega)
      have hF2 : Hid (Far s.pitch) := Lib.hid (by have := HIN.out.p0; have := HIN.out.p1; have := HIN.out.p2; unfold Far; omega)
      have HN2 := Lib.hid (place_next s k)
      gi_wp2_with fail
      refine ⟨fun _ => (by omega), hR.mono ?_⟩
      rintro e W3 ⟨rfl, hJ3, hk3⟩
      have hs3 := hk3.size
      have hsz := HS.out.size
      have KQ := Lib.hid (show Blk W3 q 37 #[.int .i64 s.thick.lo, .int .i64 s.thick.hi, .int .i64 s.depth.lo, .int .i64 s.depth.hi, .int .i64 s.shift.lo, .int .i64 s.shift.hi, .int .i64 s.pitch.lo, .int .i64 s.pitch.hi] from (hk3.block q hqL (by omega) HS.out.bq.lt).trans HS.out.bq)
      have KP := Lib.hid (show Blk W3 W.heap.size 99 #[.int .i64 (placeS s k).lo, .int .i64 (placeS s k).hi] from (hk3.block W.heap.size (by omega) (by omega) HS.out.bp.lt).trans HS.out.bp)
      have HJ3 := Lib.hid hJ3
      have x6 := KQ.out.cell 6
      have x7 := KQ.out.cell 7
      replace p0 := KP.out.cell 0
      replace p1 := KP.out.cell 1
      have hz3 := KP.out.lt
      have hC := sum5_any (W3.alloc (.cells #[.int .i64 (placeS s k).lo, .int .i64 (placeS s k).hi, .int .i64 s.pitch.lo, .int .i64 s.pitch.hi] 99)) W3.heap.size 0 2 [placeS s k, s.pitch] (by simp) (two_spans (Blk.new _ _ _)) (by simp) (by
        intro r hr
        simp only [List.mem_cons, List.not_mem_nil, or_false] at hr
        rcases hr with rfl | rfl
        · exact hF1.out
        · exact hF2.out)
      rw [HN2.out] at hC
      have HC := Lib.hid hC
      clear hC HS hJ3 hk3 hy hR hF1 hF2 HN2
      gi_wp2_with fail
      refine ⟨trivial, fun _ => (by omega), (callsIn_wide.2 HC.out).mono ?_⟩
      rintro e W4 ⟨rfl, hb4⟩
      have hb3 : Below W3.heap.size W3 W4 := ((Below.refl _ W3).alloc (Nat.le_refl _) _).trans (hb4.mono (by simp))
      replace KQ := Lib.hid (KQ.out.below hb3 KQ.out.lt)
      replace KP := Lib.hid (KP.out.below hb3 KP.out.lt)
      have y0 := KP.out.cell 0
      have y1 := KP.out.cell 1
      have z0 := KP.out.frozen 0
      have z1 := KP.out.frozen 1
      have h43 := hb3.size
      have hbS : Below W.heap.size W3 ((W4.setCell ⟨W.heap.size, 0, none⟩ (.int .i64 (placeS s ((k : Int) + 1)).lo)).setCell ⟨W.heap.size, 1, none⟩ (.int .i64 (placeS s ((k : Int) + 1)).hi)) := ((hb3.mono (by omega)).setCell (by simp) _).setCell (by simp) _
      have HN : Hid (PlS L (w.heap.size + 1) q q2 W.heap.size s N W J (k + 1) ((W4.setCell ⟨W.heap.size, 0, none⟩ (.int .i64 (placeS s ((k : Int) + 1)).lo)).setCell ⟨W.heap.size, 1, none⟩ (.int .i64 (placeS s ((k : Int) + 1)).hi))) :=
        Lib.hid ⟨(KQ.out.far (by simp only []; omega) _).far (by simp only []; omega) _, (KP.out.set_ 0 _).set_ 1 _, by simp only [World.size_setCell]; omega, HJ.out _ _ _ HJ3.out hbS⟩
      clear KQ KP HJ3 hb4 hb3 hbS x6 x7 p0 p1 HC
      gi_wp2
      go_roundw
      case rel => exact ⟨k + 1, by omega, by go_num, HN⟩
      case measure => simp [intOf]; omega
    · obtain rfl : k = N := by omega
      have HE := Lib.hid HS.out.come
      clear HS hlt
      gi_wp2
      go_end0
      exact ⟨⟨_, rfl⟩, HE.out⟩
end Go.Proofs.Ytfpfafijockfnaa
