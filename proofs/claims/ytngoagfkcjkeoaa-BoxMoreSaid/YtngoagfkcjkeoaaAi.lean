/- Walks: the laws' awake. -/
import Derived.Test.YtngoagfkcjkeoaaAh
import Derived.Great.BuildSlice
namespace Go.Proofs.Ytngoagfkcjkeoaa
open Go.RowKit Go.Shelf

theorem wp_bs {P : Program} {o : Oper} {a : Act} {w : World} {K : Act → World → Prop} {Q : Exit → Act → World → Prop} (t e : TypeId) (len : Nat) (parts : Array (Nat × Operand)) (ho : o.op = .buildSlice t len parts)
    (cells : Array Value) (vs : List Value) (z : Value) (n : Nat) (hu : P.underlying t = some (.slice e)) (hi : (P.info? e).map (fun i => (i.zero, i.size)) = some (some z, n)) (hn : 0 < n ∧ 0 < len ∧ len * n ≤ 2 ^ 24)
    (hv : parts.toList.map (fun x => (x.1, a.eval x.2)) = (vs.zipIdx 0).map fun x => (x.2, x.1)) (h1 : vs.all (fun v => v.cells.size == n) = true) (h2 : vs.length = len) (hc : (vs.flatMap fun v => v.cells.toList).toArray = cells)
    (h : K (a.put o.dst (.slice (some ⟨w.heap.size, 0, none⟩) len len)) (w.alloc (.cells cells e))) : o.wp P a w K Q := by
  cases hie : P.info? e with
  | none => rw [hie] at hi; cases hi
  | some ie =>
    rw [hie] at hi
    simp only [Option.map_some, Option.some.injEq, Prod.mk.injEq] at hi
    obtain ⟨hz, rfl⟩ := hi
    subst hc
    refine wp_buildSlice t e len parts ho _ ie z hu hie hz (by omega) (Nat.ne_of_gt (Nat.mul_pos hn.2.1 hn.1)) ?_ h
    rw [Array.toList_map]
    rw [show (parts.toList.map fun (i, x) => (i, a.eval x)) = (vs.zipIdx 0).map fun x => (x.2, x.1) from hv]
    exact Great.fill_whole hn.1 vs _ (fun v hv => by have := List.all_eq_true.1 h1 v hv; simpa using this) (by simp [h2])
theorem ints_of3 {W : World} {g : Nat} {a b c : Int} (h : Blk W g 3 #[.int .i64 a, .int .i64 b, .int .i64 c]) : IntSl W W.heap.size (some ⟨g, 0, none⟩) [a, b, c] := fun _ => ⟨g, 0, rfl, h.lt, fun j hj => by
  have hx : j = 0 ∨ j = 1 ∨ j = 2 := by simp at hj; omega
  rcases hx with rfl | rfl | rfl
  · exact h.cell 0
  · exact h.cell 1
  · exact h.cell 2⟩
theorem piles_of3 {W : World} {g : Nat} {a b c d e f : Int} (h : Blk W g 46 #[.int .i64 a, .int .i64 b, .int .i64 c, .int .i64 d, .int .i64 e, .int .i64 f]) : PileSl W W.heap.size (some ⟨g, 0, none⟩) [⟨a, b⟩, ⟨c, d⟩, ⟨e, f⟩] := fun _ => ⟨g, 0, rfl, h.lt, fun j hj => by
  have hx : j = 0 ∨ j = 1 ∨ j = 2 := by simp at hj; omega
  rcases hx with rfl | rfl | rfl
  · exact ⟨h.cell 0, h.cell 1⟩
  · exact ⟨h.cell 2, h.cell 3⟩
  · exact ⟨h.cell 4, h.cell 5⟩⟩
theorem rows3 {W : World} {g p q r : Nat} {a b c d e f x y z : Int} (h : Blk W g 22 #[.slice (some ⟨p, 0, none⟩) 3 3, .slice (some ⟨q, 0, none⟩) 3 3, .slice (some ⟨r, 0, none⟩) 3 3]) (h1 : Blk W p 3 #[.int .i64 a, .int .i64 b, .int .i64 c]) (h2 : Blk W q 3 #[.int .i64 d, .int .i64 e, .int .i64 f]) (h3 : Blk W r 3 #[.int .i64 x, .int .i64 y, .int .i64 z]) :
    RowSl W (some ⟨g, 0, none⟩) [[a, b, c], [d, e, f], [x, y, z]] := fun _ => ⟨g, rfl, h.lt, fun j hj => by
  have hx : j = 0 ∨ j = 1 ∨ j = 2 := by simp at hj; omega
  rcases hx with rfl | rfl | rfl
  · exact ⟨_, _, h.cell 0, ints_of3 h1⟩
  · exact ⟨_, _, h.cell 1, ints_of3 h2⟩
  · exact ⟨_, _, h.cell 2, ints_of3 h3⟩⟩
set_option maxRecDepth 100000 in
set_option maxHeartbeats 8000000 in
theorem awake9_any (w : World) : Calls Try.prog 12 #[] w (Ret (.bool true) w) := by
  go_enter Try.func12, Try.ntmps12
  go_wp2_with fail
  refine (sample9_any w).mono ?_
  rintro e w1 ⟨rfl, hb1, hN, hP⟩
  have HB1 := Lib.hid hb1
  have HA := Lib.hid (ints_of3 hN)
  have HP := Lib.hid (piles_of3 hP)
  clear hb1 hN hP
  go_wp2_with fail
  refine (most_any w1 (some ⟨w.heap.size, 0, none⟩) (some ⟨w.heap.size + 1, 0, none⟩) 3 3 need0 pil0 (by decide) (by decide) HA.out HP.out).mono ?_
  rintro e w2 ⟨⟨a, b, c, rfl, hm⟩, hb2⟩
  obtain ⟨rfl, rfl, rfl⟩ : a = 4 ∧ b = 7 ∧ c = 0 := by
    rcases hm with ⟨-, h1, h2, h3⟩ | ⟨h1, -⟩
    · obtain rfl := most0 h1
      exact ⟨rfl, by rw [h2]; exact congrArg (fun n : Nat => (n : Int)) proof0, h3⟩
    · rw [ok0] at h1; cases h1
  have HB2 := Lib.hid (HB1.out.trans (hb2.mono HB1.out.size))
  have HA2 := Lib.hid (HA.out.on hb2 (Nat.le_refl _))
  have HP2 := Lib.hid (HP.out.on hb2 (Nat.le_refl _))
  clear hb2 hm HB1 HA HP
  go_wp2_with fail
  refine (fill_any w2 (some ⟨w.heap.size, 0, none⟩) (some ⟨w.heap.size + 1, 0, none⟩) 3 3 need0 pil0 4 (by decide) (by decide) HA2.out HP2.out).mono ?_
  rintro e w3 ⟨A6, c6, rfl, hr3, hb3⟩
  rw [fill0] at *
  have HB3 := Lib.hid (HB2.out.trans (hb3.mono HB2.out.size))
  have HA3 := Lib.hid (HA2.out.on hb3 (Nat.le_refl _))
  have HP3 := Lib.hid (HP2.out.on hb3 (Nat.le_refl _))
  have HR3 := Lib.hid hr3
  clear hb3 HB2 HA2 HP2 hr3
  go_wp2_with fail
  refine (use_any w3 (some ⟨w.heap.size, 0, none⟩) (some ⟨w.heap.size + 1, 0, none⟩) 3 3 need0 pil0 4 1 (by decide) (by decide) HA3.out HP3.out).mono ?_
  rintro e w4 ⟨lo, hi, ee, rfl, hu, hb4⟩
  obtain ⟨rfl, rfl, rfl⟩ := use0 hu
  have hbx : Below w4.heap.size w4 (w4.alloc (.cells #[.int .i64 3, .int .i64 6] 35)) := (Below.refl _ _).alloc (Nat.le_refl _) _
  have HB4 := Lib.hid ((HB3.out.trans (hb4.mono HB3.out.size)).trans (hbx.mono (Nat.le_trans HB3.out.size hb4.size)))
  have HA4 := Lib.hid ((HA3.out.on hb4 (Nat.le_refl _)).on hbx (Nat.le_refl _))
  have HP4 := Lib.hid ((HP3.out.on hb4 (Nat.le_refl _)).on hbx (Nat.le_refl _))
  have HR4 := Lib.hid ((HR3.out.on hb4).on hbx)
  have HK4 := Lib.hid (Blk.new w4 35 #[.int .i64 3, .int .i64 6])
  clear hb4 hbx hu HB3 HA3 HP3 HR3
  go_upto_region 5 with fail
  generalize World.alloc w4 _ = w5 at *
  generalize w4.heap.size = gu at *
  go_wp2_with fail
  refine (lack_any w5 (some ⟨w.heap.size, 0, none⟩) (some ⟨w.heap.size + 1, 0, none⟩) 3 3 need0 pil0 6 (by decide) (by decide) HA4.out HP4.out).mono ?_
  rintro e w6 ⟨rfl, hb6⟩
  rw [lack0]
  have HB5 := Lib.hid (HB4.out.trans (hb6.mono HB4.out.size))
  have HA5 := Lib.hid (HA4.out.on hb6 (Nat.le_refl _))
  have HP5 := Lib.hid (HP4.out.on hb6 (Nat.le_refl _))
  have HR5 := Lib.hid (HR4.out.on hb6)
  have HK5 := Lib.hid (HK4.out.below hb6 HK4.out.lt)
  clear hb6 HB4 HA4 HP4 HR4 HK4
  go_wp2_with fail
  refine (fill_any w6 (some ⟨w.heap.size, 0, none⟩) (some ⟨w.heap.size + 1, 0, none⟩) 3 3 need0 pil0 5 (by decide) (by decide) HA5.out HP5.out).mono ?_
  rintro e w8 ⟨A7, c7, rfl, -, hb8⟩
  rw [fill1]
  have HB6 := Lib.hid (HB5.out.trans (hb8.mono HB5.out.size))
  have HRO : Hid (∀ W9, Below w8.heap.size w8 W9 → RowSl W9 A6 [[8, 2, 0], [0, 2, 4], [0, 0, 0]]) := Lib.hid fun W9 h9 => (HR5.out.on hb8).on h9
  have HK6 := Lib.hid (HK5.out.below hb8 HK5.out.lt)
  have HRD : Hid (∀ W9, Below w8.heap.size w8 W9 → W9.cell? ⟨gu, 0, none⟩ = some (.int .i64 3) ∧ W9.cell? ⟨gu, 1, none⟩ = some (.int .i64 6)) := Lib.hid fun W9 h9 => ⟨(HK6.out.below h9 HK6.out.lt).cell 0, (HK6.out.below h9 HK6.out.lt).cell 1⟩
  clear hb8 HB5 HA5 HP5 HR5 HK5 HK6
  go_upto_region 7 with fail
  have HD := Lib.hid ((Below.refl w8.heap.size w8).drew)
  refine wp_region_held_drew (S := fun W9 => Below w8.heap.size w8 W9) (by kernel_rfl) HD.out (fun hH0 => ?_)
  generalize World.drew _ = V0 at *
  simp only [List.size_toArray, List.length_cons, List.length_nil, Nat.reduceAdd, Array.replicate_succ, Array.replicate_zero, List.push_toArray, List.nil_append, List.cons_append]
  refine wpAnyH_take (i := 0 ) (v := ?_) rfl (by kernel_rfl) (by kernel_rfl) (by kernel_rfl) (fun _ _ _ h => h) (Or.inl ⟨by rfl, ?_⟩) (by assumption) ?_; rotate_left; (· (intro w0 hSw; obtain ⟨y0, y1⟩ := HRD.out _ hSw; clear hSw; go_simp); first | done | with_reducible rfl); (try simp only [Act.put, List.getElem_toArray, List.getElem_cons_zero, List.setIfInBounds_toArray, List.set_cons_zero, List.set_cons_succ])
  refine wpAnyH_take (i := 1 ) (v := ?_) rfl (by kernel_rfl) (by kernel_rfl) (by kernel_rfl) (fun _ _ _ h => h) (Or.inl ⟨by rfl, ?_⟩) (by assumption) ?_; rotate_left; (· (intro w0 hSw; obtain ⟨y0, y1⟩ := HRD.out _ hSw; clear hSw; go_simp); first | done | with_reducible rfl); (try simp only [Act.put, List.getElem_toArray, List.getElem_cons_succ, List.getElem_cons_zero, List.setIfInBounds_toArray, List.set_cons_zero, List.set_cons_succ])
  refine wpAnyH_take (i := 2 ) (v := ?_) rfl (by kernel_rfl) (by kernel_rfl) (by kernel_rfl) (fun _ _ _ h => h) (Or.inl ⟨by rfl, ?_⟩) (by assumption) ?_; rotate_left; (· (intro w0 hSw; obtain ⟨y0, y1⟩ := HRD.out _ hSw; clear hSw; go_simp); first | done | with_reducible rfl); (try simp only [Act.put, List.getElem_toArray, List.getElem_cons_succ, List.getElem_cons_zero, List.setIfInBounds_toArray, List.set_cons_zero, List.set_cons_succ])
  refine wpAnyH_take (i := 3 ) (v := ?_) rfl (by kernel_rfl) (by kernel_rfl) (by kernel_rfl) (fun _ _ _ h => h) (Or.inl ⟨by rfl, ?_⟩) (by assumption) ?_; rotate_left; (· (intro w0 hSw; obtain ⟨y0, y1⟩ := HRD.out _ hSw; clear hSw; go_simp); first | done | with_reducible rfl); (try simp only [Act.put, List.getElem_toArray, List.getElem_cons_succ, List.getElem_cons_zero, List.setIfInBounds_toArray, List.set_cons_zero, List.set_cons_succ])
  refine wpAnyH_take (i := 4 ) (v := ?_) rfl (by kernel_rfl) (by kernel_rfl) (by kernel_rfl) (fun _ _ _ h => h) (Or.inl ⟨by rfl, ?_⟩) (by assumption) ?_; rotate_left; (· (intro w0 hSw; obtain ⟨y0, y1⟩ := HRD.out _ hSw; clear hSw; go_simp); first | done | with_reducible rfl); (try simp only [Act.put, List.getElem_toArray, List.getElem_cons_succ, List.getElem_cons_zero, List.setIfInBounds_toArray, List.set_cons_zero, List.set_cons_succ])
  refine wpAnyH_take (i := 5 ) (v := ?_) rfl (by kernel_rfl) (by kernel_rfl) (by kernel_rfl) (fun _ _ _ h => h) (Or.inl ⟨by rfl, ?_⟩) (by assumption) ?_; rotate_left; (· (intro w0 hSw; obtain ⟨y0, y1⟩ := HRD.out _ hSw; clear hSw; go_simp); first | done | with_reducible rfl); (try simp only [Act.put, List.getElem_toArray, List.getElem_cons_succ, List.getElem_cons_zero, List.setIfInBounds_toArray, List.set_cons_zero, List.set_cons_succ])
  refine wpAnyH_take (i := 6 ) (v := ?_) rfl (by kernel_rfl) (by kernel_rfl) (by kernel_rfl) (fun _ _ _ h => h) (Or.inl ⟨by rfl, ?_⟩) (by assumption) ?_; rotate_left; (· (intro w0 hSw; obtain ⟨y0, y1⟩ := HRD.out _ hSw; clear hSw; go_simp); first | done | with_reducible rfl); (try simp only [Act.put, List.getElem_toArray, List.getElem_cons_succ, List.getElem_cons_zero, List.setIfInBounds_toArray, List.set_cons_zero, List.set_cons_succ])
  refine wpAnyH_take (i := 7 ) (v := ?_) rfl (by kernel_rfl) (by kernel_rfl) (by kernel_rfl) (fun _ _ _ h => h) (Or.inl ⟨by rfl, ?_⟩) (by assumption) ?_; rotate_left; (· (intro w0 hSw; obtain ⟨y0, y1⟩ := HRD.out _ hSw; clear hSw; go_simp); first | done | with_reducible rfl); (try simp only [Act.put, List.getElem_toArray, List.getElem_cons_succ, List.getElem_cons_zero, List.setIfInBounds_toArray, List.set_cons_zero, List.set_cons_succ])
  refine wpAnyH_take (i := 8 ) (v := ?_) rfl (by kernel_rfl) (by kernel_rfl) (by kernel_rfl) (fun _ _ _ h => h) (Or.inl ⟨by rfl, ?_⟩) (by assumption) ?_; rotate_left; (· (intro w0 hSw; obtain ⟨y0, y1⟩ := HRD.out _ hSw; clear hSw; go_simp); first | done | with_reducible rfl); (try simp only [Act.put, List.getElem_toArray, List.getElem_cons_succ, List.getElem_cons_zero, List.setIfInBounds_toArray, List.set_cons_zero, List.set_cons_succ])
  refine wpAnyH_take (i := 9 ) (v := ?_) rfl (by kernel_rfl) (by kernel_rfl) (by kernel_rfl) (fun _ _ _ h => h) (Or.inl ⟨by rfl, ?_⟩) (by assumption) ?_; rotate_left; (· (intro w0 hSw; obtain ⟨y0, y1⟩ := HRD.out _ hSw; clear hSw; go_simp); first | done | with_reducible rfl); (try simp only [Act.put, List.getElem_toArray, List.getElem_cons_succ, List.getElem_cons_zero, List.setIfInBounds_toArray, List.set_cons_zero, List.set_cons_succ])
  refine wpAnyH_take (i := 10 ) (v := ?_) rfl (by kernel_rfl) (by kernel_rfl) (by kernel_rfl) (fun _ _ _ h => h) (Or.inl ⟨by rfl, ?_⟩) (by assumption) ?_; rotate_left; (· (intro w0 hSw; obtain ⟨y0, y1⟩ := HRD.out _ hSw; clear hSw; go_simp); first | done | with_reducible rfl); (try simp only [Act.put, List.getElem_toArray, List.getElem_cons_succ, List.getElem_cons_zero, List.setIfInBounds_toArray, List.set_cons_zero, List.set_cons_succ])
  refine wpAnyH_take (i := 11 ) (v := ?_) rfl (by kernel_rfl) (by kernel_rfl) (by kernel_rfl) (fun _ _ _ h => h) (Or.inl ⟨by rfl, ?_⟩) (by assumption) ?_; rotate_left; (· (intro w0 hSw; obtain ⟨y0, y1⟩ := HRD.out _ hSw; clear hSw; go_simp); first | done | with_reducible rfl); (try simp only [Act.put, List.getElem_toArray, List.getElem_cons_succ, List.getElem_cons_zero, List.setIfInBounds_toArray, List.set_cons_zero, List.set_cons_succ])
  refine wpAnyH_ready (rs := [12, 13, 14]) (by kernel_rfl) (by simp) ?_
  refine AllReadyH.cons (by simp only [List.getElem?_toArray, List.getElem?_cons_succ, List.getElem?_cons_zero]; rfl) (fun K hK => ?_) ?_
  · rw [if_pos (by rfl)]
    refine wp_bs 22 3 3 _ (by rfl) #[.int .i64 8, .int .i64 2, .int .i64 0] [.int .i64 8, .int .i64 2, .int .i64 0] (.int .i64 0) 1 (by kernel_rfl) (by kernel_rfl) (by decide) (by rfl) (by rfl) (by rfl) (by rfl) ?_
    simp only [Act.put, List.setIfInBounds_toArray, List.set_cons_zero, List.set_cons_succ]
    have K12 := Lib.hid (Blk.new V0 3 #[.int .i64 8, .int .i64 2, .int .i64 0])
    replace HD := Lib.hid (HD.out.alloc HD.out.size (.cells #[.int .i64 8, .int .i64 2, .int .i64 0] 3))
    generalize hz0 : World.alloc V0 _ = V1 at *
    clear hz0
    refine hK.out _ _ HD.out (fun hH1 => ?_)
    clear hK K
    try simp only [List.setIfInBounds_toArray, List.set_cons_zero, List.set_cons_succ]
    refine wpAnyH_ready (rs := [13, 14]) (by kernel_rfl) (by simp) ?_
    refine AllReadyH.cons (by simp only [List.getElem?_toArray, List.getElem?_cons_succ, List.getElem?_cons_zero]; rfl) (fun K hK => ?_) ?_
    · rw [if_pos (by rfl)]
      refine wp_bs 22 3 3 _ (by rfl) #[.int .i64 0, .int .i64 2, .int .i64 4] [.int .i64 0, .int .i64 2, .int .i64 4] (.int .i64 0) 1 (by kernel_rfl) (by kernel_rfl) (by decide) (by rfl) (by rfl) (by rfl) (by rfl) ?_
      simp only [Act.put, List.setIfInBounds_toArray, List.set_cons_zero, List.set_cons_succ]
      have K13 := Lib.hid (Blk.new V1 3 #[.int .i64 0, .int .i64 2, .int .i64 4])
      replace K12 := Lib.hid (K12.out.alloc (.cells #[.int .i64 0, .int .i64 2, .int .i64 4] 3))
      replace HD := Lib.hid (HD.out.alloc HD.out.size (.cells #[.int .i64 0, .int .i64 2, .int .i64 4] 3))
      generalize hz1 : World.alloc V1 _ = V2 at *
      clear hz1
      refine hK.out _ _ HD.out (fun hH2 => ?_)
      clear hK K
      try simp only [List.setIfInBounds_toArray, List.set_cons_zero, List.set_cons_succ]
      refine wpAnyH_ready (rs := [14]) (by kernel_rfl) (by simp) ?_
      refine AllReadyH.cons (by simp only [List.getElem?_toArray, List.getElem?_cons_succ, List.getElem?_cons_zero]; rfl) (fun K hK => ?_) ?_
      · rw [if_pos (by rfl)]
        refine wp_bs 22 3 3 _ (by rfl) #[.int .i64 0, .int .i64 0, .int .i64 0] [.int .i64 0, .int .i64 0, .int .i64 0] (.int .i64 0) 1 (by kernel_rfl) (by kernel_rfl) (by decide) (by rfl) (by rfl) (by rfl) (by rfl) ?_
        simp only [Act.put, List.setIfInBounds_toArray, List.set_cons_zero, List.set_cons_succ]
        have K14 := Lib.hid (Blk.new V2 3 #[.int .i64 0, .int .i64 0, .int .i64 0])
        replace K12 := Lib.hid (K12.out.alloc (.cells #[.int .i64 0, .int .i64 0, .int .i64 0] 3))
        replace K13 := Lib.hid (K13.out.alloc (.cells #[.int .i64 0, .int .i64 0, .int .i64 0] 3))
        replace HD := Lib.hid (HD.out.alloc HD.out.size (.cells #[.int .i64 0, .int .i64 0, .int .i64 0] 3))
        generalize hz2 : World.alloc V2 _ = V3 at *
        clear hz2
        refine hK.out _ _ HD.out (fun hH3 => ?_)
        clear hK K
        try simp only [List.setIfInBounds_toArray, List.set_cons_zero, List.set_cons_succ]
        refine wpAnyH_ready (rs := [15]) (by kernel_rfl) (by simp) ?_
        refine AllReadyH.cons (by simp only [List.getElem?_toArray, List.getElem?_cons_succ, List.getElem?_cons_zero]; rfl) (fun K hK => ?_) AllReadyH.nil
        rw [if_pos (by rfl)]
        refine wp_bs 31 22 3 _ (by rfl) #[.slice (some ⟨V0.heap.size, 0, none⟩) 3 3, .slice (some ⟨V1.heap.size, 0, none⟩) 3 3, .slice (some ⟨V2.heap.size, 0, none⟩) 3 3] [.slice (some ⟨V0.heap.size, 0, none⟩) 3 3, .slice (some ⟨V1.heap.size, 0, none⟩) 3 3, .slice (some ⟨V2.heap.size, 0, none⟩) 3 3] (.slice none 0 0) 1 (by kernel_rfl) (by kernel_rfl) (by decide) (by rfl) (by rfl) (by rfl) (by rfl) ?_
        simp only [Act.put, List.setIfInBounds_toArray, List.set_cons_zero, List.set_cons_succ]
        have K15 := Lib.hid (Blk.new V3 22 #[.slice (some ⟨V0.heap.size, 0, none⟩) 3 3, .slice (some ⟨V1.heap.size, 0, none⟩) 3 3, .slice (some ⟨V2.heap.size, 0, none⟩) 3 3])
        replace K12 := Lib.hid (K12.out.alloc (.cells #[.slice (some ⟨V0.heap.size, 0, none⟩) 3 3, .slice (some ⟨V1.heap.size, 0, none⟩) 3 3, .slice (some ⟨V2.heap.size, 0, none⟩) 3 3] 22))
        replace K13 := Lib.hid (K13.out.alloc (.cells #[.slice (some ⟨V0.heap.size, 0, none⟩) 3 3, .slice (some ⟨V1.heap.size, 0, none⟩) 3 3, .slice (some ⟨V2.heap.size, 0, none⟩) 3 3] 22))
        replace K14 := Lib.hid (K14.out.alloc (.cells #[.slice (some ⟨V0.heap.size, 0, none⟩) 3 3, .slice (some ⟨V1.heap.size, 0, none⟩) 3 3, .slice (some ⟨V2.heap.size, 0, none⟩) 3 3] 22))
        replace HD := Lib.hid (HD.out.alloc HD.out.size (.cells #[.slice (some ⟨V0.heap.size, 0, none⟩) 3 3, .slice (some ⟨V1.heap.size, 0, none⟩) 3 3, .slice (some ⟨V2.heap.size, 0, none⟩) 3 3] 22))
        generalize hz3 : World.alloc V3 _ = V4 at *
        clear hz3
        have HRW := Lib.hid (rRows_any V4 A6 (some ⟨V3.heap.size, 0, none⟩) c6 3 [[8, 2, 0], [0, 2, 4], [0, 0, 0]] [[8, 2, 0], [0, 2, 4], [0, 0, 0]] (by decide) (by decide) (HRO.out _ HD.out) (rows3 K15.out K12.out K13.out K14.out) (by decide) (by decide))
        refine hK.out _ _ HD.out (fun hH4 => ?_)
        clear hK K
        try simp only [List.setIfInBounds_toArray, List.set_cons_zero, List.set_cons_succ]
        refine wpAnyH_ready (rs := [16]) (by kernel_rfl) (by simp) ?_
        refine AllReadyH.cons (by simp only [List.getElem?_toArray, List.getElem?_cons_succ, List.getElem?_cons_zero]; rfl) (fun K hK => ?_) AllReadyH.nil
        go_simp
        refine HRW.out.mono ?_
        rintro e V5 ⟨rfl, hb5⟩
        replace HD := Lib.hid (HD.out.trans (hb5.mono HD.out.size))
        clear hb5 K12 K13 K14 K15 HRW
        refine hK.out _ _ HD.out (fun hH5 => ?_)
        clear hK K
        try simp only [List.setIfInBounds_toArray, List.set_cons_zero, List.set_cons_succ]
        refine wpAnyH_take (i := 17 ) (v := ?_) rfl (by kernel_rfl) (by kernel_rfl) (by kernel_rfl) (fun _ _ _ h => h) (Or.inl ⟨by rfl, ?_⟩) (by assumption) ?_; rotate_left; (· (intro w0 hSw; obtain ⟨y0, y1⟩ := HRD.out _ hSw; clear hSw; go_simp); first | done | with_reducible rfl); (try simp only [Act.put, List.getElem_toArray, List.getElem_cons_succ, List.getElem_cons_zero, List.setIfInBounds_toArray, List.set_cons_zero, List.set_cons_succ])
        refine wpAnyH_take (i := 18 ) (v := ?_) rfl (by kernel_rfl) (by kernel_rfl) (by kernel_rfl) (fun _ _ _ h => h) (Or.inl ⟨by rfl, ?_⟩) (by assumption) ?_; rotate_left; (· (intro w0 hSw; obtain ⟨y0, y1⟩ := HRD.out _ hSw; clear hSw; go_simp); first | done | with_reducible rfl); (try simp only [Act.put, List.getElem_toArray, List.getElem_cons_succ, List.getElem_cons_zero, List.setIfInBounds_toArray, List.set_cons_zero, List.set_cons_succ])
        refine wpAnyH_take (i := 19 ) (v := ?_) rfl (by kernel_rfl) (by kernel_rfl) (by kernel_rfl) (fun _ _ _ h => h) (Or.inl ⟨by rfl, ?_⟩) (by assumption) ?_; rotate_left; (· (intro w0 hSw; obtain ⟨y0, y1⟩ := HRD.out _ hSw; clear hSw; go_simp); first | done | with_reducible rfl); (try simp only [Act.put, List.getElem_toArray, List.getElem_cons_succ, List.getElem_cons_zero, List.setIfInBounds_toArray, List.set_cons_zero, List.set_cons_succ])
        refine wpAnyH_take (i := 20 ) (v := ?_) rfl (by kernel_rfl) (by kernel_rfl) (by kernel_rfl) (fun _ _ _ h => h) (Or.inl ⟨by rfl, ?_⟩) (by assumption) ?_; rotate_left; (· (intro w0 hSw; obtain ⟨y0, y1⟩ := HRD.out _ hSw; clear hSw; go_simp); first | done | with_reducible rfl); (try simp only [Act.put, List.getElem_toArray, List.getElem_cons_succ, List.getElem_cons_zero, List.setIfInBounds_toArray, List.set_cons_zero, List.set_cons_succ])
        refine wpAnyH_take (i := 21 ) (v := ?_) rfl (by kernel_rfl) (by kernel_rfl) (by kernel_rfl) (fun _ _ _ h => h) (Or.inl ⟨by rfl, ?_⟩) (by assumption) ?_; rotate_left; (· (intro w0 hSw; obtain ⟨y0, y1⟩ := HRD.out _ hSw; clear hSw; go_simp); first | done | with_reducible rfl); (try simp only [Act.put, List.getElem_toArray, List.getElem_cons_succ, List.getElem_cons_zero, List.setIfInBounds_toArray, List.set_cons_zero, List.set_cons_succ])
        refine wpAnyH_take (i := 22 ) (v := ?_) rfl (by kernel_rfl) (by kernel_rfl) (by kernel_rfl) (fun _ _ _ h => h) (Or.inl ⟨by rfl, ?_⟩) (by assumption) ?_; rotate_left; (· (intro w0 hSw; obtain ⟨y0, y1⟩ := HRD.out _ hSw; clear hSw; go_simp); first | done | with_reducible rfl); (try simp only [Act.put, List.getElem_toArray, List.getElem_cons_succ, List.getElem_cons_zero, List.setIfInBounds_toArray, List.set_cons_zero, List.set_cons_succ])
        refine wpAnyH_take (i := 23 ) (v := ?_) rfl (by kernel_rfl) (by kernel_rfl) (by kernel_rfl) (fun _ _ _ h => h) (Or.inl ⟨by rfl, ?_⟩) (by assumption) ?_; rotate_left; (· (intro w0 hSw; obtain ⟨y0, y1⟩ := HRD.out _ hSw; clear hSw; go_simp); first | done | with_reducible rfl); (try simp only [Act.put, List.getElem_toArray, List.getElem_cons_succ, List.getElem_cons_zero, List.setIfInBounds_toArray, List.set_cons_zero, List.set_cons_succ])
        refine wpAnyH_ready (rs := [24]) (by kernel_rfl) (by simp) ?_
        refine AllReadyH.cons (by simp only [List.getElem?_toArray, List.getElem?_cons_succ, List.getElem?_cons_zero]; rfl) (fun K hK => ?_) AllReadyH.nil
        go_simp
        refine (span9_any _ 3 6).mono ?_
        rintro e V6 ⟨rfl, hb6⟩
        replace HD := Lib.hid (HD.out.trans (hb6.mono HD.out.size))
        clear hb6
        refine hK.out _ _ HD.out (fun hH6 => ?_)
        clear hK K
        try simp only [List.setIfInBounds_toArray, List.set_cons_zero, List.set_cons_succ]
        refine wpAnyH_take (i := 25 ) (v := ?_) rfl (by kernel_rfl) (by kernel_rfl) (by kernel_rfl) (fun _ _ _ h => h) (Or.inl ⟨by rfl, ?_⟩) (by assumption) ?_; rotate_left; (· (intro w0 hSw; obtain ⟨y0, y1⟩ := HRD.out _ hSw; clear hSw; go_simp); first | done | with_reducible rfl); (try simp only [Act.put, List.getElem_toArray, List.getElem_cons_succ, List.getElem_cons_zero, List.setIfInBounds_toArray, List.set_cons_zero, List.set_cons_succ])
        refine wpAnyH_take (i := 26 ) (v := ?_) rfl (by kernel_rfl) (by kernel_rfl) (by kernel_rfl) (fun _ _ _ h => h) (Or.inl ⟨by rfl, ?_⟩) (by assumption) ?_; rotate_left; (· (intro w0 hSw; obtain ⟨y0, y1⟩ := HRD.out _ hSw; clear hSw; go_simp); first | done | with_reducible rfl); (try simp only [Act.put, List.getElem_toArray, List.getElem_cons_succ, List.getElem_cons_zero, List.setIfInBounds_toArray, List.set_cons_zero, List.set_cons_succ])
        refine wpAnyH_take (i := 27 ) (v := ?_) rfl (by kernel_rfl) (by kernel_rfl) (by kernel_rfl) (fun _ _ _ h => h) (Or.inl ⟨by rfl, ?_⟩) (by assumption) ?_; rotate_left; (· (intro w0 hSw; obtain ⟨y0, y1⟩ := HRD.out _ hSw; clear hSw; go_simp); first | done | with_reducible rfl); (try simp only [Act.put, List.getElem_toArray, List.getElem_cons_succ, List.getElem_cons_zero, List.setIfInBounds_toArray, List.set_cons_zero, List.set_cons_succ])
        refine wpAnyH_take (i := 28 ) (v := ?_) rfl (by kernel_rfl) (by kernel_rfl) (by kernel_rfl) (fun _ _ _ h => h) (Or.inl ⟨by rfl, ?_⟩) (by assumption) ?_; rotate_left; (· (intro w0 hSw; obtain ⟨y0, y1⟩ := HRD.out _ hSw; clear hSw; go_simp); first | done | with_reducible rfl); (try simp only [Act.put, List.getElem_toArray, List.getElem_cons_succ, List.getElem_cons_zero, List.setIfInBounds_toArray, List.set_cons_zero, List.set_cons_succ])
        refine wpAnyH_take (i := 29 ) (v := ?_) rfl (by kernel_rfl) (by kernel_rfl) (by kernel_rfl) (fun _ _ _ h => h) (Or.inl ⟨by rfl, ?_⟩) (by assumption) ?_; rotate_left; (· (intro w0 hSw; obtain ⟨y0, y1⟩ := HRD.out _ hSw; clear hSw; go_simp); first | done | with_reducible rfl); (try simp only [Act.put, List.getElem_toArray, List.getElem_cons_succ, List.getElem_cons_zero, List.setIfInBounds_toArray, List.set_cons_zero, List.set_cons_succ])
        refine wpAnyH_take (i := 30 ) (v := ?_) rfl (by kernel_rfl) (by kernel_rfl) (by kernel_rfl) (fun _ _ _ h => h) (Or.inl ⟨by rfl, ?_⟩) (by assumption) ?_; rotate_left; (· (intro w0 hSw; obtain ⟨y0, y1⟩ := HRD.out _ hSw; clear hSw; go_simp); first | done | with_reducible rfl); (try simp only [Act.put, List.getElem_toArray, List.getElem_cons_succ, List.getElem_cons_zero, List.setIfInBounds_toArray, List.set_cons_zero, List.set_cons_succ])
        refine wpAnyH_take (i := 31 ) (v := ?_) rfl (by kernel_rfl) (by kernel_rfl) (by kernel_rfl) (fun _ _ _ h => h) (Or.inl ⟨by rfl, ?_⟩) (by assumption) ?_; rotate_left; (· (intro w0 hSw; obtain ⟨y0, y1⟩ := HRD.out _ hSw; clear hSw; go_simp); first | done | with_reducible rfl); (try simp only [Act.put, List.getElem_toArray, List.getElem_cons_succ, List.getElem_cons_zero, List.setIfInBounds_toArray, List.set_cons_zero, List.set_cons_succ])
        refine wpAnyH_take (i := 32 ) (v := ?_) rfl (by kernel_rfl) (by kernel_rfl) (by kernel_rfl) (fun _ _ _ h => h) (Or.inl ⟨by rfl, ?_⟩) (by assumption) ?_; rotate_left; (· (intro w0 hSw; obtain ⟨y0, y1⟩ := HRD.out _ hSw; clear hSw; go_simp); first | done | with_reducible rfl); (try simp only [Act.put, List.getElem_toArray, List.getElem_cons_succ, List.getElem_cons_zero, List.setIfInBounds_toArray, List.set_cons_zero, List.set_cons_succ])
        refine wpAnyH_take (i := 33 ) (v := ?_) rfl (by kernel_rfl) (by kernel_rfl) (by kernel_rfl) (fun _ _ _ h => h) (Or.inl ⟨by rfl, ?_⟩) (by assumption) ?_; rotate_left; (· (intro w0 hSw; obtain ⟨y0, y1⟩ := HRD.out _ hSw; clear hSw; go_simp); first | done | with_reducible rfl); (try simp only [Act.put, List.getElem_toArray, List.getElem_cons_succ, List.getElem_cons_zero, List.setIfInBounds_toArray, List.set_cons_zero, List.set_cons_succ])
        refine wpAnyH_take (i := 34 ) (v := ?_) rfl (by kernel_rfl) (by kernel_rfl) (by kernel_rfl) (fun _ _ _ h => h) (Or.inl ⟨by rfl, ?_⟩) (by assumption) ?_; rotate_left; (· (intro w0 hSw; obtain ⟨y0, y1⟩ := HRD.out _ hSw; clear hSw; go_simp); first | done | with_reducible rfl); (try simp only [Act.put, List.getElem_toArray, List.getElem_cons_succ, List.getElem_cons_zero, List.setIfInBounds_toArray, List.set_cons_zero, List.set_cons_succ])
        refine wpAnyH_take (i := 35 ) (v := ?_) rfl (by kernel_rfl) (by kernel_rfl) (by kernel_rfl) (fun _ _ _ h => h) (Or.inl ⟨by rfl, ?_⟩) (by assumption) ?_; rotate_left; (· (intro w0 hSw; obtain ⟨y0, y1⟩ := HRD.out _ hSw; clear hSw; go_simp); first | done | with_reducible rfl); (try simp only [Act.put, List.getElem_toArray, List.getElem_cons_succ, List.getElem_cons_zero, List.setIfInBounds_toArray, List.set_cons_zero, List.set_cons_succ])
        refine wpAnyH_take (i := 36 ) (v := ?_) rfl (by kernel_rfl) (by kernel_rfl) (by kernel_rfl) (fun _ _ _ h => h) (Or.inl ⟨by rfl, ?_⟩) (by assumption) ?_; rotate_left; (· (intro w0 hSw; obtain ⟨y0, y1⟩ := HRD.out _ hSw; clear hSw; go_simp); first | done | with_reducible rfl); (try simp only [Act.put, List.getElem_toArray, List.getElem_cons_succ, List.getElem_cons_zero, List.setIfInBounds_toArray, List.set_cons_zero, List.set_cons_succ])
        refine wpAnyH_take (i := 37 ) (v := ?_) rfl (by kernel_rfl) (by kernel_rfl) (by kernel_rfl) (fun _ _ _ h => h) (Or.inl ⟨by rfl, ?_⟩) (by assumption) ?_; rotate_left; (· (intro w0 hSw; obtain ⟨y0, y1⟩ := HRD.out _ hSw; clear hSw; go_simp); first | done | with_reducible rfl); (try simp only [Act.put, List.getElem_toArray, List.getElem_cons_succ, List.getElem_cons_zero, List.setIfInBounds_toArray, List.set_cons_zero, List.set_cons_succ])
        refine wpAnyH_take (i := 38 ) (v := ?_) rfl (by kernel_rfl) (by kernel_rfl) (by kernel_rfl) (fun _ _ _ h => h) (Or.inl ⟨by rfl, ?_⟩) (by assumption) ?_; rotate_left; (· (intro w0 hSw; obtain ⟨y0, y1⟩ := HRD.out _ hSw; clear hSw; go_simp); first | done | with_reducible rfl); (try simp only [Act.put, List.getElem_toArray, List.getElem_cons_succ, List.getElem_cons_zero, List.setIfInBounds_toArray, List.set_cons_zero, List.set_cons_succ])
        refine wpAnyH_take (i := 39 ) (v := ?_) rfl (by kernel_rfl) (by kernel_rfl) (by kernel_rfl) (fun _ _ _ h => h) (Or.inl ⟨by rfl, ?_⟩) (by assumption) ?_; rotate_left; (· (intro w0 hSw; obtain ⟨y0, y1⟩ := HRD.out _ hSw; clear hSw; go_simp); first | done | with_reducible rfl); (try simp only [Act.put, List.getElem_toArray, List.getElem_cons_succ, List.getElem_cons_zero, List.setIfInBounds_toArray, List.set_cons_zero, List.set_cons_succ])
        refine wpAnyH_take (i := 40 ) (v := ?_) rfl (by kernel_rfl) (by kernel_rfl) (by kernel_rfl) (fun _ _ _ h => h) (Or.inl ⟨by rfl, ?_⟩) (by assumption) ?_; rotate_left; (· (intro w0 hSw; obtain ⟨y0, y1⟩ := HRD.out _ hSw; clear hSw; go_simp); first | done | with_reducible rfl); (try simp only [Act.put, List.getElem_toArray, List.getElem_cons_succ, List.getElem_cons_zero, List.setIfInBounds_toArray, List.set_cons_zero, List.set_cons_succ])
        refine wpAnyH_take (i := 41 ) (v := ?_) rfl (by kernel_rfl) (by kernel_rfl) (by kernel_rfl) (fun _ _ _ h => h) (Or.inl ⟨by rfl, ?_⟩) (by assumption) ?_; rotate_left; (· (intro w0 hSw; obtain ⟨y0, y1⟩ := HRD.out _ hSw; clear hSw; go_simp); first | done | with_reducible rfl); (try simp only [Act.put, List.getElem_toArray, List.getElem_cons_succ, List.getElem_cons_zero, List.setIfInBounds_toArray, List.set_cons_zero, List.set_cons_succ])
        refine wpAnyH_take (i := 42 ) (v := ?_) rfl (by kernel_rfl) (by kernel_rfl) (by kernel_rfl) (fun _ _ _ h => h) (Or.inl ⟨by rfl, ?_⟩) (by assumption) ?_; rotate_left; (· (intro w0 hSw; obtain ⟨y0, y1⟩ := HRD.out _ hSw; clear hSw; go_simp); first | done | with_reducible rfl); (try simp only [Act.put, List.getElem_toArray, List.getElem_cons_succ, List.getElem_cons_zero, List.setIfInBounds_toArray, List.set_cons_zero, List.set_cons_succ])
        refine wpAnyH_take (i := 43 ) (v := ?_) rfl (by kernel_rfl) (by kernel_rfl) (by kernel_rfl) (fun _ _ _ h => h) (Or.inl ⟨by rfl, ?_⟩) (by assumption) ?_; rotate_left; (· (intro w0 hSw; obtain ⟨y0, y1⟩ := HRD.out _ hSw; clear hSw; go_simp); first | done | with_reducible rfl); (try simp only [Act.put, List.getElem_toArray, List.getElem_cons_succ, List.getElem_cons_zero, List.setIfInBounds_toArray, List.set_cons_zero, List.set_cons_succ])
        refine wpAnyH_take (i := 44 ) (v := ?_) rfl (by kernel_rfl) (by kernel_rfl) (by kernel_rfl) (fun _ _ _ h => h) (Or.inl ⟨by rfl, ?_⟩) (by assumption) ?_; rotate_left; (· (intro w0 hSw; obtain ⟨y0, y1⟩ := HRD.out _ hSw; clear hSw; go_simp); first | done | with_reducible rfl); (try simp only [Act.put, List.getElem_toArray, List.getElem_cons_succ, List.getElem_cons_zero, List.setIfInBounds_toArray, List.set_cons_zero, List.set_cons_succ])
        refine wpAnyH_take (i := 45 ) (v := ?_) rfl (by kernel_rfl) (by kernel_rfl) (by kernel_rfl) (fun _ _ _ h => h) (Or.inl ⟨by rfl, ?_⟩) (by assumption) ?_; rotate_left; (· (intro w0 hSw; obtain ⟨y0, y1⟩ := HRD.out _ hSw; clear hSw; go_simp); first | done | with_reducible rfl); (try simp only [Act.put, List.getElem_toArray, List.getElem_cons_succ, List.getElem_cons_zero, List.setIfInBounds_toArray, List.set_cons_zero, List.set_cons_succ])
        refine wpAnyH_take (i := 46 ) (v := ?_) rfl (by kernel_rfl) (by kernel_rfl) (by kernel_rfl) (fun _ _ _ h => h) (Or.inl ⟨by rfl, ?_⟩) (by assumption) ?_; rotate_left; (· (intro w0 hSw; obtain ⟨y0, y1⟩ := HRD.out _ hSw; clear hSw; go_simp); first | done | with_reducible rfl); (try simp only [Act.put, List.getElem_toArray, List.getElem_cons_succ, List.getElem_cons_zero, List.setIfInBounds_toArray, List.set_cons_zero, List.set_cons_succ])
        refine wpAnyH_take (i := 47 ) (v := ?_) rfl (by kernel_rfl) (by kernel_rfl) (by kernel_rfl) (fun _ _ _ h => h) (Or.inl ⟨by rfl, ?_⟩) (by assumption) ?_; rotate_left; (· (intro w0 hSw; obtain ⟨y0, y1⟩ := HRD.out _ hSw; clear hSw; go_simp); first | done | with_reducible rfl); (try simp only [Act.put, List.getElem_toArray, List.getElem_cons_succ, List.getElem_cons_zero, List.setIfInBounds_toArray, List.set_cons_zero, List.set_cons_succ])
        refine wpAnyH_done (by kernel_rfl) ?_ _
        go_wp2_with fail
        go_ret
        exact ⟨rfl, HB6.out.trans (HD.out.mono HB6.out.size)⟩
      exact AllReadyH.nil
    refine AllReadyH.cons (by simp only [List.getElem?_toArray, List.getElem?_cons_succ, List.getElem?_cons_zero]; rfl) (fun K hK => ?_) ?_
    · rw [if_pos (by rfl)]
      refine wp_bs 22 3 3 _ (by rfl) #[.int .i64 0, .int .i64 0, .int .i64 0] [.int .i64 0, .int .i64 0, .int .i64 0] (.int .i64 0) 1 (by kernel_rfl) (by kernel_rfl) (by decide) (by rfl) (by rfl) (by rfl) (by rfl) ?_
      simp only [Act.put, List.setIfInBounds_toArray, List.set_cons_zero, List.set_cons_succ]
      have K14 := Lib.hid (Blk.new V1 3 #[.int .i64 0, .int .i64 0, .int .i64 0])
      replace K12 := Lib.hid (K12.out.alloc (.cells #[.int .i64 0, .int .i64 0, .int .i64 0] 3))
      replace HD := Lib.hid (HD.out.alloc HD.out.size (.cells #[.int .i64 0, .int .i64 0, .int .i64 0] 3))
      generalize hz1 : World.alloc V1 _ = V2 at *
      clear hz1
      refine hK.out _ _ HD.out (fun hH2 => ?_)
      clear hK K
      try simp only [List.setIfInBounds_toArray, List.set_cons_zero, List.set_cons_succ]
      refine wpAnyH_ready (rs := [13]) (by kernel_rfl) (by simp) ?_
      refine AllReadyH.cons (by simp only [List.getElem?_toArray, List.getElem?_cons_succ, List.getElem?_cons_zero]; rfl) (fun K hK => ?_) ?_
      · rw [if_pos (by rfl)]
        refine wp_bs 22 3 3 _ (by rfl) #[.int .i64 0, .int .i64 2, .int .i64 4] [.int .i64 0, .int .i64 2, .int .i64 4] (.int .i64 0) 1 (by kernel_rfl) (by kernel_rfl) (by decide) (by rfl) (by rfl) (by rfl) (by rfl) ?_
        simp only [Act.put, List.setIfInBounds_toArray, List.set_cons_zero, List.set_cons_succ]
        have K13 := Lib.hid (Blk.new V2 3 #[.int .i64 0, .int .i64 2, .int .i64 4])
        replace K12 := Lib.hid (K12.out.alloc (.cells #[.int .i64 0, .int .i64 2, .int .i64 4] 3))
        replace K14 := Lib.hid (K14.out.alloc (.cells #[.int .i64 0, .int .i64 2, .int .i64 4] 3))
        replace HD := Lib.hid (HD.out.alloc HD.out.size (.cells #[.int .i64 0, .int .i64 2, .int .i64 4] 3))
        generalize hz2 : World.alloc V2 _ = V3 at *
        clear hz2
        refine hK.out _ _ HD.out (fun hH3 => ?_)
        clear hK K
        try simp only [List.setIfInBounds_toArray, List.set_cons_zero, List.set_cons_succ]
        refine wpAnyH_ready (rs := [15]) (by kernel_rfl) (by simp) ?_
        refine AllReadyH.cons (by simp only [List.getElem?_toArray, List.getElem?_cons_succ, List.getElem?_cons_zero]; rfl) (fun K hK => ?_) AllReadyH.nil
        rw [if_pos (by rfl)]
        refine wp_bs 31 22 3 _ (by rfl) #[.slice (some ⟨V0.heap.size, 0, none⟩) 3 3, .slice (some ⟨V2.heap.size, 0, none⟩) 3 3, .slice (some ⟨V1.heap.size, 0, none⟩) 3 3] [.slice (some ⟨V0.heap.size, 0, none⟩) 3 3, .slice (some ⟨V2.heap.size, 0, none⟩) 3 3, .slice (some ⟨V1.heap.size, 0, none⟩) 3 3] (.slice none 0 0) 1 (by kernel_rfl) (by kernel_rfl) (by decide) (by rfl) (by rfl) (by rfl) (by rfl) ?_
        simp only [Act.put, List.setIfInBounds_toArray, List.set_cons_zero, List.set_cons_succ]
        have K15 := Lib.hid (Blk.new V3 22 #[.slice (some ⟨V0.heap.size, 0, none⟩) 3 3, .slice (some ⟨V2.heap.size, 0, none⟩) 3 3, .slice (some ⟨V1.heap.size, 0, none⟩) 3 3])
        replace K12 := Lib.hid (K12.out.alloc (.cells #[.slice (some ⟨V0.heap.size, 0, none⟩) 3 3, .slice (some ⟨V2.heap.size, 0, none⟩) 3 3, .slice (some ⟨V1.heap.size, 0, none⟩) 3 3] 22))
        replace K14 := Lib.hid (K14.out.alloc (.cells #[.slice (some ⟨V0.heap.size, 0, none⟩) 3 3, .slice (some ⟨V2.heap.size, 0, none⟩) 3 3, .slice (some ⟨V1.heap.size, 0, none⟩) 3 3] 22))
        replace K13 := Lib.hid (K13.out.alloc (.cells #[.slice (some ⟨V0.heap.size, 0, none⟩) 3 3, .slice (some ⟨V2.heap.size, 0, none⟩) 3 3, .slice (some ⟨V1.heap.size, 0, none⟩) 3 3] 22))
        replace HD := Lib.hid (HD.out.alloc HD.out.size (.cells #[.slice (some ⟨V0.heap.size, 0, none⟩) 3 3, .slice (some ⟨V2.heap.size, 0, none⟩) 3 3, .slice (some ⟨V1.heap.size, 0, none⟩) 3 3] 22))
        generalize hz3 : World.alloc V3 _ = V4 at *
        clear hz3
        have HRW := Lib.hid (rRows_any V4 A6 (some ⟨V3.heap.size, 0, none⟩) c6 3 [[8, 2, 0], [0, 2, 4], [0, 0, 0]] [[8, 2, 0], [0, 2, 4], [0, 0, 0]] (by decide) (by decide) (HRO.out _ HD.out) (rows3 K15.out K12.out K13.out K14.out) (by decide) (by decide))
        refine hK.out _ _ HD.out (fun hH4 => ?_)
        clear hK K
        try simp only [List.setIfInBounds_toArray, List.set_cons_zero, List.set_cons_succ]
        refine wpAnyH_ready (rs := [16]) (by kernel_rfl) (by simp) ?_
        refine AllReadyH.cons (by simp only [List.getElem?_toArray, List.getElem?_cons_succ, List.getElem?_cons_zero]; rfl) (fun K hK => ?_) AllReadyH.nil
        go_simp
        refine HRW.out.mono ?_
        rintro e V5 ⟨rfl, hb5⟩
        replace HD := Lib.hid (HD.out.trans (hb5.mono HD.out.size))
        clear hb5 K12 K13 K14 K15 HRW
        refine hK.out _ _ HD.out (fun hH5 => ?_)
        clear hK K
        try simp only [List.setIfInBounds_toArray, List.set_cons_zero, List.set_cons_succ]
        refine wpAnyH_take (i := 17 ) (v := ?_) rfl (by kernel_rfl) (by kernel_rfl) (by kernel_rfl) (fun _ _ _ h => h) (Or.inl ⟨by rfl, ?_⟩) (by assumption) ?_; rotate_left; (· (intro w0 hSw; obtain ⟨y0, y1⟩ := HRD.out _ hSw; clear hSw; go_simp); first | done | with_reducible rfl); (try simp only [Act.put, List.getElem_toArray, List.getElem_cons_succ, List.getElem_cons_zero, List.setIfInBounds_toArray, List.set_cons_zero, List.set_cons_succ])
        refine wpAnyH_take (i := 18 ) (v := ?_) rfl (by kernel_rfl) (by kernel_rfl) (by kernel_rfl) (fun _ _ _ h => h) (Or.inl ⟨by rfl, ?_⟩) (by assumption) ?_; rotate_left; (· (intro w0 hSw; obtain ⟨y0, y1⟩ := HRD.out _ hSw; clear hSw; go_simp); first | done | with_reducible rfl); (try simp only [Act.put, List.getElem_toArray, List.getElem_cons_succ, List.getElem_cons_zero, List.setIfInBounds_toArray, List.set_cons_zero, List.set_cons_succ])
        refine wpAnyH_take (i := 19 ) (v := ?_) rfl (by kernel_rfl) (by kernel_rfl) (by kernel_rfl) (fun _ _ _ h => h) (Or.inl ⟨by rfl, ?_⟩) (by assumption) ?_; rotate_left; (· (intro w0 hSw; obtain ⟨y0, y1⟩ := HRD.out _ hSw; clear hSw; go_simp); first | done | with_reducible rfl); (try simp only [Act.put, List.getElem_toArray, List.getElem_cons_succ, List.getElem_cons_zero, List.setIfInBounds_toArray, List.set_cons_zero, List.set_cons_succ])
        refine wpAnyH_take (i := 20 ) (v := ?_) rfl (by kernel_rfl) (by kernel_rfl) (by kernel_rfl) (fun _ _ _ h => h) (Or.inl ⟨by rfl, ?_⟩) (by assumption) ?_; rotate_left; (· (intro w0 hSw; obtain ⟨y0, y1⟩ := HRD.out _ hSw; clear hSw; go_simp); first | done | with_reducible rfl); (try simp only [Act.put, List.getElem_toArray, List.getElem_cons_succ, List.getElem_cons_zero, List.setIfInBounds_toArray, List.set_cons_zero, List.set_cons_succ])
        refine wpAnyH_take (i := 21 ) (v := ?_) rfl (by kernel_rfl) (by kernel_rfl) (by kernel_rfl) (fun _ _ _ h => h) (Or.inl ⟨by rfl, ?_⟩) (by assumption) ?_; rotate_left; (· (intro w0 hSw; obtain ⟨y0, y1⟩ := HRD.out _ hSw; clear hSw; go_simp); first | done | with_reducible rfl); (try simp only [Act.put, List.getElem_toArray, List.getElem_cons_succ, List.getElem_cons_zero, List.setIfInBounds_toArray, List.set_cons_zero, List.set_cons_succ])
        refine wpAnyH_take (i := 22 ) (v := ?_) rfl (by kernel_rfl) (by kernel_rfl) (by kernel_rfl) (fun _ _ _ h => h) (Or.inl ⟨by rfl, ?_⟩) (by assumption) ?_; rotate_left; (· (intro w0 hSw; obtain ⟨y0, y1⟩ := HRD.out _ hSw; clear hSw; go_simp); first | done | with_reducible rfl); (try simp only [Act.put, List.getElem_toArray, List.getElem_cons_succ, List.getElem_cons_zero, List.setIfInBounds_toArray, List.set_cons_zero, List.set_cons_succ])
        refine wpAnyH_take (i := 23 ) (v := ?_) rfl (by kernel_rfl) (by kernel_rfl) (by kernel_rfl) (fun _ _ _ h => h) (Or.inl ⟨by rfl, ?_⟩) (by assumption) ?_; rotate_left; (· (intro w0 hSw; obtain ⟨y0, y1⟩ := HRD.out _ hSw; clear hSw; go_simp); first | done | with_reducible rfl); (try simp only [Act.put, List.getElem_toArray, List.getElem_cons_succ, List.getElem_cons_zero, List.setIfInBounds_toArray, List.set_cons_zero, List.set_cons_succ])
        refine wpAnyH_ready (rs := [24]) (by kernel_rfl) (by simp) ?_
        refine AllReadyH.cons (by simp only [List.getElem?_toArray, List.getElem?_cons_succ, List.getElem?_cons_zero]; rfl) (fun K hK => ?_) AllReadyH.nil
        go_simp
        refine (span9_any _ 3 6).mono ?_
        rintro e V6 ⟨rfl, hb6⟩
        replace HD := Lib.hid (HD.out.trans (hb6.mono HD.out.size))
        clear hb6
        refine hK.out _ _ HD.out (fun hH6 => ?_)
        clear hK K
        try simp only [List.setIfInBounds_toArray, List.set_cons_zero, List.set_cons_succ]
        refine wpAnyH_take (i := 25 ) (v := ?_) rfl (by kernel_rfl) (by kernel_rfl) (by kernel_rfl) (fun _ _ _ h => h) (Or.inl ⟨by rfl, ?_⟩) (by assumption) ?_; rotate_left; (· (intro w0 hSw; obtain ⟨y0, y1⟩ := HRD.out _ hSw; clear hSw; go_simp); first | done | with_reducible rfl); (try simp only [Act.put, List.getElem_toArray, List.getElem_cons_succ, List.getElem_cons_zero, List.setIfInBounds_toArray, List.set_cons_zero, List.set_cons_succ])
        refine wpAnyH_take (i := 26 ) (v := ?_) rfl (by kernel_rfl) (by kernel_rfl) (by kernel_rfl) (fun _ _ _ h => h) (Or.inl ⟨by rfl, ?_⟩) (by assumption) ?_; rotate_left; (· (intro w0 hSw; obtain ⟨y0, y1⟩ := HRD.out _ hSw; clear hSw; go_simp); first | done | with_reducible rfl); (try simp only [Act.put, List.getElem_toArray, List.getElem_cons_succ, List.getElem_cons_zero, List.setIfInBounds_toArray, List.set_cons_zero, List.set_cons_succ])
        refine wpAnyH_take (i := 27 ) (v := ?_) rfl (by kernel_rfl) (by kernel_rfl) (by kernel_rfl) (fun _ _ _ h => h) (Or.inl ⟨by rfl, ?_⟩) (by assumption) ?_; rotate_left; (· (intro w0 hSw; obtain ⟨y0, y1⟩ := HRD.out _ hSw; clear hSw; go_simp); first | done | with_reducible rfl); (try simp only [Act.put, List.getElem_toArray, List.getElem_cons_succ, List.getElem_cons_zero, List.setIfInBounds_toArray, List.set_cons_zero, List.set_cons_succ])
        refine wpAnyH_take (i := 28 ) (v := ?_) rfl (by kernel_rfl) (by kernel_rfl) (by kernel_rfl) (fun _ _ _ h => h) (Or.inl ⟨by rfl, ?_⟩) (by assumption) ?_; rotate_left; (· (intro w0 hSw; obtain ⟨y0, y1⟩ := HRD.out _ hSw; clear hSw; go_simp); first | done | with_reducible rfl); (try simp only [Act.put, List.getElem_toArray, List.getElem_cons_succ, List.getElem_cons_zero, List.setIfInBounds_toArray, List.set_cons_zero, List.set_cons_succ])
        refine wpAnyH_take (i := 29 ) (v := ?_) rfl (by kernel_rfl) (by kernel_rfl) (by kernel_rfl) (fun _ _ _ h => h) (Or.inl ⟨by rfl, ?_⟩) (by assumption) ?_; rotate_left; (· (intro w0 hSw; obtain ⟨y0, y1⟩ := HRD.out _ hSw; clear hSw; go_simp); first | done | with_reducible rfl); (try simp only [Act.put, List.getElem_toArray, List.getElem_cons_succ, List.getElem_cons_zero, List.setIfInBounds_toArray, List.set_cons_zero, List.set_cons_succ])
        refine wpAnyH_take (i := 30 ) (v := ?_) rfl (by kernel_rfl) (by kernel_rfl) (by kernel_rfl) (fun _ _ _ h => h) (Or.inl ⟨by rfl, ?_⟩) (by assumption) ?_; rotate_left; (· (intro w0 hSw; obtain ⟨y0, y1⟩ := HRD.out _ hSw; clear hSw; go_simp); first | done | with_reducible rfl); (try simp only [Act.put, List.getElem_toArray, List.getElem_cons_succ, List.getElem_cons_zero, List.setIfInBounds_toArray, List.set_cons_zero, List.set_cons_succ])
        refine wpAnyH_take (i := 31 ) (v := ?_) rfl (by kernel_rfl) (by kernel_rfl) (by kernel_rfl) (fun _ _ _ h => h) (Or.inl ⟨by rfl, ?_⟩) (by assumption) ?_; rotate_left; (· (intro w0 hSw; obtain ⟨y0, y1⟩ := HRD.out _ hSw; clear hSw; go_simp); first | done | with_reducible rfl); (try simp only [Act.put, List.getElem_toArray, List.getElem_cons_succ, List.getElem_cons_zero, List.setIfInBounds_toArray, List.set_cons_zero, List.set_cons_succ])
        refine wpAnyH_take (i := 32 ) (v := ?_) rfl (by kernel_rfl) (by kernel_rfl) (by kernel_rfl) (fun _ _ _ h => h) (Or.inl ⟨by rfl, ?_⟩) (by assumption) ?_; rotate_left; (· (intro w0 hSw; obtain ⟨y0, y1⟩ := HRD.out _ hSw; clear hSw; go_simp); first | done | with_reducible rfl); (try simp only [Act.put, List.getElem_toArray, List.getElem_cons_succ, List.getElem_cons_zero, List.setIfInBounds_toArray, List.set_cons_zero, List.set_cons_succ])
        refine wpAnyH_take (i := 33 ) (v := ?_) rfl (by kernel_rfl) (by kernel_rfl) (by kernel_rfl) (fun _ _ _ h => h) (Or.inl ⟨by rfl, ?_⟩) (by assumption) ?_; rotate_left; (· (intro w0 hSw; obtain ⟨y0, y1⟩ := HRD.out _ hSw; clear hSw; go_simp); first | done | with_reducible rfl); (try simp only [Act.put, List.getElem_toArray, List.getElem_cons_succ, List.getElem_cons_zero, List.setIfInBounds_toArray, List.set_cons_zero, List.set_cons_succ])
        refine wpAnyH_take (i := 34 ) (v := ?_) rfl (by kernel_rfl) (by kernel_rfl) (by kernel_rfl) (fun _ _ _ h => h) (Or.inl ⟨by rfl, ?_⟩) (by assumption) ?_; rotate_left; (· (intro w0 hSw; obtain ⟨y0, y1⟩ := HRD.out _ hSw; clear hSw; go_simp); first | done | with_reducible rfl); (try simp only [Act.put, List.getElem_toArray, List.getElem_cons_succ, List.getElem_cons_zero, List.setIfInBounds_toArray, List.set_cons_zero, List.set_cons_succ])
        refine wpAnyH_take (i := 35 ) (v := ?_) rfl (by kernel_rfl) (by kernel_rfl) (by kernel_rfl) (fun _ _ _ h => h) (Or.inl ⟨by rfl, ?_⟩) (by assumption) ?_; rotate_left; (· (intro w0 hSw; obtain ⟨y0, y1⟩ := HRD.out _ hSw; clear hSw; go_simp); first | done | with_reducible rfl); (try simp only [Act.put, List.getElem_toArray, List.getElem_cons_succ, List.getElem_cons_zero, List.setIfInBounds_toArray, List.set_cons_zero, List.set_cons_succ])
        refine wpAnyH_take (i := 36 ) (v := ?_) rfl (by kernel_rfl) (by kernel_rfl) (by kernel_rfl) (fun _ _ _ h => h) (Or.inl ⟨by rfl, ?_⟩) (by assumption) ?_; rotate_left; (· (intro w0 hSw; obtain ⟨y0, y1⟩ := HRD.out _ hSw; clear hSw; go_simp); first | done | with_reducible rfl); (try simp only [Act.put, List.getElem_toArray, List.getElem_cons_succ, List.getElem_cons_zero, List.setIfInBounds_toArray, List.set_cons_zero, List.set_cons_succ])
        refine wpAnyH_take (i := 37 ) (v := ?_) rfl (by kernel_rfl) (by kernel_rfl) (by kernel_rfl) (fun _ _ _ h => h) (Or.inl ⟨by rfl, ?_⟩) (by assumption) ?_; rotate_left; (· (intro w0 hSw; obtain ⟨y0, y1⟩ := HRD.out _ hSw; clear hSw; go_simp); first | done | with_reducible rfl); (try simp only [Act.put, List.getElem_toArray, List.getElem_cons_succ, List.getElem_cons_zero, List.setIfInBounds_toArray, List.set_cons_zero, List.set_cons_succ])
        refine wpAnyH_take (i := 38 ) (v := ?_) rfl (by kernel_rfl) (by kernel_rfl) (by kernel_rfl) (fun _ _ _ h => h) (Or.inl ⟨by rfl, ?_⟩) (by assumption) ?_; rotate_left; (· (intro w0 hSw; obtain ⟨y0, y1⟩ := HRD.out _ hSw; clear hSw; go_simp); first | done | with_reducible rfl); (try simp only [Act.put, List.getElem_toArray, List.getElem_cons_succ, List.getElem_cons_zero, List.setIfInBounds_toArray, List.set_cons_zero, List.set_cons_succ])
        refine wpAnyH_take (i := 39 ) (v := ?_) rfl (by kernel_rfl) (by kernel_rfl) (by kernel_rfl) (fun _ _ _ h => h) (Or.inl ⟨by rfl, ?_⟩) (by assumption) ?_; rotate_left; (· (intro w0 hSw; obtain ⟨y0, y1⟩ := HRD.out _ hSw; clear hSw; go_simp); first | done | with_reducible rfl); (try simp only [Act.put, List.getElem_toArray, List.getElem_cons_succ, List.getElem_cons_zero, List.setIfInBounds_toArray, List.set_cons_zero, List.set_cons_succ])
        refine wpAnyH_take (i := 40 ) (v := ?_) rfl (by kernel_rfl) (by kernel_rfl) (by kernel_rfl) (fun _ _ _ h => h) (Or.inl ⟨by rfl, ?_⟩) (by assumption) ?_; rotate_left; (· (intro w0 hSw; obtain ⟨y0, y1⟩ := HRD.out _ hSw; clear hSw; go_simp); first | done | with_reducible rfl); (try simp only [Act.put, List.getElem_toArray, List.getElem_cons_succ, List.getElem_cons_zero, List.setIfInBounds_toArray, List.set_cons_zero, List.set_cons_succ])
        refine wpAnyH_take (i := 41 ) (v := ?_) rfl (by kernel_rfl) (by kernel_rfl) (by kernel_rfl) (fun _ _ _ h => h) (Or.inl ⟨by rfl, ?_⟩) (by assumption) ?_; rotate_left; (· (intro w0 hSw; obtain ⟨y0, y1⟩ := HRD.out _ hSw; clear hSw; go_simp); first | done | with_reducible rfl); (try simp only [Act.put, List.getElem_toArray, List.getElem_cons_succ, List.getElem_cons_zero, List.setIfInBounds_toArray, List.set_cons_zero, List.set_cons_succ])
        refine wpAnyH_take (i := 42 ) (v := ?_) rfl (by kernel_rfl) (by kernel_rfl) (by kernel_rfl) (fun _ _ _ h => h) (Or.inl ⟨by rfl, ?_⟩) (by assumption) ?_; rotate_left; (· (intro w0 hSw; obtain ⟨y0, y1⟩ := HRD.out _ hSw; clear hSw; go_simp); first | done | with_reducible rfl); (try simp only [Act.put, List.getElem_toArray, List.getElem_cons_succ, List.getElem_cons_zero, List.setIfInBounds_toArray, List.set_cons_zero, List.set_cons_succ])
        refine wpAnyH_take (i := 43 ) (v := ?_) rfl (by kernel_rfl) (by kernel_rfl) (by kernel_rfl) (fun _ _ _ h => h) (Or.inl ⟨by rfl, ?_⟩) (by assumption) ?_; rotate_left; (· (intro w0 hSw; obtain ⟨y0, y1⟩ := HRD.out _ hSw; clear hSw; go_simp); first | done | with_reducible rfl); (try simp only [Act.put, List.getElem_toArray, List.getElem_cons_succ, List.getElem_cons_zero, List.setIfInBounds_toArray, List.set_cons_zero, List.set_cons_succ])
        refine wpAnyH_take (i := 44 ) (v := ?_) rfl (by kernel_rfl) (by kernel_rfl) (by kernel_rfl) (fun _ _ _ h => h) (Or.inl ⟨by rfl, ?_⟩) (by assumption) ?_; rotate_left; (· (intro w0 hSw; obtain ⟨y0, y1⟩ := HRD.out _ hSw; clear hSw; go_simp); first | done | with_reducible rfl); (try simp only [Act.put, List.getElem_toArray, List.getElem_cons_succ, List.getElem_cons_zero, List.setIfInBounds_toArray, List.set_cons_zero, List.set_cons_succ])
        refine wpAnyH_take (i := 45 ) (v := ?_) rfl (by kernel_rfl) (by kernel_rfl) (by kernel_rfl) (fun _ _ _ h => h) (Or.inl ⟨by rfl, ?_⟩) (by assumption) ?_; rotate_left; (· (intro w0 hSw; obtain ⟨y0, y1⟩ := HRD.out _ hSw; clear hSw; go_simp); first | done | with_reducible rfl); (try simp only [Act.put, List.getElem_toArray, List.getElem_cons_succ, List.getElem_cons_zero, List.setIfInBounds_toArray, List.set_cons_zero, List.set_cons_succ])
        refine wpAnyH_take (i := 46 ) (v := ?_) rfl (by kernel_rfl) (by kernel_rfl) (by kernel_rfl) (fun _ _ _ h => h) (Or.inl ⟨by rfl, ?_⟩) (by assumption) ?_; rotate_left; (· (intro w0 hSw; obtain ⟨y0, y1⟩ := HRD.out _ hSw; clear hSw; go_simp); first | done | with_reducible rfl); (try simp only [Act.put, List.getElem_toArray, List.getElem_cons_succ, List.getElem_cons_zero, List.setIfInBounds_toArray, List.set_cons_zero, List.set_cons_succ])
        refine wpAnyH_take (i := 47 ) (v := ?_) rfl (by kernel_rfl) (by kernel_rfl) (by kernel_rfl) (fun _ _ _ h => h) (Or.inl ⟨by rfl, ?_⟩) (by assumption) ?_; rotate_left; (· (intro w0 hSw; obtain ⟨y0, y1⟩ := HRD.out _ hSw; clear hSw; go_simp); first | done | with_reducible rfl); (try simp only [Act.put, List.getElem_toArray, List.getElem_cons_succ, List.getElem_cons_zero, List.setIfInBounds_toArray, List.set_cons_zero, List.set_cons_succ])
        refine wpAnyH_done (by kernel_rfl) ?_ _
        go_wp2_with fail
        go_ret
        exact ⟨rfl, HB6.out.trans (HD.out.mono HB6.out.size)⟩
      exact AllReadyH.nil
    exact AllReadyH.nil
  refine AllReadyH.cons (by simp only [List.getElem?_toArray, List.getElem?_cons_succ, List.getElem?_cons_zero]; rfl) (fun K hK => ?_) ?_
  · rw [if_pos (by rfl)]
    refine wp_bs 22 3 3 _ (by rfl) #[.int .i64 0, .int .i64 2, .int .i64 4] [.int .i64 0, .int .i64 2, .int .i64 4] (.int .i64 0) 1 (by kernel_rfl) (by kernel_rfl) (by decide) (by rfl) (by rfl) (by rfl) (by rfl) ?_
    simp only [Act.put, List.setIfInBounds_toArray, List.set_cons_zero, List.set_cons_succ]
    have K13 := Lib.hid (Blk.new V0 3 #[.int .i64 0, .int .i64 2, .int .i64 4])
    replace HD := Lib.hid (HD.out.alloc HD.out.size (.cells #[.int .i64 0, .int .i64 2, .int .i64 4] 3))
    generalize hz0 : World.alloc V0 _ = V1 at *
    clear hz0
    refine hK.out _ _ HD.out (fun hH1 => ?_)
    clear hK K
    try simp only [List.setIfInBounds_toArray, List.set_cons_zero, List.set_cons_succ]
    refine wpAnyH_ready (rs := [12, 14]) (by kernel_rfl) (by simp) ?_
    refine AllReadyH.cons (by simp only [List.getElem?_toArray, List.getElem?_cons_succ, List.getElem?_cons_zero]; rfl) (fun K hK => ?_) ?_
    · rw [if_pos (by rfl)]
      refine wp_bs 22 3 3 _ (by rfl) #[.int .i64 8, .int .i64 2, .int .i64 0] [.int .i64 8, .int .i64 2, .int .i64 0] (.int .i64 0) 1 (by kernel_rfl) (by kernel_rfl) (by decide) (by rfl) (by rfl) (by rfl) (by rfl) ?_
      simp only [Act.put, List.setIfInBounds_toArray, List.set_cons_zero, List.set_cons_succ]
      have K12 := Lib.hid (Blk.new V1 3 #[.int .i64 8, .int .i64 2, .int .i64 0])
      replace K13 := Lib.hid (K13.out.alloc (.cells #[.int .i64 8, .int .i64 2, .int .i64 0] 3))
      replace HD := Lib.hid (HD.out.alloc HD.out.size (.cells #[.int .i64 8, .int .i64 2, .int .i64 0] 3))
      generalize hz1 : World.alloc V1 _ = V2 at *
      clear hz1
      refine hK.out _ _ HD.out (fun hH2 => ?_)
      clear hK K
      try simp only [List.setIfInBounds_toArray, List.set_cons_zero, List.set_cons_succ]
      refine wpAnyH_ready (rs := [14]) (by kernel_rfl) (by simp) ?_
      refine AllReadyH.cons (by simp only [List.getElem?_toArray, List.getElem?_cons_succ, List.getElem?_cons_zero]; rfl) (fun K hK => ?_) ?_
      · rw [if_pos (by rfl)]
        refine wp_bs 22 3 3 _ (by rfl) #[.int .i64 0, .int .i64 0, .int .i64 0] [.int .i64 0, .int .i64 0, .int .i64 0] (.int .i64 0) 1 (by kernel_rfl) (by kernel_rfl) (by decide) (by rfl) (by rfl) (by rfl) (by rfl) ?_
        simp only [Act.put, List.setIfInBounds_toArray, List.set_cons_zero, List.set_cons_succ]
        have K14 := Lib.hid (Blk.new V2 3 #[.int .i64 0, .int .i64 0, .int .i64 0])
        replace K13 := Lib.hid (K13.out.alloc (.cells #[.int .i64 0, .int .i64 0, .int .i64 0] 3))
        replace K12 := Lib.hid (K12.out.alloc (.cells #[.int .i64 0, .int .i64 0, .int .i64 0] 3))
        replace HD := Lib.hid (HD.out.alloc HD.out.size (.cells #[.int .i64 0, .int .i64 0, .int .i64 0] 3))
        generalize hz2 : World.alloc V2 _ = V3 at *
        clear hz2
        refine hK.out _ _ HD.out (fun hH3 => ?_)
        clear hK K
        try simp only [List.setIfInBounds_toArray, List.set_cons_zero, List.set_cons_succ]
        refine wpAnyH_ready (rs := [15]) (by kernel_rfl) (by simp) ?_
        refine AllReadyH.cons (by simp only [List.getElem?_toArray, List.getElem?_cons_succ, List.getElem?_cons_zero]; rfl) (fun K hK => ?_) AllReadyH.nil
        rw [if_pos (by rfl)]
        refine wp_bs 31 22 3 _ (by rfl) #[.slice (some ⟨V1.heap.size, 0, none⟩) 3 3, .slice (some ⟨V0.heap.size, 0, none⟩) 3 3, .slice (some ⟨V2.heap.size, 0, none⟩) 3 3] [.slice (some ⟨V1.heap.size, 0, none⟩) 3 3, .slice (some ⟨V0.heap.size, 0, none⟩) 3 3, .slice (some ⟨V2.heap.size, 0, none⟩) 3 3] (.slice none 0 0) 1 (by kernel_rfl) (by kernel_rfl) (by decide) (by rfl) (by rfl) (by rfl) (by rfl) ?_
        simp only [Act.put, List.setIfInBounds_toArray, List.set_cons_zero, List.set_cons_succ]
        have K15 := Lib.hid (Blk.new V3 22 #[.slice (some ⟨V1.heap.size, 0, none⟩) 3 3, .slice (some ⟨V0.heap.size, 0, none⟩) 3 3, .slice (some ⟨V2.heap.size, 0, none⟩) 3 3])
        replace K13 := Lib.hid (K13.out.alloc (.cells #[.slice (some ⟨V1.heap.size, 0, none⟩) 3 3, .slice (some ⟨V0.heap.size, 0, none⟩) 3 3, .slice (some ⟨V2.heap.size, 0, none⟩) 3 3] 22))
        replace K12 := Lib.hid (K12.out.alloc (.cells #[.slice (some ⟨V1.heap.size, 0, none⟩) 3 3, .slice (some ⟨V0.heap.size, 0, none⟩) 3 3, .slice (some ⟨V2.heap.size, 0, none⟩) 3 3] 22))
        replace K14 := Lib.hid (K14.out.alloc (.cells #[.slice (some ⟨V1.heap.size, 0, none⟩) 3 3, .slice (some ⟨V0.heap.size, 0, none⟩) 3 3, .slice (some ⟨V2.heap.size, 0, none⟩) 3 3] 22))
        replace HD := Lib.hid (HD.out.alloc HD.out.size (.cells #[.slice (some ⟨V1.heap.size, 0, none⟩) 3 3, .slice (some ⟨V0.heap.size, 0, none⟩) 3 3, .slice (some ⟨V2.heap.size, 0, none⟩) 3 3] 22))
        generalize hz3 : World.alloc V3 _ = V4 at *
        clear hz3
        have HRW := Lib.hid (rRows_any V4 A6 (some ⟨V3.heap.size, 0, none⟩) c6 3 [[8, 2, 0], [0, 2, 4], [0, 0, 0]] [[8, 2, 0], [0, 2, 4], [0, 0, 0]] (by decide) (by decide) (HRO.out _ HD.out) (rows3 K15.out K12.out K13.out K14.out) (by decide) (by decide))
        refine hK.out _ _ HD.out (fun hH4 => ?_)
        clear hK K
        try simp only [List.setIfInBounds_toArray, List.set_cons_zero, List.set_cons_succ]
        refine wpAnyH_ready (rs := [16]) (by kernel_rfl) (by simp) ?_
        refine AllReadyH.cons (by simp only [List.getElem?_toArray, List.getElem?_cons_succ, List.getElem?_cons_zero]; rfl) (fun K hK => ?_) AllReadyH.nil
        go_simp
        refine HRW.out.mono ?_
        rintro e V5 ⟨rfl, hb5⟩
        replace HD := Lib.hid (HD.out.trans (hb5.mono HD.out.size))
        clear hb5 K12 K13 K14 K15 HRW
        refine hK.out _ _ HD.out (fun hH5 => ?_)
        clear hK K
        try simp only [List.setIfInBounds_toArray, List.set_cons_zero, List.set_cons_succ]
        refine wpAnyH_take (i := 17 ) (v := ?_) rfl (by kernel_rfl) (by kernel_rfl) (by kernel_rfl) (fun _ _ _ h => h) (Or.inl ⟨by rfl, ?_⟩) (by assumption) ?_; rotate_left; (· (intro w0 hSw; obtain ⟨y0, y1⟩ := HRD.out _ hSw; clear hSw; go_simp); first | done | with_reducible rfl); (try simp only [Act.put, List.getElem_toArray, List.getElem_cons_succ, List.getElem_cons_zero, List.setIfInBounds_toArray, List.set_cons_zero, List.set_cons_succ])
        refine wpAnyH_take (i := 18 ) (v := ?_) rfl (by kernel_rfl) (by kernel_rfl) (by kernel_rfl) (fun _ _ _ h => h) (Or.inl ⟨by rfl, ?_⟩) (by assumption) ?_; rotate_left; (· (intro w0 hSw; obtain ⟨y0, y1⟩ := HRD.out _ hSw; clear hSw; go_simp); first | done | with_reducible rfl); (try simp only [Act.put, List.getElem_toArray, List.getElem_cons_succ, List.getElem_cons_zero, List.setIfInBounds_toArray, List.set_cons_zero, List.set_cons_succ])
        refine wpAnyH_take (i := 19 ) (v := ?_) rfl (by kernel_rfl) (by kernel_rfl) (by kernel_rfl) (fun _ _ _ h => h) (Or.inl ⟨by rfl, ?_⟩) (by assumption) ?_; rotate_left; (· (intro w0 hSw; obtain ⟨y0, y1⟩ := HRD.out _ hSw; clear hSw; go_simp); first | done | with_reducible rfl); (try simp only [Act.put, List.getElem_toArray, List.getElem_cons_succ, List.getElem_cons_zero, List.setIfInBounds_toArray, List.set_cons_zero, List.set_cons_succ])
        refine wpAnyH_take (i := 20 ) (v := ?_) rfl (by kernel_rfl) (by kernel_rfl) (by kernel_rfl) (fun _ _ _ h => h) (Or.inl ⟨by rfl, ?_⟩) (by assumption) ?_; rotate_left; (· (intro w0 hSw; obtain ⟨y0, y1⟩ := HRD.out _ hSw; clear hSw; go_simp); first | done | with_reducible rfl); (try simp only [Act.put, List.getElem_toArray, List.getElem_cons_succ, List.getElem_cons_zero, List.setIfInBounds_toArray, List.set_cons_zero, List.set_cons_succ])
        refine wpAnyH_take (i := 21 ) (v := ?_) rfl (by kernel_rfl) (by kernel_rfl) (by kernel_rfl) (fun _ _ _ h => h) (Or.inl ⟨by rfl, ?_⟩) (by assumption) ?_; rotate_left; (· (intro w0 hSw; obtain ⟨y0, y1⟩ := HRD.out _ hSw; clear hSw; go_simp); first | done | with_reducible rfl); (try simp only [Act.put, List.getElem_toArray, List.getElem_cons_succ, List.getElem_cons_zero, List.setIfInBounds_toArray, List.set_cons_zero, List.set_cons_succ])
        refine wpAnyH_take (i := 22 ) (v := ?_) rfl (by kernel_rfl) (by kernel_rfl) (by kernel_rfl) (fun _ _ _ h => h) (Or.inl ⟨by rfl, ?_⟩) (by assumption) ?_; rotate_left; (· (intro w0 hSw; obtain ⟨y0, y1⟩ := HRD.out _ hSw; clear hSw; go_simp); first | done | with_reducible rfl); (try simp only [Act.put, List.getElem_toArray, List.getElem_cons_succ, List.getElem_cons_zero, List.setIfInBounds_toArray, List.set_cons_zero, List.set_cons_succ])
        refine wpAnyH_take (i := 23 ) (v := ?_) rfl (by kernel_rfl) (by kernel_rfl) (by kernel_rfl) (fun _ _ _ h => h) (Or.inl ⟨by rfl, ?_⟩) (by assumption) ?_; rotate_left; (· (intro w0 hSw; obtain ⟨y0, y1⟩ := HRD.out _ hSw; clear hSw; go_simp); first | done | with_reducible rfl); (try simp only [Act.put, List.getElem_toArray, List.getElem_cons_succ, List.getElem_cons_zero, List.setIfInBounds_toArray, List.set_cons_zero, List.set_cons_succ])
        refine wpAnyH_ready (rs := [24]) (by kernel_rfl) (by simp) ?_
        refine AllReadyH.cons (by simp only [List.getElem?_toArray, List.getElem?_cons_succ, List.getElem?_cons_zero]; rfl) (fun K hK => ?_) AllReadyH.nil
        go_simp
        refine (span9_any _ 3 6).mono ?_
        rintro e V6 ⟨rfl, hb6⟩
        replace HD := Lib.hid (HD.out.trans (hb6.mono HD.out.size))
        clear hb6
        refine hK.out _ _ HD.out (fun hH6 => ?_)
        clear hK K
        try simp only [List.setIfInBounds_toArray, List.set_cons_zero, List.set_cons_succ]
        refine wpAnyH_take (i := 25 ) (v := ?_) rfl (by kernel_rfl) (by kernel_rfl) (by kernel_rfl) (fun _ _ _ h => h) (Or.inl ⟨by rfl, ?_⟩) (by assumption) ?_; rotate_left; (· (intro w0 hSw; obtain ⟨y0, y1⟩ := HRD.out _ hSw; clear hSw; go_simp); first | done | with_reducible rfl); (try simp only [Act.put, List.getElem_toArray, List.getElem_cons_succ, List.getElem_cons_zero, List.setIfInBounds_toArray, List.set_cons_zero, List.set_cons_succ])
        refine wpAnyH_take (i := 26 ) (v := ?_) rfl (by kernel_rfl) (by kernel_rfl) (by kernel_rfl) (fun _ _ _ h => h) (Or.inl ⟨by rfl, ?_⟩) (by assumption) ?_; rotate_left; (· (intro w0 hSw; obtain ⟨y0, y1⟩ := HRD.out _ hSw; clear hSw; go_simp); first | done | with_reducible rfl); (try simp only [Act.put, List.getElem_toArray, List.getElem_cons_succ, List.getElem_cons_zero, List.setIfInBounds_toArray, List.set_cons_zero, List.set_cons_succ])
        refine wpAnyH_take (i := 27 ) (v := ?_) rfl (by kernel_rfl) (by kernel_rfl) (by kernel_rfl) (fun _ _ _ h => h) (Or.inl ⟨by rfl, ?_⟩) (by assumption) ?_; rotate_left; (· (intro w0 hSw; obtain ⟨y0, y1⟩ := HRD.out _ hSw; clear hSw; go_simp); first | done | with_reducible rfl); (try simp only [Act.put, List.getElem_toArray, List.getElem_cons_succ, List.getElem_cons_zero, List.setIfInBounds_toArray, List.set_cons_zero, List.set_cons_succ])
        refine wpAnyH_take (i := 28 ) (v := ?_) rfl (by kernel_rfl) (by kernel_rfl) (by kernel_rfl) (fun _ _ _ h => h) (Or.inl ⟨by rfl, ?_⟩) (by assumption) ?_; rotate_left; (· (intro w0 hSw; obtain ⟨y0, y1⟩ := HRD.out _ hSw; clear hSw; go_simp); first | done | with_reducible rfl); (try simp only [Act.put, List.getElem_toArray, List.getElem_cons_succ, List.getElem_cons_zero, List.setIfInBounds_toArray, List.set_cons_zero, List.set_cons_succ])
        refine wpAnyH_take (i := 29 ) (v := ?_) rfl (by kernel_rfl) (by kernel_rfl) (by kernel_rfl) (fun _ _ _ h => h) (Or.inl ⟨by rfl, ?_⟩) (by assumption) ?_; rotate_left; (· (intro w0 hSw; obtain ⟨y0, y1⟩ := HRD.out _ hSw; clear hSw; go_simp); first | done | with_reducible rfl); (try simp only [Act.put, List.getElem_toArray, List.getElem_cons_succ, List.getElem_cons_zero, List.setIfInBounds_toArray, List.set_cons_zero, List.set_cons_succ])
        refine wpAnyH_take (i := 30 ) (v := ?_) rfl (by kernel_rfl) (by kernel_rfl) (by kernel_rfl) (fun _ _ _ h => h) (Or.inl ⟨by rfl, ?_⟩) (by assumption) ?_; rotate_left; (· (intro w0 hSw; obtain ⟨y0, y1⟩ := HRD.out _ hSw; clear hSw; go_simp); first | done | with_reducible rfl); (try simp only [Act.put, List.getElem_toArray, List.getElem_cons_succ, List.getElem_cons_zero, List.setIfInBounds_toArray, List.set_cons_zero, List.set_cons_succ])
        refine wpAnyH_take (i := 31 ) (v := ?_) rfl (by kernel_rfl) (by kernel_rfl) (by kernel_rfl) (fun _ _ _ h => h) (Or.inl ⟨by rfl, ?_⟩) (by assumption) ?_; rotate_left; (· (intro w0 hSw; obtain ⟨y0, y1⟩ := HRD.out _ hSw; clear hSw; go_simp); first | done | with_reducible rfl); (try simp only [Act.put, List.getElem_toArray, List.getElem_cons_succ, List.getElem_cons_zero, List.setIfInBounds_toArray, List.set_cons_zero, List.set_cons_succ])
        refine wpAnyH_take (i := 32 ) (v := ?_) rfl (by kernel_rfl) (by kernel_rfl) (by kernel_rfl) (fun _ _ _ h => h) (Or.inl ⟨by rfl, ?_⟩) (by assumption) ?_; rotate_left; (· (intro w0 hSw; obtain ⟨y0, y1⟩ := HRD.out _ hSw; clear hSw; go_simp); first | done | with_reducible rfl); (try simp only [Act.put, List.getElem_toArray, List.getElem_cons_succ, List.getElem_cons_zero, List.setIfInBounds_toArray, List.set_cons_zero, List.set_cons_succ])
        refine wpAnyH_take (i := 33 ) (v := ?_) rfl (by kernel_rfl) (by kernel_rfl) (by kernel_rfl) (fun _ _ _ h => h) (Or.inl ⟨by rfl, ?_⟩) (by assumption) ?_; rotate_left; (· (intro w0 hSw; obtain ⟨y0, y1⟩ := HRD.out _ hSw; clear hSw; go_simp); first | done | with_reducible rfl); (try simp only [Act.put, List.getElem_toArray, List.getElem_cons_succ, List.getElem_cons_zero, List.setIfInBounds_toArray, List.set_cons_zero, List.set_cons_succ])
        refine wpAnyH_take (i := 34 ) (v := ?_) rfl (by kernel_rfl) (by kernel_rfl) (by kernel_rfl) (fun _ _ _ h => h) (Or.inl ⟨by rfl, ?_⟩) (by assumption) ?_; rotate_left; (· (intro w0 hSw; obtain ⟨y0, y1⟩ := HRD.out _ hSw; clear hSw; go_simp); first | done | with_reducible rfl); (try simp only [Act.put, List.getElem_toArray, List.getElem_cons_succ, List.getElem_cons_zero, List.setIfInBounds_toArray, List.set_cons_zero, List.set_cons_succ])
        refine wpAnyH_take (i := 35 ) (v := ?_) rfl (by kernel_rfl) (by kernel_rfl) (by kernel_rfl) (fun _ _ _ h => h) (Or.inl ⟨by rfl, ?_⟩) (by assumption) ?_; rotate_left; (· (intro w0 hSw; obtain ⟨y0, y1⟩ := HRD.out _ hSw; clear hSw; go_simp); first | done | with_reducible rfl); (try simp only [Act.put, List.getElem_toArray, List.getElem_cons_succ, List.getElem_cons_zero, List.setIfInBounds_toArray, List.set_cons_zero, List.set_cons_succ])
        refine wpAnyH_take (i := 36 ) (v := ?_) rfl (by kernel_rfl) (by kernel_rfl) (by kernel_rfl) (fun _ _ _ h => h) (Or.inl ⟨by rfl, ?_⟩) (by assumption) ?_; rotate_left; (· (intro w0 hSw; obtain ⟨y0, y1⟩ := HRD.out _ hSw; clear hSw; go_simp); first | done | with_reducible rfl); (try simp only [Act.put, List.getElem_toArray, List.getElem_cons_succ, List.getElem_cons_zero, List.setIfInBounds_toArray, List.set_cons_zero, List.set_cons_succ])
        refine wpAnyH_take (i := 37 ) (v := ?_) rfl (by kernel_rfl) (by kernel_rfl) (by kernel_rfl) (fun _ _ _ h => h) (Or.inl ⟨by rfl, ?_⟩) (by assumption) ?_; rotate_left; (· (intro w0 hSw; obtain ⟨y0, y1⟩ := HRD.out _ hSw; clear hSw; go_simp); first | done | with_reducible rfl); (try simp only [Act.put, List.getElem_toArray, List.getElem_cons_succ, List.getElem_cons_zero, List.setIfInBounds_toArray, List.set_cons_zero, List.set_cons_succ])
        refine wpAnyH_take (i := 38 ) (v := ?_) rfl (by kernel_rfl) (by kernel_rfl) (by kernel_rfl) (fun _ _ _ h => h) (Or.inl ⟨by rfl, ?_⟩) (by assumption) ?_; rotate_left; (· (intro w0 hSw; obtain ⟨y0, y1⟩ := HRD.out _ hSw; clear hSw; go_simp); first | done | with_reducible rfl); (try simp only [Act.put, List.getElem_toArray, List.getElem_cons_succ, List.getElem_cons_zero, List.setIfInBounds_toArray, List.set_cons_zero, List.set_cons_succ])
        refine wpAnyH_take (i := 39 ) (v := ?_) rfl (by kernel_rfl) (by kernel_rfl) (by kernel_rfl) (fun _ _ _ h => h) (Or.inl ⟨by rfl, ?_⟩) (by assumption) ?_; rotate_left; (· (intro w0 hSw; obtain ⟨y0, y1⟩ := HRD.out _ hSw; clear hSw; go_simp); first | done | with_reducible rfl); (try simp only [Act.put, List.getElem_toArray, List.getElem_cons_succ, List.getElem_cons_zero, List.setIfInBounds_toArray, List.set_cons_zero, List.set_cons_succ])
        refine wpAnyH_take (i := 40 ) (v := ?_) rfl (by kernel_rfl) (by kernel_rfl) (by kernel_rfl) (fun _ _ _ h => h) (Or.inl ⟨by rfl, ?_⟩) (by assumption) ?_; rotate_left; (· (intro w0 hSw; obtain ⟨y0, y1⟩ := HRD.out _ hSw; clear hSw; go_simp); first | done | with_reducible rfl); (try simp only [Act.put, List.getElem_toArray, List.getElem_cons_succ, List.getElem_cons_zero, List.setIfInBounds_toArray, List.set_cons_zero, List.set_cons_succ])
        refine wpAnyH_take (i := 41 ) (v := ?_) rfl (by kernel_rfl) (by kernel_rfl) (by kernel_rfl) (fun _ _ _ h => h) (Or.inl ⟨by rfl, ?_⟩) (by assumption) ?_; rotate_left; (· (intro w0 hSw; obtain ⟨y0, y1⟩ := HRD.out _ hSw; clear hSw; go_simp); first | done | with_reducible rfl); (try simp only [Act.put, List.getElem_toArray, List.getElem_cons_succ, List.getElem_cons_zero, List.setIfInBounds_toArray, List.set_cons_zero, List.set_cons_succ])
        refine wpAnyH_take (i := 42 ) (v := ?_) rfl (by kernel_rfl) (by kernel_rfl) (by kernel_rfl) (fun _ _ _ h => h) (Or.inl ⟨by rfl, ?_⟩) (by assumption) ?_; rotate_left; (· (intro w0 hSw; obtain ⟨y0, y1⟩ := HRD.out _ hSw; clear hSw; go_simp); first | done | with_reducible rfl); (try simp only [Act.put, List.getElem_toArray, List.getElem_cons_succ, List.getElem_cons_zero, List.setIfInBounds_toArray, List.set_cons_zero, List.set_cons_succ])
        refine wpAnyH_take (i := 43 ) (v := ?_) rfl (by kernel_rfl) (by kernel_rfl) (by kernel_rfl) (fun _ _ _ h => h) (Or.inl ⟨by rfl, ?_⟩) (by assumption) ?_; rotate_left; (· (intro w0 hSw; obtain ⟨y0, y1⟩ := HRD.out _ hSw; clear hSw; go_simp); first | done | with_reducible rfl); (try simp only [Act.put, List.getElem_toArray, List.getElem_cons_succ, List.getElem_cons_zero, List.setIfInBounds_toArray, List.set_cons_zero, List.set_cons_succ])
        refine wpAnyH_take (i := 44 ) (v := ?_) rfl (by kernel_rfl) (by kernel_rfl) (by kernel_rfl) (fun _ _ _ h => h) (Or.inl ⟨by rfl, ?_⟩) (by assumption) ?_; rotate_left; (· (intro w0 hSw; obtain ⟨y0, y1⟩ := HRD.out _ hSw; clear hSw; go_simp); first | done | with_reducible rfl); (try simp only [Act.put, List.getElem_toArray, List.getElem_cons_succ, List.getElem_cons_zero, List.setIfInBounds_toArray, List.set_cons_zero, List.set_cons_succ])
        refine wpAnyH_take (i := 45 ) (v := ?_) rfl (by kernel_rfl) (by kernel_rfl) (by kernel_rfl) (fun _ _ _ h => h) (Or.inl ⟨by rfl, ?_⟩) (by assumption) ?_; rotate_left; (· (intro w0 hSw; obtain ⟨y0, y1⟩ := HRD.out _ hSw; clear hSw; go_simp); first | done | with_reducible rfl); (try simp only [Act.put, List.getElem_toArray, List.getElem_cons_succ, List.getElem_cons_zero, List.setIfInBounds_toArray, List.set_cons_zero, List.set_cons_succ])
        refine wpAnyH_take (i := 46 ) (v := ?_) rfl (by kernel_rfl) (by kernel_rfl) (by kernel_rfl) (fun _ _ _ h => h) (Or.inl ⟨by rfl, ?_⟩) (by assumption) ?_; rotate_left; (· (intro w0 hSw; obtain ⟨y0, y1⟩ := HRD.out _ hSw; clear hSw; go_simp); first | done | with_reducible rfl); (try simp only [Act.put, List.getElem_toArray, List.getElem_cons_succ, List.getElem_cons_zero, List.setIfInBounds_toArray, List.set_cons_zero, List.set_cons_succ])
        refine wpAnyH_take (i := 47 ) (v := ?_) rfl (by kernel_rfl) (by kernel_rfl) (by kernel_rfl) (fun _ _ _ h => h) (Or.inl ⟨by rfl, ?_⟩) (by assumption) ?_; rotate_left; (· (intro w0 hSw; obtain ⟨y0, y1⟩ := HRD.out _ hSw; clear hSw; go_simp); first | done | with_reducible rfl); (try simp only [Act.put, List.getElem_toArray, List.getElem_cons_succ, List.getElem_cons_zero, List.setIfInBounds_toArray, List.set_cons_zero, List.set_cons_succ])
        refine wpAnyH_done (by kernel_rfl) ?_ _
        go_wp2_with fail
        go_ret
        exact ⟨rfl, HB6.out.trans (HD.out.mono HB6.out.size)⟩
      exact AllReadyH.nil
    refine AllReadyH.cons (by simp only [List.getElem?_toArray, List.getElem?_cons_succ, List.getElem?_cons_zero]; rfl) (fun K hK => ?_) ?_
    · rw [if_pos (by rfl)]
      refine wp_bs 22 3 3 _ (by rfl) #[.int .i64 0, .int .i64 0, .int .i64 0] [.int .i64 0, .int .i64 0, .int .i64 0] (.int .i64 0) 1 (by kernel_rfl) (by kernel_rfl) (by decide) (by rfl) (by rfl) (by rfl) (by rfl) ?_
      simp only [Act.put, List.setIfInBounds_toArray, List.set_cons_zero, List.set_cons_succ]
      have K14 := Lib.hid (Blk.new V1 3 #[.int .i64 0, .int .i64 0, .int .i64 0])
      replace K13 := Lib.hid (K13.out.alloc (.cells #[.int .i64 0, .int .i64 0, .int .i64 0] 3))
      replace HD := Lib.hid (HD.out.alloc HD.out.size (.cells #[.int .i64 0, .int .i64 0, .int .i64 0] 3))
      generalize hz1 : World.alloc V1 _ = V2 at *
      clear hz1
      refine hK.out _ _ HD.out (fun hH2 => ?_)
      clear hK K
      try simp only [List.setIfInBounds_toArray, List.set_cons_zero, List.set_cons_succ]
      refine wpAnyH_ready (rs := [12]) (by kernel_rfl) (by simp) ?_
      refine AllReadyH.cons (by simp only [List.getElem?_toArray, List.getElem?_cons_succ, List.getElem?_cons_zero]; rfl) (fun K hK => ?_) ?_
      · rw [if_pos (by rfl)]
        refine wp_bs 22 3 3 _ (by rfl) #[.int .i64 8, .int .i64 2, .int .i64 0] [.int .i64 8, .int .i64 2, .int .i64 0] (.int .i64 0) 1 (by kernel_rfl) (by kernel_rfl) (by decide) (by rfl) (by rfl) (by rfl) (by rfl) ?_
        simp only [Act.put, List.setIfInBounds_toArray, List.set_cons_zero, List.set_cons_succ]
        have K12 := Lib.hid (Blk.new V2 3 #[.int .i64 8, .int .i64 2, .int .i64 0])
        replace K13 := Lib.hid (K13.out.alloc (.cells #[.int .i64 8, .int .i64 2, .int .i64 0] 3))
        replace K14 := Lib.hid (K14.out.alloc (.cells #[.int .i64 8, .int .i64 2, .int .i64 0] 3))
        replace HD := Lib.hid (HD.out.alloc HD.out.size (.cells #[.int .i64 8, .int .i64 2, .int .i64 0] 3))
        generalize hz2 : World.alloc V2 _ = V3 at *
        clear hz2
        refine hK.out _ _ HD.out (fun hH3 => ?_)
        clear hK K
        try simp only [List.setIfInBounds_toArray, List.set_cons_zero, List.set_cons_succ]
        refine wpAnyH_ready (rs := [15]) (by kernel_rfl) (by simp) ?_
        refine AllReadyH.cons (by simp only [List.getElem?_toArray, List.getElem?_cons_succ, List.getElem?_cons_zero]; rfl) (fun K hK => ?_) AllReadyH.nil
        rw [if_pos (by rfl)]
        refine wp_bs 31 22 3 _ (by rfl) #[.slice (some ⟨V2.heap.size, 0, none⟩) 3 3, .slice (some ⟨V0.heap.size, 0, none⟩) 3 3, .slice (some ⟨V1.heap.size, 0, none⟩) 3 3] [.slice (some ⟨V2.heap.size, 0, none⟩) 3 3, .slice (some ⟨V0.heap.size, 0, none⟩) 3 3, .slice (some ⟨V1.heap.size, 0, none⟩) 3 3] (.slice none 0 0) 1 (by kernel_rfl) (by kernel_rfl) (by decide) (by rfl) (by rfl) (by rfl) (by rfl) ?_
        simp only [Act.put, List.setIfInBounds_toArray, List.set_cons_zero, List.set_cons_succ]
        have K15 := Lib.hid (Blk.new V3 22 #[.slice (some ⟨V2.heap.size, 0, none⟩) 3 3, .slice (some ⟨V0.heap.size, 0, none⟩) 3 3, .slice (some ⟨V1.heap.size, 0, none⟩) 3 3])
        replace K13 := Lib.hid (K13.out.alloc (.cells #[.slice (some ⟨V2.heap.size, 0, none⟩) 3 3, .slice (some ⟨V0.heap.size, 0, none⟩) 3 3, .slice (some ⟨V1.heap.size, 0, none⟩) 3 3] 22))
        replace K14 := Lib.hid (K14.out.alloc (.cells #[.slice (some ⟨V2.heap.size, 0, none⟩) 3 3, .slice (some ⟨V0.heap.size, 0, none⟩) 3 3, .slice (some ⟨V1.heap.size, 0, none⟩) 3 3] 22))
        replace K12 := Lib.hid (K12.out.alloc (.cells #[.slice (some ⟨V2.heap.size, 0, none⟩) 3 3, .slice (some ⟨V0.heap.size, 0, none⟩) 3 3, .slice (some ⟨V1.heap.size, 0, none⟩) 3 3] 22))
        replace HD := Lib.hid (HD.out.alloc HD.out.size (.cells #[.slice (some ⟨V2.heap.size, 0, none⟩) 3 3, .slice (some ⟨V0.heap.size, 0, none⟩) 3 3, .slice (some ⟨V1.heap.size, 0, none⟩) 3 3] 22))
        generalize hz3 : World.alloc V3 _ = V4 at *
        clear hz3
        have HRW := Lib.hid (rRows_any V4 A6 (some ⟨V3.heap.size, 0, none⟩) c6 3 [[8, 2, 0], [0, 2, 4], [0, 0, 0]] [[8, 2, 0], [0, 2, 4], [0, 0, 0]] (by decide) (by decide) (HRO.out _ HD.out) (rows3 K15.out K12.out K13.out K14.out) (by decide) (by decide))
        refine hK.out _ _ HD.out (fun hH4 => ?_)
        clear hK K
        try simp only [List.setIfInBounds_toArray, List.set_cons_zero, List.set_cons_succ]
        refine wpAnyH_ready (rs := [16]) (by kernel_rfl) (by simp) ?_
        refine AllReadyH.cons (by simp only [List.getElem?_toArray, List.getElem?_cons_succ, List.getElem?_cons_zero]; rfl) (fun K hK => ?_) AllReadyH.nil
        go_simp
        refine HRW.out.mono ?_
        rintro e V5 ⟨rfl, hb5⟩
        replace HD := Lib.hid (HD.out.trans (hb5.mono HD.out.size))
        clear hb5 K12 K13 K14 K15 HRW
        refine hK.out _ _ HD.out (fun hH5 => ?_)
        clear hK K
        try simp only [List.setIfInBounds_toArray, List.set_cons_zero, List.set_cons_succ]
        refine wpAnyH_take (i := 17 ) (v := ?_) rfl (by kernel_rfl) (by kernel_rfl) (by kernel_rfl) (fun _ _ _ h => h) (Or.inl ⟨by rfl, ?_⟩) (by assumption) ?_; rotate_left; (· (intro w0 hSw; obtain ⟨y0, y1⟩ := HRD.out _ hSw; clear hSw; go_simp); first | done | with_reducible rfl); (try simp only [Act.put, List.getElem_toArray, List.getElem_cons_succ, List.getElem_cons_zero, List.setIfInBounds_toArray, List.set_cons_zero, List.set_cons_succ])
        refine wpAnyH_take (i := 18 ) (v := ?_) rfl (by kernel_rfl) (by kernel_rfl) (by kernel_rfl) (fun _ _ _ h => h) (Or.inl ⟨by rfl, ?_⟩) (by assumption) ?_; rotate_left; (· (intro w0 hSw; obtain ⟨y0, y1⟩ := HRD.out _ hSw; clear hSw; go_simp); first | done | with_reducible rfl); (try simp only [Act.put, List.getElem_toArray, List.getElem_cons_succ, List.getElem_cons_zero, List.setIfInBounds_toArray, List.set_cons_zero, List.set_cons_succ])
        refine wpAnyH_take (i := 19 ) (v := ?_) rfl (by kernel_rfl) (by kernel_rfl) (by kernel_rfl) (fun _ _ _ h => h) (Or.inl ⟨by rfl, ?_⟩) (by assumption) ?_; rotate_left; (· (intro w0 hSw; obtain ⟨y0, y1⟩ := HRD.out _ hSw; clear hSw; go_simp); first | done | with_reducible rfl); (try simp only [Act.put, List.getElem_toArray, List.getElem_cons_succ, List.getElem_cons_zero, List.setIfInBounds_toArray, List.set_cons_zero, List.set_cons_succ])
        refine wpAnyH_take (i := 20 ) (v := ?_) rfl (by kernel_rfl) (by kernel_rfl) (by kernel_rfl) (fun _ _ _ h => h) (Or.inl ⟨by rfl, ?_⟩) (by assumption) ?_; rotate_left; (· (intro w0 hSw; obtain ⟨y0, y1⟩ := HRD.out _ hSw; clear hSw; go_simp); first | done | with_reducible rfl); (try simp only [Act.put, List.getElem_toArray, List.getElem_cons_succ, List.getElem_cons_zero, List.setIfInBounds_toArray, List.set_cons_zero, List.set_cons_succ])
        refine wpAnyH_take (i := 21 ) (v := ?_) rfl (by kernel_rfl) (by kernel_rfl) (by kernel_rfl) (fun _ _ _ h => h) (Or.inl ⟨by rfl, ?_⟩) (by assumption) ?_; rotate_left; (· (intro w0 hSw; obtain ⟨y0, y1⟩ := HRD.out _ hSw; clear hSw; go_simp); first | done | with_reducible rfl); (try simp only [Act.put, List.getElem_toArray, List.getElem_cons_succ, List.getElem_cons_zero, List.setIfInBounds_toArray, List.set_cons_zero, List.set_cons_succ])
        refine wpAnyH_take (i := 22 ) (v := ?_) rfl (by kernel_rfl) (by kernel_rfl) (by kernel_rfl) (fun _ _ _ h => h) (Or.inl ⟨by rfl, ?_⟩) (by assumption) ?_; rotate_left; (· (intro w0 hSw; obtain ⟨y0, y1⟩ := HRD.out _ hSw; clear hSw; go_simp); first | done | with_reducible rfl); (try simp only [Act.put, List.getElem_toArray, List.getElem_cons_succ, List.getElem_cons_zero, List.setIfInBounds_toArray, List.set_cons_zero, List.set_cons_succ])
        refine wpAnyH_take (i := 23 ) (v := ?_) rfl (by kernel_rfl) (by kernel_rfl) (by kernel_rfl) (fun _ _ _ h => h) (Or.inl ⟨by rfl, ?_⟩) (by assumption) ?_; rotate_left; (· (intro w0 hSw; obtain ⟨y0, y1⟩ := HRD.out _ hSw; clear hSw; go_simp); first | done | with_reducible rfl); (try simp only [Act.put, List.getElem_toArray, List.getElem_cons_succ, List.getElem_cons_zero, List.setIfInBounds_toArray, List.set_cons_zero, List.set_cons_succ])
        refine wpAnyH_ready (rs := [24]) (by kernel_rfl) (by simp) ?_
        refine AllReadyH.cons (by simp only [List.getElem?_toArray, List.getElem?_cons_succ, List.getElem?_cons_zero]; rfl) (fun K hK => ?_) AllReadyH.nil
        go_simp
        refine (span9_any _ 3 6).mono ?_
        rintro e V6 ⟨rfl, hb6⟩
        replace HD := Lib.hid (HD.out.trans (hb6.mono HD.out.size))
        clear hb6
        refine hK.out _ _ HD.out (fun hH6 => ?_)
        clear hK K
        try simp only [List.setIfInBounds_toArray, List.set_cons_zero, List.set_cons_succ]
        refine wpAnyH_take (i := 25 ) (v := ?_) rfl (by kernel_rfl) (by kernel_rfl) (by kernel_rfl) (fun _ _ _ h => h) (Or.inl ⟨by rfl, ?_⟩) (by assumption) ?_; rotate_left; (· (intro w0 hSw; obtain ⟨y0, y1⟩ := HRD.out _ hSw; clear hSw; go_simp); first | done | with_reducible rfl); (try simp only [Act.put, List.getElem_toArray, List.getElem_cons_succ, List.getElem_cons_zero, List.setIfInBounds_toArray, List.set_cons_zero, List.set_cons_succ])
        refine wpAnyH_take (i := 26 ) (v := ?_) rfl (by kernel_rfl) (by kernel_rfl) (by kernel_rfl) (fun _ _ _ h => h) (Or.inl ⟨by rfl, ?_⟩) (by assumption) ?_; rotate_left; (· (intro w0 hSw; obtain ⟨y0, y1⟩ := HRD.out _ hSw; clear hSw; go_simp); first | done | with_reducible rfl); (try simp only [Act.put, List.getElem_toArray, List.getElem_cons_succ, List.getElem_cons_zero, List.setIfInBounds_toArray, List.set_cons_zero, List.set_cons_succ])
        refine wpAnyH_take (i := 27 ) (v := ?_) rfl (by kernel_rfl) (by kernel_rfl) (by kernel_rfl) (fun _ _ _ h => h) (Or.inl ⟨by rfl, ?_⟩) (by assumption) ?_; rotate_left; (· (intro w0 hSw; obtain ⟨y0, y1⟩ := HRD.out _ hSw; clear hSw; go_simp); first | done | with_reducible rfl); (try simp only [Act.put, List.getElem_toArray, List.getElem_cons_succ, List.getElem_cons_zero, List.setIfInBounds_toArray, List.set_cons_zero, List.set_cons_succ])
        refine wpAnyH_take (i := 28 ) (v := ?_) rfl (by kernel_rfl) (by kernel_rfl) (by kernel_rfl) (fun _ _ _ h => h) (Or.inl ⟨by rfl, ?_⟩) (by assumption) ?_; rotate_left; (· (intro w0 hSw; obtain ⟨y0, y1⟩ := HRD.out _ hSw; clear hSw; go_simp); first | done | with_reducible rfl); (try simp only [Act.put, List.getElem_toArray, List.getElem_cons_succ, List.getElem_cons_zero, List.setIfInBounds_toArray, List.set_cons_zero, List.set_cons_succ])
        refine wpAnyH_take (i := 29 ) (v := ?_) rfl (by kernel_rfl) (by kernel_rfl) (by kernel_rfl) (fun _ _ _ h => h) (Or.inl ⟨by rfl, ?_⟩) (by assumption) ?_; rotate_left; (· (intro w0 hSw; obtain ⟨y0, y1⟩ := HRD.out _ hSw; clear hSw; go_simp); first | done | with_reducible rfl); (try simp only [Act.put, List.getElem_toArray, List.getElem_cons_succ, List.getElem_cons_zero, List.setIfInBounds_toArray, List.set_cons_zero, List.set_cons_succ])
        refine wpAnyH_take (i := 30 ) (v := ?_) rfl (by kernel_rfl) (by kernel_rfl) (by kernel_rfl) (fun _ _ _ h => h) (Or.inl ⟨by rfl, ?_⟩) (by assumption) ?_; rotate_left; (· (intro w0 hSw; obtain ⟨y0, y1⟩ := HRD.out _ hSw; clear hSw; go_simp); first | done | with_reducible rfl); (try simp only [Act.put, List.getElem_toArray, List.getElem_cons_succ, List.getElem_cons_zero, List.setIfInBounds_toArray, List.set_cons_zero, List.set_cons_succ])
        refine wpAnyH_take (i := 31 ) (v := ?_) rfl (by kernel_rfl) (by kernel_rfl) (by kernel_rfl) (fun _ _ _ h => h) (Or.inl ⟨by rfl, ?_⟩) (by assumption) ?_; rotate_left; (· (intro w0 hSw; obtain ⟨y0, y1⟩ := HRD.out _ hSw; clear hSw; go_simp); first | done | with_reducible rfl); (try simp only [Act.put, List.getElem_toArray, List.getElem_cons_succ, List.getElem_cons_zero, List.setIfInBounds_toArray, List.set_cons_zero, List.set_cons_succ])
        refine wpAnyH_take (i := 32 ) (v := ?_) rfl (by kernel_rfl) (by kernel_rfl) (by kernel_rfl) (fun _ _ _ h => h) (Or.inl ⟨by rfl, ?_⟩) (by assumption) ?_; rotate_left; (· (intro w0 hSw; obtain ⟨y0, y1⟩ := HRD.out _ hSw; clear hSw; go_simp); first | done | with_reducible rfl); (try simp only [Act.put, List.getElem_toArray, List.getElem_cons_succ, List.getElem_cons_zero, List.setIfInBounds_toArray, List.set_cons_zero, List.set_cons_succ])
        refine wpAnyH_take (i := 33 ) (v := ?_) rfl (by kernel_rfl) (by kernel_rfl) (by kernel_rfl) (fun _ _ _ h => h) (Or.inl ⟨by rfl, ?_⟩) (by assumption) ?_; rotate_left; (· (intro w0 hSw; obtain ⟨y0, y1⟩ := HRD.out _ hSw; clear hSw; go_simp); first | done | with_reducible rfl); (try simp only [Act.put, List.getElem_toArray, List.getElem_cons_succ, List.getElem_cons_zero, List.setIfInBounds_toArray, List.set_cons_zero, List.set_cons_succ])
        refine wpAnyH_take (i := 34 ) (v := ?_) rfl (by kernel_rfl) (by kernel_rfl) (by kernel_rfl) (fun _ _ _ h => h) (Or.inl ⟨by rfl, ?_⟩) (by assumption) ?_; rotate_left; (· (intro w0 hSw; obtain ⟨y0, y1⟩ := HRD.out _ hSw; clear hSw; go_simp); first | done | with_reducible rfl); (try simp only [Act.put, List.getElem_toArray, List.getElem_cons_succ, List.getElem_cons_zero, List.setIfInBounds_toArray, List.set_cons_zero, List.set_cons_succ])
        refine wpAnyH_take (i := 35 ) (v := ?_) rfl (by kernel_rfl) (by kernel_rfl) (by kernel_rfl) (fun _ _ _ h => h) (Or.inl ⟨by rfl, ?_⟩) (by assumption) ?_; rotate_left; (· (intro w0 hSw; obtain ⟨y0, y1⟩ := HRD.out _ hSw; clear hSw; go_simp); first | done | with_reducible rfl); (try simp only [Act.put, List.getElem_toArray, List.getElem_cons_succ, List.getElem_cons_zero, List.setIfInBounds_toArray, List.set_cons_zero, List.set_cons_succ])
        refine wpAnyH_take (i := 36 ) (v := ?_) rfl (by kernel_rfl) (by kernel_rfl) (by kernel_rfl) (fun _ _ _ h => h) (Or.inl ⟨by rfl, ?_⟩) (by assumption) ?_; rotate_left; (· (intro w0 hSw; obtain ⟨y0, y1⟩ := HRD.out _ hSw; clear hSw; go_simp); first | done | with_reducible rfl); (try simp only [Act.put, List.getElem_toArray, List.getElem_cons_succ, List.getElem_cons_zero, List.setIfInBounds_toArray, List.set_cons_zero, List.set_cons_succ])
        refine wpAnyH_take (i := 37 ) (v := ?_) rfl (by kernel_rfl) (by kernel_rfl) (by kernel_rfl) (fun _ _ _ h => h) (Or.inl ⟨by rfl, ?_⟩) (by assumption) ?_; rotate_left; (· (intro w0 hSw; obtain ⟨y0, y1⟩ := HRD.out _ hSw; clear hSw; go_simp); first | done | with_reducible rfl); (try simp only [Act.put, List.getElem_toArray, List.getElem_cons_succ, List.getElem_cons_zero, List.setIfInBounds_toArray, List.set_cons_zero, List.set_cons_succ])
        refine wpAnyH_take (i := 38 ) (v := ?_) rfl (by kernel_rfl) (by kernel_rfl) (by kernel_rfl) (fun _ _ _ h => h) (Or.inl ⟨by rfl, ?_⟩) (by assumption) ?_; rotate_left; (· (intro w0 hSw; obtain ⟨y0, y1⟩ := HRD.out _ hSw; clear hSw; go_simp); first | done | with_reducible rfl); (try simp only [Act.put, List.getElem_toArray, List.getElem_cons_succ, List.getElem_cons_zero, List.setIfInBounds_toArray, List.set_cons_zero, List.set_cons_succ])
        refine wpAnyH_take (i := 39 ) (v := ?_) rfl (by kernel_rfl) (by kernel_rfl) (by kernel_rfl) (fun _ _ _ h => h) (Or.inl ⟨by rfl, ?_⟩) (by assumption) ?_; rotate_left; (· (intro w0 hSw; obtain ⟨y0, y1⟩ := HRD.out _ hSw; clear hSw; go_simp); first | done | with_reducible rfl); (try simp only [Act.put, List.getElem_toArray, List.getElem_cons_succ, List.getElem_cons_zero, List.setIfInBounds_toArray, List.set_cons_zero, List.set_cons_succ])
        refine wpAnyH_take (i := 40 ) (v := ?_) rfl (by kernel_rfl) (by kernel_rfl) (by kernel_rfl) (fun _ _ _ h => h) (Or.inl ⟨by rfl, ?_⟩) (by assumption) ?_; rotate_left; (· (intro w0 hSw; obtain ⟨y0, y1⟩ := HRD.out _ hSw; clear hSw; go_simp); first | done | with_reducible rfl); (try simp only [Act.put, List.getElem_toArray, List.getElem_cons_succ, List.getElem_cons_zero, List.setIfInBounds_toArray, List.set_cons_zero, List.set_cons_succ])
        refine wpAnyH_take (i := 41 ) (v := ?_) rfl (by kernel_rfl) (by kernel_rfl) (by kernel_rfl) (fun _ _ _ h => h) (Or.inl ⟨by rfl, ?_⟩) (by assumption) ?_; rotate_left; (· (intro w0 hSw; obtain ⟨y0, y1⟩ := HRD.out _ hSw; clear hSw; go_simp); first | done | with_reducible rfl); (try simp only [Act.put, List.getElem_toArray, List.getElem_cons_succ, List.getElem_cons_zero, List.setIfInBounds_toArray, List.set_cons_zero, List.set_cons_succ])
        refine wpAnyH_take (i := 42 ) (v := ?_) rfl (by kernel_rfl) (by kernel_rfl) (by kernel_rfl) (fun _ _ _ h => h) (Or.inl ⟨by rfl, ?_⟩) (by assumption) ?_; rotate_left; (· (intro w0 hSw; obtain ⟨y0, y1⟩ := HRD.out _ hSw; clear hSw; go_simp); first | done | with_reducible rfl); (try simp only [Act.put, List.getElem_toArray, List.getElem_cons_succ, List.getElem_cons_zero, List.setIfInBounds_toArray, List.set_cons_zero, List.set_cons_succ])
        refine wpAnyH_take (i := 43 ) (v := ?_) rfl (by kernel_rfl) (by kernel_rfl) (by kernel_rfl) (fun _ _ _ h => h) (Or.inl ⟨by rfl, ?_⟩) (by assumption) ?_; rotate_left; (· (intro w0 hSw; obtain ⟨y0, y1⟩ := HRD.out _ hSw; clear hSw; go_simp); first | done | with_reducible rfl); (try simp only [Act.put, List.getElem_toArray, List.getElem_cons_succ, List.getElem_cons_zero, List.setIfInBounds_toArray, List.set_cons_zero, List.set_cons_succ])
        refine wpAnyH_take (i := 44 ) (v := ?_) rfl (by kernel_rfl) (by kernel_rfl) (by kernel_rfl) (fun _ _ _ h => h) (Or.inl ⟨by rfl, ?_⟩) (by assumption) ?_; rotate_left; (· (intro w0 hSw; obtain ⟨y0, y1⟩ := HRD.out _ hSw; clear hSw; go_simp); first | done | with_reducible rfl); (try simp only [Act.put, List.getElem_toArray, List.getElem_cons_succ, List.getElem_cons_zero, List.setIfInBounds_toArray, List.set_cons_zero, List.set_cons_succ])
        refine wpAnyH_take (i := 45 ) (v := ?_) rfl (by kernel_rfl) (by kernel_rfl) (by kernel_rfl) (fun _ _ _ h => h) (Or.inl ⟨by rfl, ?_⟩) (by assumption) ?_; rotate_left; (· (intro w0 hSw; obtain ⟨y0, y1⟩ := HRD.out _ hSw; clear hSw; go_simp); first | done | with_reducible rfl); (try simp only [Act.put, List.getElem_toArray, List.getElem_cons_succ, List.getElem_cons_zero, List.setIfInBounds_toArray, List.set_cons_zero, List.set_cons_succ])
        refine wpAnyH_take (i := 46 ) (v := ?_) rfl (by kernel_rfl) (by kernel_rfl) (by kernel_rfl) (fun _ _ _ h => h) (Or.inl ⟨by rfl, ?_⟩) (by assumption) ?_; rotate_left; (· (intro w0 hSw; obtain ⟨y0, y1⟩ := HRD.out _ hSw; clear hSw; go_simp); first | done | with_reducible rfl); (try simp only [Act.put, List.getElem_toArray, List.getElem_cons_succ, List.getElem_cons_zero, List.setIfInBounds_toArray, List.set_cons_zero, List.set_cons_succ])
        refine wpAnyH_take (i := 47 ) (v := ?_) rfl (by kernel_rfl) (by kernel_rfl) (by kernel_rfl) (fun _ _ _ h => h) (Or.inl ⟨by rfl, ?_⟩) (by assumption) ?_; rotate_left; (· (intro w0 hSw; obtain ⟨y0, y1⟩ := HRD.out _ hSw; clear hSw; go_simp); first | done | with_reducible rfl); (try simp only [Act.put, List.getElem_toArray, List.getElem_cons_succ, List.getElem_cons_zero, List.setIfInBounds_toArray, List.set_cons_zero, List.set_cons_succ])
        refine wpAnyH_done (by kernel_rfl) ?_ _
        go_wp2_with fail
        go_ret
        exact ⟨rfl, HB6.out.trans (HD.out.mono HB6.out.size)⟩
      exact AllReadyH.nil
    exact AllReadyH.nil
  refine AllReadyH.cons (by simp only [List.getElem?_toArray, List.getElem?_cons_succ, List.getElem?_cons_zero]; rfl) (fun K hK => ?_) ?_
  · rw [if_pos (by rfl)]
    refine wp_bs 22 3 3 _ (by rfl) #[.int .i64 0, .int .i64 0, .int .i64 0] [.int .i64 0, .int .i64 0, .int .i64 0] (.int .i64 0) 1 (by kernel_rfl) (by kernel_rfl) (by decide) (by rfl) (by rfl) (by rfl) (by rfl) ?_
    simp only [Act.put, List.setIfInBounds_toArray, List.set_cons_zero, List.set_cons_succ]
    have K14 := Lib.hid (Blk.new V0 3 #[.int .i64 0, .int .i64 0, .int .i64 0])
    replace HD := Lib.hid (HD.out.alloc HD.out.size (.cells #[.int .i64 0, .int .i64 0, .int .i64 0] 3))
    generalize hz0 : World.alloc V0 _ = V1 at *
    clear hz0
    refine hK.out _ _ HD.out (fun hH1 => ?_)
    clear hK K
    try simp only [List.setIfInBounds_toArray, List.set_cons_zero, List.set_cons_succ]
    refine wpAnyH_ready (rs := [12, 13]) (by kernel_rfl) (by simp) ?_
    refine AllReadyH.cons (by simp only [List.getElem?_toArray, List.getElem?_cons_succ, List.getElem?_cons_zero]; rfl) (fun K hK => ?_) ?_
    · rw [if_pos (by rfl)]
      refine wp_bs 22 3 3 _ (by rfl) #[.int .i64 8, .int .i64 2, .int .i64 0] [.int .i64 8, .int .i64 2, .int .i64 0] (.int .i64 0) 1 (by kernel_rfl) (by kernel_rfl) (by decide) (by rfl) (by rfl) (by rfl) (by rfl) ?_
      simp only [Act.put, List.setIfInBounds_toArray, List.set_cons_zero, List.set_cons_succ]
      have K12 := Lib.hid (Blk.new V1 3 #[.int .i64 8, .int .i64 2, .int .i64 0])
      replace K14 := Lib.hid (K14.out.alloc (.cells #[.int .i64 8, .int .i64 2, .int .i64 0] 3))
      replace HD := Lib.hid (HD.out.alloc HD.out.size (.cells #[.int .i64 8, .int .i64 2, .int .i64 0] 3))
      generalize hz1 : World.alloc V1 _ = V2 at *
      clear hz1
      refine hK.out _ _ HD.out (fun hH2 => ?_)
      clear hK K
      try simp only [List.setIfInBounds_toArray, List.set_cons_zero, List.set_cons_succ]
      refine wpAnyH_ready (rs := [13]) (by kernel_rfl) (by simp) ?_
      refine AllReadyH.cons (by simp only [List.getElem?_toArray, List.getElem?_cons_succ, List.getElem?_cons_zero]; rfl) (fun K hK => ?_) ?_
      · rw [if_pos (by rfl)]
        refine wp_bs 22 3 3 _ (by rfl) #[.int .i64 0, .int .i64 2, .int .i64 4] [.int .i64 0, .int .i64 2, .int .i64 4] (.int .i64 0) 1 (by kernel_rfl) (by kernel_rfl) (by decide) (by rfl) (by rfl) (by rfl) (by rfl) ?_
        simp only [Act.put, List.setIfInBounds_toArray, List.set_cons_zero, List.set_cons_succ]
        have K13 := Lib.hid (Blk.new V2 3 #[.int .i64 0, .int .i64 2, .int .i64 4])
        replace K14 := Lib.hid (K14.out.alloc (.cells #[.int .i64 0, .int .i64 2, .int .i64 4] 3))
        replace K12 := Lib.hid (K12.out.alloc (.cells #[.int .i64 0, .int .i64 2, .int .i64 4] 3))
        replace HD := Lib.hid (HD.out.alloc HD.out.size (.cells #[.int .i64 0, .int .i64 2, .int .i64 4] 3))
        generalize hz2 : World.alloc V2 _ = V3 at *
        clear hz2
        refine hK.out _ _ HD.out (fun hH3 => ?_)
        clear hK K
        try simp only [List.setIfInBounds_toArray, List.set_cons_zero, List.set_cons_succ]
        refine wpAnyH_ready (rs := [15]) (by kernel_rfl) (by simp) ?_
        refine AllReadyH.cons (by simp only [List.getElem?_toArray, List.getElem?_cons_succ, List.getElem?_cons_zero]; rfl) (fun K hK => ?_) AllReadyH.nil
        rw [if_pos (by rfl)]
        refine wp_bs 31 22 3 _ (by rfl) #[.slice (some ⟨V1.heap.size, 0, none⟩) 3 3, .slice (some ⟨V2.heap.size, 0, none⟩) 3 3, .slice (some ⟨V0.heap.size, 0, none⟩) 3 3] [.slice (some ⟨V1.heap.size, 0, none⟩) 3 3, .slice (some ⟨V2.heap.size, 0, none⟩) 3 3, .slice (some ⟨V0.heap.size, 0, none⟩) 3 3] (.slice none 0 0) 1 (by kernel_rfl) (by kernel_rfl) (by decide) (by rfl) (by rfl) (by rfl) (by rfl) ?_
        simp only [Act.put, List.setIfInBounds_toArray, List.set_cons_zero, List.set_cons_succ]
        have K15 := Lib.hid (Blk.new V3 22 #[.slice (some ⟨V1.heap.size, 0, none⟩) 3 3, .slice (some ⟨V2.heap.size, 0, none⟩) 3 3, .slice (some ⟨V0.heap.size, 0, none⟩) 3 3])
        replace K14 := Lib.hid (K14.out.alloc (.cells #[.slice (some ⟨V1.heap.size, 0, none⟩) 3 3, .slice (some ⟨V2.heap.size, 0, none⟩) 3 3, .slice (some ⟨V0.heap.size, 0, none⟩) 3 3] 22))
        replace K12 := Lib.hid (K12.out.alloc (.cells #[.slice (some ⟨V1.heap.size, 0, none⟩) 3 3, .slice (some ⟨V2.heap.size, 0, none⟩) 3 3, .slice (some ⟨V0.heap.size, 0, none⟩) 3 3] 22))
        replace K13 := Lib.hid (K13.out.alloc (.cells #[.slice (some ⟨V1.heap.size, 0, none⟩) 3 3, .slice (some ⟨V2.heap.size, 0, none⟩) 3 3, .slice (some ⟨V0.heap.size, 0, none⟩) 3 3] 22))
        replace HD := Lib.hid (HD.out.alloc HD.out.size (.cells #[.slice (some ⟨V1.heap.size, 0, none⟩) 3 3, .slice (some ⟨V2.heap.size, 0, none⟩) 3 3, .slice (some ⟨V0.heap.size, 0, none⟩) 3 3] 22))
        generalize hz3 : World.alloc V3 _ = V4 at *
        clear hz3
        have HRW := Lib.hid (rRows_any V4 A6 (some ⟨V3.heap.size, 0, none⟩) c6 3 [[8, 2, 0], [0, 2, 4], [0, 0, 0]] [[8, 2, 0], [0, 2, 4], [0, 0, 0]] (by decide) (by decide) (HRO.out _ HD.out) (rows3 K15.out K12.out K13.out K14.out) (by decide) (by decide))
        refine hK.out _ _ HD.out (fun hH4 => ?_)
        clear hK K
        try simp only [List.setIfInBounds_toArray, List.set_cons_zero, List.set_cons_succ]
        refine wpAnyH_ready (rs := [16]) (by kernel_rfl) (by simp) ?_
        refine AllReadyH.cons (by simp only [List.getElem?_toArray, List.getElem?_cons_succ, List.getElem?_cons_zero]; rfl) (fun K hK => ?_) AllReadyH.nil
        go_simp
        refine HRW.out.mono ?_
        rintro e V5 ⟨rfl, hb5⟩
        replace HD := Lib.hid (HD.out.trans (hb5.mono HD.out.size))
        clear hb5 K12 K13 K14 K15 HRW
        refine hK.out _ _ HD.out (fun hH5 => ?_)
        clear hK K
        try simp only [List.setIfInBounds_toArray, List.set_cons_zero, List.set_cons_succ]
        refine wpAnyH_take (i := 17 ) (v := ?_) rfl (by kernel_rfl) (by kernel_rfl) (by kernel_rfl) (fun _ _ _ h => h) (Or.inl ⟨by rfl, ?_⟩) (by assumption) ?_; rotate_left; (· (intro w0 hSw; obtain ⟨y0, y1⟩ := HRD.out _ hSw; clear hSw; go_simp); first | done | with_reducible rfl); (try simp only [Act.put, List.getElem_toArray, List.getElem_cons_succ, List.getElem_cons_zero, List.setIfInBounds_toArray, List.set_cons_zero, List.set_cons_succ])
        refine wpAnyH_take (i := 18 ) (v := ?_) rfl (by kernel_rfl) (by kernel_rfl) (by kernel_rfl) (fun _ _ _ h => h) (Or.inl ⟨by rfl, ?_⟩) (by assumption) ?_; rotate_left; (· (intro w0 hSw; obtain ⟨y0, y1⟩ := HRD.out _ hSw; clear hSw; go_simp); first | done | with_reducible rfl); (try simp only [Act.put, List.getElem_toArray, List.getElem_cons_succ, List.getElem_cons_zero, List.setIfInBounds_toArray, List.set_cons_zero, List.set_cons_succ])
        refine wpAnyH_take (i := 19 ) (v := ?_) rfl (by kernel_rfl) (by kernel_rfl) (by kernel_rfl) (fun _ _ _ h => h) (Or.inl ⟨by rfl, ?_⟩) (by assumption) ?_; rotate_left; (· (intro w0 hSw; obtain ⟨y0, y1⟩ := HRD.out _ hSw; clear hSw; go_simp); first | done | with_reducible rfl); (try simp only [Act.put, List.getElem_toArray, List.getElem_cons_succ, List.getElem_cons_zero, List.setIfInBounds_toArray, List.set_cons_zero, List.set_cons_succ])
        refine wpAnyH_take (i := 20 ) (v := ?_) rfl (by kernel_rfl) (by kernel_rfl) (by kernel_rfl) (fun _ _ _ h => h) (Or.inl ⟨by rfl, ?_⟩) (by assumption) ?_; rotate_left; (· (intro w0 hSw; obtain ⟨y0, y1⟩ := HRD.out _ hSw; clear hSw; go_simp); first | done | with_reducible rfl); (try simp only [Act.put, List.getElem_toArray, List.getElem_cons_succ, List.getElem_cons_zero, List.setIfInBounds_toArray, List.set_cons_zero, List.set_cons_succ])
        refine wpAnyH_take (i := 21 ) (v := ?_) rfl (by kernel_rfl) (by kernel_rfl) (by kernel_rfl) (fun _ _ _ h => h) (Or.inl ⟨by rfl, ?_⟩) (by assumption) ?_; rotate_left; (· (intro w0 hSw; obtain ⟨y0, y1⟩ := HRD.out _ hSw; clear hSw; go_simp); first | done | with_reducible rfl); (try simp only [Act.put, List.getElem_toArray, List.getElem_cons_succ, List.getElem_cons_zero, List.setIfInBounds_toArray, List.set_cons_zero, List.set_cons_succ])
        refine wpAnyH_take (i := 22 ) (v := ?_) rfl (by kernel_rfl) (by kernel_rfl) (by kernel_rfl) (fun _ _ _ h => h) (Or.inl ⟨by rfl, ?_⟩) (by assumption) ?_; rotate_left; (· (intro w0 hSw; obtain ⟨y0, y1⟩ := HRD.out _ hSw; clear hSw; go_simp); first | done | with_reducible rfl); (try simp only [Act.put, List.getElem_toArray, List.getElem_cons_succ, List.getElem_cons_zero, List.setIfInBounds_toArray, List.set_cons_zero, List.set_cons_succ])
        refine wpAnyH_take (i := 23 ) (v := ?_) rfl (by kernel_rfl) (by kernel_rfl) (by kernel_rfl) (fun _ _ _ h => h) (Or.inl ⟨by rfl, ?_⟩) (by assumption) ?_; rotate_left; (· (intro w0 hSw; obtain ⟨y0, y1⟩ := HRD.out _ hSw; clear hSw; go_simp); first | done | with_reducible rfl); (try simp only [Act.put, List.getElem_toArray, List.getElem_cons_succ, List.getElem_cons_zero, List.setIfInBounds_toArray, List.set_cons_zero, List.set_cons_succ])
        refine wpAnyH_ready (rs := [24]) (by kernel_rfl) (by simp) ?_
        refine AllReadyH.cons (by simp only [List.getElem?_toArray, List.getElem?_cons_succ, List.getElem?_cons_zero]; rfl) (fun K hK => ?_) AllReadyH.nil
        go_simp
        refine (span9_any _ 3 6).mono ?_
        rintro e V6 ⟨rfl, hb6⟩
        replace HD := Lib.hid (HD.out.trans (hb6.mono HD.out.size))
        clear hb6
        refine hK.out _ _ HD.out (fun hH6 => ?_)
        clear hK K
        try simp only [List.setIfInBounds_toArray, List.set_cons_zero, List.set_cons_succ]
        refine wpAnyH_take (i := 25 ) (v := ?_) rfl (by kernel_rfl) (by kernel_rfl) (by kernel_rfl) (fun _ _ _ h => h) (Or.inl ⟨by rfl, ?_⟩) (by assumption) ?_; rotate_left; (· (intro w0 hSw; obtain ⟨y0, y1⟩ := HRD.out _ hSw; clear hSw; go_simp); first | done | with_reducible rfl); (try simp only [Act.put, List.getElem_toArray, List.getElem_cons_succ, List.getElem_cons_zero, List.setIfInBounds_toArray, List.set_cons_zero, List.set_cons_succ])
        refine wpAnyH_take (i := 26 ) (v := ?_) rfl (by kernel_rfl) (by kernel_rfl) (by kernel_rfl) (fun _ _ _ h => h) (Or.inl ⟨by rfl, ?_⟩) (by assumption) ?_; rotate_left; (· (intro w0 hSw; obtain ⟨y0, y1⟩ := HRD.out _ hSw; clear hSw; go_simp); first | done | with_reducible rfl); (try simp only [Act.put, List.getElem_toArray, List.getElem_cons_succ, List.getElem_cons_zero, List.setIfInBounds_toArray, List.set_cons_zero, List.set_cons_succ])
        refine wpAnyH_take (i := 27 ) (v := ?_) rfl (by kernel_rfl) (by kernel_rfl) (by kernel_rfl) (fun _ _ _ h => h) (Or.inl ⟨by rfl, ?_⟩) (by assumption) ?_; rotate_left; (· (intro w0 hSw; obtain ⟨y0, y1⟩ := HRD.out _ hSw; clear hSw; go_simp); first | done | with_reducible rfl); (try simp only [Act.put, List.getElem_toArray, List.getElem_cons_succ, List.getElem_cons_zero, List.setIfInBounds_toArray, List.set_cons_zero, List.set_cons_succ])
        refine wpAnyH_take (i := 28 ) (v := ?_) rfl (by kernel_rfl) (by kernel_rfl) (by kernel_rfl) (fun _ _ _ h => h) (Or.inl ⟨by rfl, ?_⟩) (by assumption) ?_; rotate_left; (· (intro w0 hSw; obtain ⟨y0, y1⟩ := HRD.out _ hSw; clear hSw; go_simp); first | done | with_reducible rfl); (try simp only [Act.put, List.getElem_toArray, List.getElem_cons_succ, List.getElem_cons_zero, List.setIfInBounds_toArray, List.set_cons_zero, List.set_cons_succ])
        refine wpAnyH_take (i := 29 ) (v := ?_) rfl (by kernel_rfl) (by kernel_rfl) (by kernel_rfl) (fun _ _ _ h => h) (Or.inl ⟨by rfl, ?_⟩) (by assumption) ?_; rotate_left; (· (intro w0 hSw; obtain ⟨y0, y1⟩ := HRD.out _ hSw; clear hSw; go_simp); first | done | with_reducible rfl); (try simp only [Act.put, List.getElem_toArray, List.getElem_cons_succ, List.getElem_cons_zero, List.setIfInBounds_toArray, List.set_cons_zero, List.set_cons_succ])
        refine wpAnyH_take (i := 30 ) (v := ?_) rfl (by kernel_rfl) (by kernel_rfl) (by kernel_rfl) (fun _ _ _ h => h) (Or.inl ⟨by rfl, ?_⟩) (by assumption) ?_; rotate_left; (· (intro w0 hSw; obtain ⟨y0, y1⟩ := HRD.out _ hSw; clear hSw; go_simp); first | done | with_reducible rfl); (try simp only [Act.put, List.getElem_toArray, List.getElem_cons_succ, List.getElem_cons_zero, List.setIfInBounds_toArray, List.set_cons_zero, List.set_cons_succ])
        refine wpAnyH_take (i := 31 ) (v := ?_) rfl (by kernel_rfl) (by kernel_rfl) (by kernel_rfl) (fun _ _ _ h => h) (Or.inl ⟨by rfl, ?_⟩) (by assumption) ?_; rotate_left; (· (intro w0 hSw; obtain ⟨y0, y1⟩ := HRD.out _ hSw; clear hSw; go_simp); first | done | with_reducible rfl); (try simp only [Act.put, List.getElem_toArray, List.getElem_cons_succ, List.getElem_cons_zero, List.setIfInBounds_toArray, List.set_cons_zero, List.set_cons_succ])
        refine wpAnyH_take (i := 32 ) (v := ?_) rfl (by kernel_rfl) (by kernel_rfl) (by kernel_rfl) (fun _ _ _ h => h) (Or.inl ⟨by rfl, ?_⟩) (by assumption) ?_; rotate_left; (· (intro w0 hSw; obtain ⟨y0, y1⟩ := HRD.out _ hSw; clear hSw; go_simp); first | done | with_reducible rfl); (try simp only [Act.put, List.getElem_toArray, List.getElem_cons_succ, List.getElem_cons_zero, List.setIfInBounds_toArray, List.set_cons_zero, List.set_cons_succ])
        refine wpAnyH_take (i := 33 ) (v := ?_) rfl (by kernel_rfl) (by kernel_rfl) (by kernel_rfl) (fun _ _ _ h => h) (Or.inl ⟨by rfl, ?_⟩) (by assumption) ?_; rotate_left; (· (intro w0 hSw; obtain ⟨y0, y1⟩ := HRD.out _ hSw; clear hSw; go_simp); first | done | with_reducible rfl); (try simp only [Act.put, List.getElem_toArray, List.getElem_cons_succ, List.getElem_cons_zero, List.setIfInBounds_toArray, List.set_cons_zero, List.set_cons_succ])
        refine wpAnyH_take (i := 34 ) (v := ?_) rfl (by kernel_rfl) (by kernel_rfl) (by kernel_rfl) (fun _ _ _ h => h) (Or.inl ⟨by rfl, ?_⟩) (by assumption) ?_; rotate_left; (· (intro w0 hSw; obtain ⟨y0, y1⟩ := HRD.out _ hSw; clear hSw; go_simp); first | done | with_reducible rfl); (try simp only [Act.put, List.getElem_toArray, List.getElem_cons_succ, List.getElem_cons_zero, List.setIfInBounds_toArray, List.set_cons_zero, List.set_cons_succ])
        refine wpAnyH_take (i := 35 ) (v := ?_) rfl (by kernel_rfl) (by kernel_rfl) (by kernel_rfl) (fun _ _ _ h => h) (Or.inl ⟨by rfl, ?_⟩) (by assumption) ?_; rotate_left; (· (intro w0 hSw; obtain ⟨y0, y1⟩ := HRD.out _ hSw; clear hSw; go_simp); first | done | with_reducible rfl); (try simp only [Act.put, List.getElem_toArray, List.getElem_cons_succ, List.getElem_cons_zero, List.setIfInBounds_toArray, List.set_cons_zero, List.set_cons_succ])
        refine wpAnyH_take (i := 36 ) (v := ?_) rfl (by kernel_rfl) (by kernel_rfl) (by kernel_rfl) (fun _ _ _ h => h) (Or.inl ⟨by rfl, ?_⟩) (by assumption) ?_; rotate_left; (· (intro w0 hSw; obtain ⟨y0, y1⟩ := HRD.out _ hSw; clear hSw; go_simp); first | done | with_reducible rfl); (try simp only [Act.put, List.getElem_toArray, List.getElem_cons_succ, List.getElem_cons_zero, List.setIfInBounds_toArray, List.set_cons_zero, List.set_cons_succ])
        refine wpAnyH_take (i := 37 ) (v := ?_) rfl (by kernel_rfl) (by kernel_rfl) (by kernel_rfl) (fun _ _ _ h => h) (Or.inl ⟨by rfl, ?_⟩) (by assumption) ?_; rotate_left; (· (intro w0 hSw; obtain ⟨y0, y1⟩ := HRD.out _ hSw; clear hSw; go_simp); first | done | with_reducible rfl); (try simp only [Act.put, List.getElem_toArray, List.getElem_cons_succ, List.getElem_cons_zero, List.setIfInBounds_toArray, List.set_cons_zero, List.set_cons_succ])
        refine wpAnyH_take (i := 38 ) (v := ?_) rfl (by kernel_rfl) (by kernel_rfl) (by kernel_rfl) (fun _ _ _ h => h) (Or.inl ⟨by rfl, ?_⟩) (by assumption) ?_; rotate_left; (· (intro w0 hSw; obtain ⟨y0, y1⟩ := HRD.out _ hSw; clear hSw; go_simp); first | done | with_reducible rfl); (try simp only [Act.put, List.getElem_toArray, List.getElem_cons_succ, List.getElem_cons_zero, List.setIfInBounds_toArray, List.set_cons_zero, List.set_cons_succ])
        refine wpAnyH_take (i := 39 ) (v := ?_) rfl (by kernel_rfl) (by kernel_rfl) (by kernel_rfl) (fun _ _ _ h => h) (Or.inl ⟨by rfl, ?_⟩) (by assumption) ?_; rotate_left; (· (intro w0 hSw; obtain ⟨y0, y1⟩ := HRD.out _ hSw; clear hSw; go_simp); first | done | with_reducible rfl); (try simp only [Act.put, List.getElem_toArray, List.getElem_cons_succ, List.getElem_cons_zero, List.setIfInBounds_toArray, List.set_cons_zero, List.set_cons_succ])
        refine wpAnyH_take (i := 40 ) (v := ?_) rfl (by kernel_rfl) (by kernel_rfl) (by kernel_rfl) (fun _ _ _ h => h) (Or.inl ⟨by rfl, ?_⟩) (by assumption) ?_; rotate_left; (· (intro w0 hSw; obtain ⟨y0, y1⟩ := HRD.out _ hSw; clear hSw; go_simp); first | done | with_reducible rfl); (try simp only [Act.put, List.getElem_toArray, List.getElem_cons_succ, List.getElem_cons_zero, List.setIfInBounds_toArray, List.set_cons_zero, List.set_cons_succ])
        refine wpAnyH_take (i := 41 ) (v := ?_) rfl (by kernel_rfl) (by kernel_rfl) (by kernel_rfl) (fun _ _ _ h => h) (Or.inl ⟨by rfl, ?_⟩) (by assumption) ?_; rotate_left; (· (intro w0 hSw; obtain ⟨y0, y1⟩ := HRD.out _ hSw; clear hSw; go_simp); first | done | with_reducible rfl); (try simp only [Act.put, List.getElem_toArray, List.getElem_cons_succ, List.getElem_cons_zero, List.setIfInBounds_toArray, List.set_cons_zero, List.set_cons_succ])
        refine wpAnyH_take (i := 42 ) (v := ?_) rfl (by kernel_rfl) (by kernel_rfl) (by kernel_rfl) (fun _ _ _ h => h) (Or.inl ⟨by rfl, ?_⟩) (by assumption) ?_; rotate_left; (· (intro w0 hSw; obtain ⟨y0, y1⟩ := HRD.out _ hSw; clear hSw; go_simp); first | done | with_reducible rfl); (try simp only [Act.put, List.getElem_toArray, List.getElem_cons_succ, List.getElem_cons_zero, List.setIfInBounds_toArray, List.set_cons_zero, List.set_cons_succ])
        refine wpAnyH_take (i := 43 ) (v := ?_) rfl (by kernel_rfl) (by kernel_rfl) (by kernel_rfl) (fun _ _ _ h => h) (Or.inl ⟨by rfl, ?_⟩) (by assumption) ?_; rotate_left; (· (intro w0 hSw; obtain ⟨y0, y1⟩ := HRD.out _ hSw; clear hSw; go_simp); first | done | with_reducible rfl); (try simp only [Act.put, List.getElem_toArray, List.getElem_cons_succ, List.getElem_cons_zero, List.setIfInBounds_toArray, List.set_cons_zero, List.set_cons_succ])
        refine wpAnyH_take (i := 44 ) (v := ?_) rfl (by kernel_rfl) (by kernel_rfl) (by kernel_rfl) (fun _ _ _ h => h) (Or.inl ⟨by rfl, ?_⟩) (by assumption) ?_; rotate_left; (· (intro w0 hSw; obtain ⟨y0, y1⟩ := HRD.out _ hSw; clear hSw; go_simp); first | done | with_reducible rfl); (try simp only [Act.put, List.getElem_toArray, List.getElem_cons_succ, List.getElem_cons_zero, List.setIfInBounds_toArray, List.set_cons_zero, List.set_cons_succ])
        refine wpAnyH_take (i := 45 ) (v := ?_) rfl (by kernel_rfl) (by kernel_rfl) (by kernel_rfl) (fun _ _ _ h => h) (Or.inl ⟨by rfl, ?_⟩) (by assumption) ?_; rotate_left; (· (intro w0 hSw; obtain ⟨y0, y1⟩ := HRD.out _ hSw; clear hSw; go_simp); first | done | with_reducible rfl); (try simp only [Act.put, List.getElem_toArray, List.getElem_cons_succ, List.getElem_cons_zero, List.setIfInBounds_toArray, List.set_cons_zero, List.set_cons_succ])
        refine wpAnyH_take (i := 46 ) (v := ?_) rfl (by kernel_rfl) (by kernel_rfl) (by kernel_rfl) (fun _ _ _ h => h) (Or.inl ⟨by rfl, ?_⟩) (by assumption) ?_; rotate_left; (· (intro w0 hSw; obtain ⟨y0, y1⟩ := HRD.out _ hSw; clear hSw; go_simp); first | done | with_reducible rfl); (try simp only [Act.put, List.getElem_toArray, List.getElem_cons_succ, List.getElem_cons_zero, List.setIfInBounds_toArray, List.set_cons_zero, List.set_cons_succ])
        refine wpAnyH_take (i := 47 ) (v := ?_) rfl (by kernel_rfl) (by kernel_rfl) (by kernel_rfl) (fun _ _ _ h => h) (Or.inl ⟨by rfl, ?_⟩) (by assumption) ?_; rotate_left; (· (intro w0 hSw; obtain ⟨y0, y1⟩ := HRD.out _ hSw; clear hSw; go_simp); first | done | with_reducible rfl); (try simp only [Act.put, List.getElem_toArray, List.getElem_cons_succ, List.getElem_cons_zero, List.setIfInBounds_toArray, List.set_cons_zero, List.set_cons_succ])
        refine wpAnyH_done (by kernel_rfl) ?_ _
        go_wp2_with fail
        go_ret
        exact ⟨rfl, HB6.out.trans (HD.out.mono HB6.out.size)⟩
      exact AllReadyH.nil
    refine AllReadyH.cons (by simp only [List.getElem?_toArray, List.getElem?_cons_succ, List.getElem?_cons_zero]; rfl) (fun K hK => ?_) ?_
    · rw [if_pos (by rfl)]
      refine wp_bs 22 3 3 _ (by rfl) #[.int .i64 0, .int .i64 2, .int .i64 4] [.int .i64 0, .int .i64 2, .int .i64 4] (.int .i64 0) 1 (by kernel_rfl) (by kernel_rfl) (by decide) (by rfl) (by rfl) (by rfl) (by rfl) ?_
      simp only [Act.put, List.setIfInBounds_toArray, List.set_cons_zero, List.set_cons_succ]
      have K13 := Lib.hid (Blk.new V1 3 #[.int .i64 0, .int .i64 2, .int .i64 4])
      replace K14 := Lib.hid (K14.out.alloc (.cells #[.int .i64 0, .int .i64 2, .int .i64 4] 3))
      replace HD := Lib.hid (HD.out.alloc HD.out.size (.cells #[.int .i64 0, .int .i64 2, .int .i64 4] 3))
      generalize hz1 : World.alloc V1 _ = V2 at *
      clear hz1
      refine hK.out _ _ HD.out (fun hH2 => ?_)
      clear hK K
      try simp only [List.setIfInBounds_toArray, List.set_cons_zero, List.set_cons_succ]
      refine wpAnyH_ready (rs := [12]) (by kernel_rfl) (by simp) ?_
      refine AllReadyH.cons (by simp only [List.getElem?_toArray, List.getElem?_cons_succ, List.getElem?_cons_zero]; rfl) (fun K hK => ?_) ?_
      · rw [if_pos (by rfl)]
        refine wp_bs 22 3 3 _ (by rfl) #[.int .i64 8, .int .i64 2, .int .i64 0] [.int .i64 8, .int .i64 2, .int .i64 0] (.int .i64 0) 1 (by kernel_rfl) (by kernel_rfl) (by decide) (by rfl) (by rfl) (by rfl) (by rfl) ?_
        simp only [Act.put, List.setIfInBounds_toArray, List.set_cons_zero, List.set_cons_succ]
        have K12 := Lib.hid (Blk.new V2 3 #[.int .i64 8, .int .i64 2, .int .i64 0])
        replace K14 := Lib.hid (K14.out.alloc (.cells #[.int .i64 8, .int .i64 2, .int .i64 0] 3))
        replace K13 := Lib.hid (K13.out.alloc (.cells #[.int .i64 8, .int .i64 2, .int .i64 0] 3))
        replace HD := Lib.hid (HD.out.alloc HD.out.size (.cells #[.int .i64 8, .int .i64 2, .int .i64 0] 3))
        generalize hz2 : World.alloc V2 _ = V3 at *
        clear hz2
        refine hK.out _ _ HD.out (fun hH3 => ?_)
        clear hK K
        try simp only [List.setIfInBounds_toArray, List.set_cons_zero, List.set_cons_succ]
        refine wpAnyH_ready (rs := [15]) (by kernel_rfl) (by simp) ?_
        refine AllReadyH.cons (by simp only [List.getElem?_toArray, List.getElem?_cons_succ, List.getElem?_cons_zero]; rfl) (fun K hK => ?_) AllReadyH.nil
        rw [if_pos (by rfl)]
        refine wp_bs 31 22 3 _ (by rfl) #[.slice (some ⟨V2.heap.size, 0, none⟩) 3 3, .slice (some ⟨V1.heap.size, 0, none⟩) 3 3, .slice (some ⟨V0.heap.size, 0, none⟩) 3 3] [.slice (some ⟨V2.heap.size, 0, none⟩) 3 3, .slice (some ⟨V1.heap.size, 0, none⟩) 3 3, .slice (some ⟨V0.heap.size, 0, none⟩) 3 3] (.slice none 0 0) 1 (by kernel_rfl) (by kernel_rfl) (by decide) (by rfl) (by rfl) (by rfl) (by rfl) ?_
        simp only [Act.put, List.setIfInBounds_toArray, List.set_cons_zero, List.set_cons_succ]
        have K15 := Lib.hid (Blk.new V3 22 #[.slice (some ⟨V2.heap.size, 0, none⟩) 3 3, .slice (some ⟨V1.heap.size, 0, none⟩) 3 3, .slice (some ⟨V0.heap.size, 0, none⟩) 3 3])
        replace K14 := Lib.hid (K14.out.alloc (.cells #[.slice (some ⟨V2.heap.size, 0, none⟩) 3 3, .slice (some ⟨V1.heap.size, 0, none⟩) 3 3, .slice (some ⟨V0.heap.size, 0, none⟩) 3 3] 22))
        replace K13 := Lib.hid (K13.out.alloc (.cells #[.slice (some ⟨V2.heap.size, 0, none⟩) 3 3, .slice (some ⟨V1.heap.size, 0, none⟩) 3 3, .slice (some ⟨V0.heap.size, 0, none⟩) 3 3] 22))
        replace K12 := Lib.hid (K12.out.alloc (.cells #[.slice (some ⟨V2.heap.size, 0, none⟩) 3 3, .slice (some ⟨V1.heap.size, 0, none⟩) 3 3, .slice (some ⟨V0.heap.size, 0, none⟩) 3 3] 22))
        replace HD := Lib.hid (HD.out.alloc HD.out.size (.cells #[.slice (some ⟨V2.heap.size, 0, none⟩) 3 3, .slice (some ⟨V1.heap.size, 0, none⟩) 3 3, .slice (some ⟨V0.heap.size, 0, none⟩) 3 3] 22))
        generalize hz3 : World.alloc V3 _ = V4 at *
        clear hz3
        have HRW := Lib.hid (rRows_any V4 A6 (some ⟨V3.heap.size, 0, none⟩) c6 3 [[8, 2, 0], [0, 2, 4], [0, 0, 0]] [[8, 2, 0], [0, 2, 4], [0, 0, 0]] (by decide) (by decide) (HRO.out _ HD.out) (rows3 K15.out K12.out K13.out K14.out) (by decide) (by decide))
        refine hK.out _ _ HD.out (fun hH4 => ?_)
        clear hK K
        try simp only [List.setIfInBounds_toArray, List.set_cons_zero, List.set_cons_succ]
        refine wpAnyH_ready (rs := [16]) (by kernel_rfl) (by simp) ?_
        refine AllReadyH.cons (by simp only [List.getElem?_toArray, List.getElem?_cons_succ, List.getElem?_cons_zero]; rfl) (fun K hK => ?_) AllReadyH.nil
        go_simp
        refine HRW.out.mono ?_
        rintro e V5 ⟨rfl, hb5⟩
        replace HD := Lib.hid (HD.out.trans (hb5.mono HD.out.size))
        clear hb5 K12 K13 K14 K15 HRW
        refine hK.out _ _ HD.out (fun hH5 => ?_)
        clear hK K
        try simp only [List.setIfInBounds_toArray, List.set_cons_zero, List.set_cons_succ]
        refine wpAnyH_take (i := 17 ) (v := ?_) rfl (by kernel_rfl) (by kernel_rfl) (by kernel_rfl) (fun _ _ _ h => h) (Or.inl ⟨by rfl, ?_⟩) (by assumption) ?_; rotate_left; (· (intro w0 hSw; obtain ⟨y0, y1⟩ := HRD.out _ hSw; clear hSw; go_simp); first | done | with_reducible rfl); (try simp only [Act.put, List.getElem_toArray, List.getElem_cons_succ, List.getElem_cons_zero, List.setIfInBounds_toArray, List.set_cons_zero, List.set_cons_succ])
        refine wpAnyH_take (i := 18 ) (v := ?_) rfl (by kernel_rfl) (by kernel_rfl) (by kernel_rfl) (fun _ _ _ h => h) (Or.inl ⟨by rfl, ?_⟩) (by assumption) ?_; rotate_left; (· (intro w0 hSw; obtain ⟨y0, y1⟩ := HRD.out _ hSw; clear hSw; go_simp); first | done | with_reducible rfl); (try simp only [Act.put, List.getElem_toArray, List.getElem_cons_succ, List.getElem_cons_zero, List.setIfInBounds_toArray, List.set_cons_zero, List.set_cons_succ])
        refine wpAnyH_take (i := 19 ) (v := ?_) rfl (by kernel_rfl) (by kernel_rfl) (by kernel_rfl) (fun _ _ _ h => h) (Or.inl ⟨by rfl, ?_⟩) (by assumption) ?_; rotate_left; (· (intro w0 hSw; obtain ⟨y0, y1⟩ := HRD.out _ hSw; clear hSw; go_simp); first | done | with_reducible rfl); (try simp only [Act.put, List.getElem_toArray, List.getElem_cons_succ, List.getElem_cons_zero, List.setIfInBounds_toArray, List.set_cons_zero, List.set_cons_succ])
        refine wpAnyH_take (i := 20 ) (v := ?_) rfl (by kernel_rfl) (by kernel_rfl) (by kernel_rfl) (fun _ _ _ h => h) (Or.inl ⟨by rfl, ?_⟩) (by assumption) ?_; rotate_left; (· (intro w0 hSw; obtain ⟨y0, y1⟩ := HRD.out _ hSw; clear hSw; go_simp); first | done | with_reducible rfl); (try simp only [Act.put, List.getElem_toArray, List.getElem_cons_succ, List.getElem_cons_zero, List.setIfInBounds_toArray, List.set_cons_zero, List.set_cons_succ])
        refine wpAnyH_take (i := 21 ) (v := ?_) rfl (by kernel_rfl) (by kernel_rfl) (by kernel_rfl) (fun _ _ _ h => h) (Or.inl ⟨by rfl, ?_⟩) (by assumption) ?_; rotate_left; (· (intro w0 hSw; obtain ⟨y0, y1⟩ := HRD.out _ hSw; clear hSw; go_simp); first | done | with_reducible rfl); (try simp only [Act.put, List.getElem_toArray, List.getElem_cons_succ, List.getElem_cons_zero, List.setIfInBounds_toArray, List.set_cons_zero, List.set_cons_succ])
        refine wpAnyH_take (i := 22 ) (v := ?_) rfl (by kernel_rfl) (by kernel_rfl) (by kernel_rfl) (fun _ _ _ h => h) (Or.inl ⟨by rfl, ?_⟩) (by assumption) ?_; rotate_left; (· (intro w0 hSw; obtain ⟨y0, y1⟩ := HRD.out _ hSw; clear hSw; go_simp); first | done | with_reducible rfl); (try simp only [Act.put, List.getElem_toArray, List.getElem_cons_succ, List.getElem_cons_zero, List.setIfInBounds_toArray, List.set_cons_zero, List.set_cons_succ])
        refine wpAnyH_take (i := 23 ) (v := ?_) rfl (by kernel_rfl) (by kernel_rfl) (by kernel_rfl) (fun _ _ _ h => h) (Or.inl ⟨by rfl, ?_⟩) (by assumption) ?_; rotate_left; (· (intro w0 hSw; obtain ⟨y0, y1⟩ := HRD.out _ hSw; clear hSw; go_simp); first | done | with_reducible rfl); (try simp only [Act.put, List.getElem_toArray, List.getElem_cons_succ, List.getElem_cons_zero, List.setIfInBounds_toArray, List.set_cons_zero, List.set_cons_succ])
        refine wpAnyH_ready (rs := [24]) (by kernel_rfl) (by simp) ?_
        refine AllReadyH.cons (by simp only [List.getElem?_toArray, List.getElem?_cons_succ, List.getElem?_cons_zero]; rfl) (fun K hK => ?_) AllReadyH.nil
        go_simp
        refine (span9_any _ 3 6).mono ?_
        rintro e V6 ⟨rfl, hb6⟩
        replace HD := Lib.hid (HD.out.trans (hb6.mono HD.out.size))
        clear hb6
        refine hK.out _ _ HD.out (fun hH6 => ?_)
        clear hK K
        try simp only [List.setIfInBounds_toArray, List.set_cons_zero, List.set_cons_succ]
        refine wpAnyH_take (i := 25 ) (v := ?_) rfl (by kernel_rfl) (by kernel_rfl) (by kernel_rfl) (fun _ _ _ h => h) (Or.inl ⟨by rfl, ?_⟩) (by assumption) ?_; rotate_left; (· (intro w0 hSw; obtain ⟨y0, y1⟩ := HRD.out _ hSw; clear hSw; go_simp); first | done | with_reducible rfl); (try simp only [Act.put, List.getElem_toArray, List.getElem_cons_succ, List.getElem_cons_zero, List.setIfInBounds_toArray, List.set_cons_zero, List.set_cons_succ])
        refine wpAnyH_take (i := 26 ) (v := ?_) rfl (by kernel_rfl) (by kernel_rfl) (by kernel_rfl) (fun _ _ _ h => h) (Or.inl ⟨by rfl, ?_⟩) (by assumption) ?_; rotate_left; (· (intro w0 hSw; obtain ⟨y0, y1⟩ := HRD.out _ hSw; clear hSw; go_simp); first | done | with_reducible rfl); (try simp only [Act.put, List.getElem_toArray, List.getElem_cons_succ, List.getElem_cons_zero, List.setIfInBounds_toArray, List.set_cons_zero, List.set_cons_succ])
        refine wpAnyH_take (i := 27 ) (v := ?_) rfl (by kernel_rfl) (by kernel_rfl) (by kernel_rfl) (fun _ _ _ h => h) (Or.inl ⟨by rfl, ?_⟩) (by assumption) ?_; rotate_left; (· (intro w0 hSw; obtain ⟨y0, y1⟩ := HRD.out _ hSw; clear hSw; go_simp); first | done | with_reducible rfl); (try simp only [Act.put, List.getElem_toArray, List.getElem_cons_succ, List.getElem_cons_zero, List.setIfInBounds_toArray, List.set_cons_zero, List.set_cons_succ])
        refine wpAnyH_take (i := 28 ) (v := ?_) rfl (by kernel_rfl) (by kernel_rfl) (by kernel_rfl) (fun _ _ _ h => h) (Or.inl ⟨by rfl, ?_⟩) (by assumption) ?_; rotate_left; (· (intro w0 hSw; obtain ⟨y0, y1⟩ := HRD.out _ hSw; clear hSw; go_simp); first | done | with_reducible rfl); (try simp only [Act.put, List.getElem_toArray, List.getElem_cons_succ, List.getElem_cons_zero, List.setIfInBounds_toArray, List.set_cons_zero, List.set_cons_succ])
        refine wpAnyH_take (i := 29 ) (v := ?_) rfl (by kernel_rfl) (by kernel_rfl) (by kernel_rfl) (fun _ _ _ h => h) (Or.inl ⟨by rfl, ?_⟩) (by assumption) ?_; rotate_left; (· (intro w0 hSw; obtain ⟨y0, y1⟩ := HRD.out _ hSw; clear hSw; go_simp); first | done | with_reducible rfl); (try simp only [Act.put, List.getElem_toArray, List.getElem_cons_succ, List.getElem_cons_zero, List.setIfInBounds_toArray, List.set_cons_zero, List.set_cons_succ])
        refine wpAnyH_take (i := 30 ) (v := ?_) rfl (by kernel_rfl) (by kernel_rfl) (by kernel_rfl) (fun _ _ _ h => h) (Or.inl ⟨by rfl, ?_⟩) (by assumption) ?_; rotate_left; (· (intro w0 hSw; obtain ⟨y0, y1⟩ := HRD.out _ hSw; clear hSw; go_simp); first | done | with_reducible rfl); (try simp only [Act.put, List.getElem_toArray, List.getElem_cons_succ, List.getElem_cons_zero, List.setIfInBounds_toArray, List.set_cons_zero, List.set_cons_succ])
        refine wpAnyH_take (i := 31 ) (v := ?_) rfl (by kernel_rfl) (by kernel_rfl) (by kernel_rfl) (fun _ _ _ h => h) (Or.inl ⟨by rfl, ?_⟩) (by assumption) ?_; rotate_left; (· (intro w0 hSw; obtain ⟨y0, y1⟩ := HRD.out _ hSw; clear hSw; go_simp); first | done | with_reducible rfl); (try simp only [Act.put, List.getElem_toArray, List.getElem_cons_succ, List.getElem_cons_zero, List.setIfInBounds_toArray, List.set_cons_zero, List.set_cons_succ])
        refine wpAnyH_take (i := 32 ) (v := ?_) rfl (by kernel_rfl) (by kernel_rfl) (by kernel_rfl) (fun _ _ _ h => h) (Or.inl ⟨by rfl, ?_⟩) (by assumption) ?_; rotate_left; (· (intro w0 hSw; obtain ⟨y0, y1⟩ := HRD.out _ hSw; clear hSw; go_simp); first | done | with_reducible rfl); (try simp only [Act.put, List.getElem_toArray, List.getElem_cons_succ, List.getElem_cons_zero, List.setIfInBounds_toArray, List.set_cons_zero, List.set_cons_succ])
        refine wpAnyH_take (i := 33 ) (v := ?_) rfl (by kernel_rfl) (by kernel_rfl) (by kernel_rfl) (fun _ _ _ h => h) (Or.inl ⟨by rfl, ?_⟩) (by assumption) ?_; rotate_left; (· (intro w0 hSw; obtain ⟨y0, y1⟩ := HRD.out _ hSw; clear hSw; go_simp); first | done | with_reducible rfl); (try simp only [Act.put, List.getElem_toArray, List.getElem_cons_succ, List.getElem_cons_zero, List.setIfInBounds_toArray, List.set_cons_zero, List.set_cons_succ])
        refine wpAnyH_take (i := 34 ) (v := ?_) rfl (by kernel_rfl) (by kernel_rfl) (by kernel_rfl) (fun _ _ _ h => h) (Or.inl ⟨by rfl, ?_⟩) (by assumption) ?_; rotate_left; (· (intro w0 hSw; obtain ⟨y0, y1⟩ := HRD.out _ hSw; clear hSw; go_simp); first | done | with_reducible rfl); (try simp only [Act.put, List.getElem_toArray, List.getElem_cons_succ, List.getElem_cons_zero, List.setIfInBounds_toArray, List.set_cons_zero, List.set_cons_succ])
        refine wpAnyH_take (i := 35 ) (v := ?_) rfl (by kernel_rfl) (by kernel_rfl) (by kernel_rfl) (fun _ _ _ h => h) (Or.inl ⟨by rfl, ?_⟩) (by assumption) ?_; rotate_left; (· (intro w0 hSw; obtain ⟨y0, y1⟩ := HRD.out _ hSw; clear hSw; go_simp); first | done | with_reducible rfl); (try simp only [Act.put, List.getElem_toArray, List.getElem_cons_succ, List.getElem_cons_zero, List.setIfInBounds_toArray, List.set_cons_zero, List.set_cons_succ])
        refine wpAnyH_take (i := 36 ) (v := ?_) rfl (by kernel_rfl) (by kernel_rfl) (by kernel_rfl) (fun _ _ _ h => h) (Or.inl ⟨by rfl, ?_⟩) (by assumption) ?_; rotate_left; (· (intro w0 hSw; obtain ⟨y0, y1⟩ := HRD.out _ hSw; clear hSw; go_simp); first | done | with_reducible rfl); (try simp only [Act.put, List.getElem_toArray, List.getElem_cons_succ, List.getElem_cons_zero, List.setIfInBounds_toArray, List.set_cons_zero, List.set_cons_succ])
        refine wpAnyH_take (i := 37 ) (v := ?_) rfl (by kernel_rfl) (by kernel_rfl) (by kernel_rfl) (fun _ _ _ h => h) (Or.inl ⟨by rfl, ?_⟩) (by assumption) ?_; rotate_left; (· (intro w0 hSw; obtain ⟨y0, y1⟩ := HRD.out _ hSw; clear hSw; go_simp); first | done | with_reducible rfl); (try simp only [Act.put, List.getElem_toArray, List.getElem_cons_succ, List.getElem_cons_zero, List.setIfInBounds_toArray, List.set_cons_zero, List.set_cons_succ])
        refine wpAnyH_take (i := 38 ) (v := ?_) rfl (by kernel_rfl) (by kernel_rfl) (by kernel_rfl) (fun _ _ _ h => h) (Or.inl ⟨by rfl, ?_⟩) (by assumption) ?_; rotate_left; (· (intro w0 hSw; obtain ⟨y0, y1⟩ := HRD.out _ hSw; clear hSw; go_simp); first | done | with_reducible rfl); (try simp only [Act.put, List.getElem_toArray, List.getElem_cons_succ, List.getElem_cons_zero, List.setIfInBounds_toArray, List.set_cons_zero, List.set_cons_succ])
        refine wpAnyH_take (i := 39 ) (v := ?_) rfl (by kernel_rfl) (by kernel_rfl) (by kernel_rfl) (fun _ _ _ h => h) (Or.inl ⟨by rfl, ?_⟩) (by assumption) ?_; rotate_left; (· (intro w0 hSw; obtain ⟨y0, y1⟩ := HRD.out _ hSw; clear hSw; go_simp); first | done | with_reducible rfl); (try simp only [Act.put, List.getElem_toArray, List.getElem_cons_succ, List.getElem_cons_zero, List.setIfInBounds_toArray, List.set_cons_zero, List.set_cons_succ])
        refine wpAnyH_take (i := 40 ) (v := ?_) rfl (by kernel_rfl) (by kernel_rfl) (by kernel_rfl) (fun _ _ _ h => h) (Or.inl ⟨by rfl, ?_⟩) (by assumption) ?_; rotate_left; (· (intro w0 hSw; obtain ⟨y0, y1⟩ := HRD.out _ hSw; clear hSw; go_simp); first | done | with_reducible rfl); (try simp only [Act.put, List.getElem_toArray, List.getElem_cons_succ, List.getElem_cons_zero, List.setIfInBounds_toArray, List.set_cons_zero, List.set_cons_succ])
        refine wpAnyH_take (i := 41 ) (v := ?_) rfl (by kernel_rfl) (by kernel_rfl) (by kernel_rfl) (fun _ _ _ h => h) (Or.inl ⟨by rfl, ?_⟩) (by assumption) ?_; rotate_left; (· (intro w0 hSw; obtain ⟨y0, y1⟩ := HRD.out _ hSw; clear hSw; go_simp); first | done | with_reducible rfl); (try simp only [Act.put, List.getElem_toArray, List.getElem_cons_succ, List.getElem_cons_zero, List.setIfInBounds_toArray, List.set_cons_zero, List.set_cons_succ])
        refine wpAnyH_take (i := 42 ) (v := ?_) rfl (by kernel_rfl) (by kernel_rfl) (by kernel_rfl) (fun _ _ _ h => h) (Or.inl ⟨by rfl, ?_⟩) (by assumption) ?_; rotate_left; (· (intro w0 hSw; obtain ⟨y0, y1⟩ := HRD.out _ hSw; clear hSw; go_simp); first | done | with_reducible rfl); (try simp only [Act.put, List.getElem_toArray, List.getElem_cons_succ, List.getElem_cons_zero, List.setIfInBounds_toArray, List.set_cons_zero, List.set_cons_succ])
        refine wpAnyH_take (i := 43 ) (v := ?_) rfl (by kernel_rfl) (by kernel_rfl) (by kernel_rfl) (fun _ _ _ h => h) (Or.inl ⟨by rfl, ?_⟩) (by assumption) ?_; rotate_left; (· (intro w0 hSw; obtain ⟨y0, y1⟩ := HRD.out _ hSw; clear hSw; go_simp); first | done | with_reducible rfl); (try simp only [Act.put, List.getElem_toArray, List.getElem_cons_succ, List.getElem_cons_zero, List.setIfInBounds_toArray, List.set_cons_zero, List.set_cons_succ])
        refine wpAnyH_take (i := 44 ) (v := ?_) rfl (by kernel_rfl) (by kernel_rfl) (by kernel_rfl) (fun _ _ _ h => h) (Or.inl ⟨by rfl, ?_⟩) (by assumption) ?_; rotate_left; (· (intro w0 hSw; obtain ⟨y0, y1⟩ := HRD.out _ hSw; clear hSw; go_simp); first | done | with_reducible rfl); (try simp only [Act.put, List.getElem_toArray, List.getElem_cons_succ, List.getElem_cons_zero, List.setIfInBounds_toArray, List.set_cons_zero, List.set_cons_succ])
        refine wpAnyH_take (i := 45 ) (v := ?_) rfl (by kernel_rfl) (by kernel_rfl) (by kernel_rfl) (fun _ _ _ h => h) (Or.inl ⟨by rfl, ?_⟩) (by assumption) ?_; rotate_left; (· (intro w0 hSw; obtain ⟨y0, y1⟩ := HRD.out _ hSw; clear hSw; go_simp); first | done | with_reducible rfl); (try simp only [Act.put, List.getElem_toArray, List.getElem_cons_succ, List.getElem_cons_zero, List.setIfInBounds_toArray, List.set_cons_zero, List.set_cons_succ])
        refine wpAnyH_take (i := 46 ) (v := ?_) rfl (by kernel_rfl) (by kernel_rfl) (by kernel_rfl) (fun _ _ _ h => h) (Or.inl ⟨by rfl, ?_⟩) (by assumption) ?_; rotate_left; (· (intro w0 hSw; obtain ⟨y0, y1⟩ := HRD.out _ hSw; clear hSw; go_simp); first | done | with_reducible rfl); (try simp only [Act.put, List.getElem_toArray, List.getElem_cons_succ, List.getElem_cons_zero, List.setIfInBounds_toArray, List.set_cons_zero, List.set_cons_succ])
        refine wpAnyH_take (i := 47 ) (v := ?_) rfl (by kernel_rfl) (by kernel_rfl) (by kernel_rfl) (fun _ _ _ h => h) (Or.inl ⟨by rfl, ?_⟩) (by assumption) ?_; rotate_left; (· (intro w0 hSw; obtain ⟨y0, y1⟩ := HRD.out _ hSw; clear hSw; go_simp); first | done | with_reducible rfl); (try simp only [Act.put, List.getElem_toArray, List.getElem_cons_succ, List.getElem_cons_zero, List.setIfInBounds_toArray, List.set_cons_zero, List.set_cons_succ])
        refine wpAnyH_done (by kernel_rfl) ?_ _
        go_wp2_with fail
        go_ret
        exact ⟨rfl, HB6.out.trans (HD.out.mono HB6.out.size)⟩
      exact AllReadyH.nil
    exact AllReadyH.nil
  exact AllReadyH.nil
end Go.Proofs.Ytngoagfkcjkeoaa
