/- best: a turn is played. -/
import Derived.Test.YtfpfafijockfnaaYf
namespace Go.Proofs.Ytfpfafijockfnaa
open Go.RowKit Go.Shelf

def RetBg (r : Prg) (w : World) (e : Ending) (w' : World) : Prop := ∃ g, e = .returned (.agg #[.slice (some ⟨g, 0, none⟩) r.1.length r.1.length, .int .i64 r.2]) ∧ PlanAt w' (.slice (some ⟨g, 0, none⟩) r.1.length r.1.length) r.1 ∧ Below w.heap.size w w'
theorem before5q_any {n : Nat} {u m : Int} {p : Prg} (hp : PrOk n p) (hn : n ≤ 7) (hm0 : 0 ≤ m) (hm1 : m ≤ 10) (A : Option Addr) (c : Nat) (w : World) (hA : PlanAt w (.slice A p.1.length c) p.1) :
    Calls Try.prog 66 #[.agg #[.slice A p.1.length c, .int .i64 p.2], .int .i64 u, .int .i64 m] w (RetBg (befP u m p) w) := by
  obtain ⟨h1, h2, h3⟩ := hp
  exact before5p_any u m p.2 A c p.1 w hm0 (by omega) h2 (by omega) (by omega) hA
theorem blk_low2 {W : World} {B g : Nat} {t : TypeId} {cs : Array Value} {x y : Value} (_ : Blk W g t cs) (hg : B ≤ g) : Below B W (W.setCells g 0 [x, y]) := below_set2 (Below.refl _ _) hg
theorem far2 {W : World} {g k : Nat} {x y : Value} {t : TypeId} {cs : Array Value} (hne : k ≠ g) (h : Blk W k t cs) : Blk (W.setCells g 0 [x, y]) k t cs := (h.far (p := ⟨g, 0, none⟩) hne x).far (p := ⟨g, 1, none⟩) hne y
theorem bit_use {t q : Nat} (ht : t < 128) (hq : q < 7) : bits .and .i64 ((t : Int) / 2 ^ q) 1 = if Nat.testBit t q = true then 1 else 0 := by
  rw [← and_bits t ht q hq]
  congr 1
set_option maxRecDepth 100000 in
set_option maxHeartbeats 8000000 in
theorem pr_miss (g : Int → Int → Option Int) (L U bl kb fb ub cb km cm n k t : Nat) (W : World) (i : Int) (hi : i = (L : Int) - (k + 1 : Nat)) (hk : k + 1 ≤ L) (hL : L ≤ 7) (hU : U ≤ 7) (hgo : GOk g) (ht : t < 128) (hE : EnvP g L U bl kb fb ub cb km cm n W)
    (hn : n + cnt5 (k + 1) ≤ 900000)
    (IH : ∀ (V : World) (t' n' : Nat), EnvP g L U bl kb fb ub cb km cm n' V → t' < 128 → n' + cnt5 k ≤ 900000 → Calls Try.prog 64 #[.agg #[.int .i64 (i + 1), .int .i64 t'], .pointer (some ⟨bl, 0, none⟩), .pointer (some ⟨kb, 0, none⟩), .pointer (some ⟨fb, 0, none⟩), .pointer (some ⟨ub, 0, none⟩), .pointer (some ⟨cb, 0, none⟩)] V (RetPr g L U km n' (pairT g L U k t') k V))
    (hlook : ∀ V, V.heap[km]? = W.heap[km]? → (Instr.lookup 123 (.map (some km)) (.agg #[.int .i64 i, .int .i64 t]) true).run Try.prog V = .ok (.tuple #[.agg #[.slice none 0 0, .int .i64 0], .bool false]) V) :
    Calls Try.prog 64 #[.agg #[.int .i64 i, .int .i64 t], .pointer (some ⟨bl, 0, none⟩), .pointer (some ⟨kb, 0, none⟩), .pointer (some ⟨fb, 0, none⟩), .pointer (some ⟨ub, 0, none⟩), .pointer (some ⟨cb, 0, none⟩)] W (RetPr g L U km n (pairT g L U (k + 1) t) (k + 1) W) := by
  have HS : Hid (BpS g L U bl kb fb ub cb km cm W i t n _) := Lib.hid (BpS.start (i := i) (t := t) hE)
  have HLT := Lib.hid hE.lts
  have hb : Below W.heap.size W ((W.alloc (.cells #[.int .i64 i, .int .i64 t] 126)).alloc (.cells #[.slice none 0 0, .int .i64 0] 83)) := ((Below.refl _ _).alloc (Nat.le_refl _) _).alloc (by simp) _
  have hlk := hlook _ (hb.block km hE.known.lt)
  have hne : (i == (L : Int)) = false := by rw [beq_eq_false_iff_ne]; omega
  have hi0 : 0 ≤ i := by omega
  have hi1 : i ≤ 6 := by omega
  have HIH := Lib.hid IH
  have HGO := Lib.hid hgo
  have HOKF := Lib.hid fun t' => pairT_ok hgo (L := L) (U := U) k t'
  have HR : Hid (pairT g L U (k + 1) t = scanP g i t (pairT g L U k) U (befP (-1) 0 (pairT g L U k t))) := Lib.hid (by rw [hi]; rfl)
  have HNX : Hid (∀ V : World, Calls Try.prog 65 #[.agg #[.int .i64 i, .int .i64 t], .int .i64 (-1)] V (Ret (.agg #[.int .i64 (i + 1), .int .i64 t]) V)) := Lib.hid fun V => by
    have h9 := next5_any i t (-1) V hi0 (by omega) ht (by omega) (by omega)
    rwa [show nextT t (-1) = t from if_pos rfl] at h9
  have HBF : Hid (∀ A c V, PlanAt V (.slice A (pairT g L U k t).1.length c) (pairT g L U k t).1 → Calls Try.prog 66 #[.agg #[.slice A (pairT g L U k t).1.length c, .int .i64 (pairT g L U k t).2], .int .i64 (-1), .int .i64 0] V (RetBg (befP (-1) 0 (pairT g L U k t)) V)) := Lib.hid fun A c V h => before5q_any (HOKF.out t) (by omega) (by omega) (by omega) A c V h
  have HBT : Hid (∀ V n', EnvP g L U bl kb fb ub cb km cm n' V → n' + cnt5 k ≤ 900000 → Calls Try.prog 64 #[.agg #[.int .i64 (i + 1), .int .i64 t], .pointer (some ⟨bl, 0, none⟩), .pointer (some ⟨kb, 0, none⟩), .pointer (some ⟨fb, 0, none⟩), .pointer (some ⟨ub, 0, none⟩), .pointer (some ⟨cb, 0, none⟩)] V (RetPr g L U km n' (pairT g L U k t) k V)) := Lib.hid fun V n' h1 h2 => IH V t n' h1 ht h2
  have HPK : Hid (PrOk (k + 1) (befP (-1) 0 (pairT g L U k t))) := Lib.hid (befP_ok (HOKF.out t) (by omega) (by omega))
  have HI : Hid (i = (L : Int) - (k + 1 : Nat)) := Lib.hid hi
  have hn2 : n + (1 + 8 * cnt5 k) ≤ 900000 := hn
  generalize befP (-1) 0 (pairT g L U k t) = r0 at *
  generalize pairT g L U k t = p0 at *
  obtain ⟨R, hR⟩ : ∃ R, pairT g L U (k + 1) t = R := ⟨_, rfl⟩
  have HIR : Hid (R = pairT g L U (k + 1) t) := Lib.hid hR.symm
  rw [hR] at HR ⊢
  clear hR
  clear hE hlook hb hi IH hgo hn
  go_enter Try.func64, Try.ntmps64
  go_upto_region 1 with fail
  generalize hV : World.alloc (World.alloc W _) _ = V at *
  clear hV
  have x0 := HS.out.kt.cell 0
  have x1 := HS.out.kt.cell 1
  have y0 := HS.out.env.xl.cell 0
  have y1 := HS.out.env.xk.cell 0
  go_upto_region 4 with fail
  replace HS := Lib.hid (HS.out.call ((Below.refl _ _).alloc (Nat.le_refl _) (.cells #[.slice none 0 0, .int .i64 0] 83)))
  clear x0 x1 y0 y1 hlk hne
  generalize World.alloc V _ = V2 at HS ⊢
  go_upto_region 6 with fail
  go_cut [10] (fun v wx => ∃ g10 A c, v = .pointer (some ⟨g10, 0, none⟩) ∧ W.heap.size + 1 < g10 ∧ Hid (BpS g L U bl kb fb ub cb km cm W i t (n + cnt5 k) wx) ∧ Hid (Blk wx g10 83 #[.slice A r0.1.length c, .int .i64 r0.2]) ∧ Hid (PlanAt wx (.slice A r0.1.length c) r0.1))
  case first =>
    go_wp2_with fail
    replace HS := Lib.hid (HS.out.call (Below.refl _ _).drew)
    refine wp_region_held_drew (S := fun W9 => Blk W9 fb 124 #[.func (.func 64) #[] #[.pointer (some ⟨bl, 0, none⟩), .pointer (some ⟨kb, 0, none⟩), .pointer (some ⟨fb, 0, none⟩), .pointer (some ⟨ub, 0, none⟩), .pointer (some ⟨cb, 0, none⟩)]] ∧ Blk W9 W.heap.size 126 #[.int .i64 i, .int .i64 t]) (by kernel_rfl) ⟨HS.out.env.xf, HS.out.kt⟩ (fun hH0 => ?_)
    generalize World.drew _ = V0 at *
    simp only [List.size_toArray, List.length_cons, List.length_nil, Nat.reduceAdd, Array.replicate_succ, Array.replicate_zero, List.push_toArray, List.nil_append, List.cons_append]
    refine wpAnyH_take (i := 0 ) (v := ?_) rfl (by kernel_rfl) (by kernel_rfl) (by kernel_rfl) (fun _ _ _ h => h) (Or.inl ⟨by rfl, ?_⟩) (by assumption) ?_; rotate_left; (· (intro w0 hSw; have a0 := hSw.1.cell 0; have b0 := hSw.2.cell 0; have b1 := hSw.2.cell 1; clear hSw; go_simp); first | done | with_reducible rfl); (try simp only [Act.put, List.getElem_toArray, List.getElem_cons_zero, List.setIfInBounds_toArray, List.set_cons_zero, List.set_cons_succ])
    refine wpAnyH_take (i := 1 ) (v := ?_) rfl (by kernel_rfl) (by kernel_rfl) (by kernel_rfl) (fun _ _ _ h => h) (Or.inl ⟨by rfl, ?_⟩) (by assumption) ?_; rotate_left; (· (intro w0 hSw; have a0 := hSw.1.cell 0; have b0 := hSw.2.cell 0; have b1 := hSw.2.cell 1; clear hSw; go_simp); first | done | with_reducible rfl); (try simp only [Act.put, List.getElem_toArray, List.getElem_cons_succ, List.getElem_cons_zero, List.setIfInBounds_toArray, List.set_cons_zero, List.set_cons_succ])
    refine wpAnyH_ready (rs := [2, 5]) (by kernel_rfl) (by simp) ?_
    refine AllReadyH.cons (by simp only [List.getElem?_toArray, List.getElem?_cons_succ, List.getElem?_cons_zero]; rfl) (fun K hK => ?_) ?_
    · go_simp
      refine (HNX.out _).mono ?_
      rintro e X2 ⟨rfl, hb⟩
      replace HS := Lib.hid (HS.out.call hb)
      clear hb
      refine hK.out _ _ ⟨HS.out.env.xf, HS.out.kt⟩ (fun hH1 => ?_)
      clear hK K
      try simp only [List.setIfInBounds_toArray, List.set_cons_zero, List.set_cons_succ]
      refine wpAnyH_ready (rs := [3, 5]) (by kernel_rfl) (by simp) ?_
      refine AllReadyH.cons (by simp only [List.getElem?_toArray, List.getElem?_cons_succ, List.getElem?_cons_zero]; rfl) (fun K hK => ?_) ?_
      · go_simp
        obtain ⟨es, ck, hmp⟩ := HS.out.env.known.isMap
        refine (HBT.out _ _ HS.out.env (by omega)).mono ?_
        rintro e X3 ⟨A9, c9, rfl, hp9, hgg, hm9⟩
        replace HS := Lib.hid (HS.out.gr hgg hm9)
        have HP := Lib.hid hp9
        clear hp9 hgg hm9 hmp
        refine hK.out _ _ ⟨HS.out.env.xf, HS.out.kt⟩ (fun hH2 => ?_)
        clear hK K
        try simp only [List.setIfInBounds_toArray, List.set_cons_zero, List.set_cons_succ]
        refine wpAnyH_ready (rs := [4, 5]) (by kernel_rfl) (by simp) ?_
        refine AllReadyH.cons (by simp only [List.getElem?_toArray, List.getElem?_cons_succ, List.getElem?_cons_zero]; rfl) (fun K hK => ?_) ?_
        · go_simp
          refine (HBF.out _ _ _ HP.out).mono ?_
          rintro e X4 ⟨gq, rfl, hq, hb⟩
          replace HS := Lib.hid (HS.out.call hb)
          have HQ := Lib.hid hq
          clear hb hq HP
          refine hK.out _ _ ⟨HS.out.env.xf, HS.out.kt⟩ (fun hH3 => ?_)
          clear hK K
          try simp only [List.setIfInBounds_toArray, List.set_cons_zero, List.set_cons_succ]
          refine wpAnyH_ready (rs := [5]) (by kernel_rfl) (by simp) ?_
          refine AllReadyH.cons (by simp only [List.getElem?_toArray, List.getElem?_cons_succ, List.getElem?_cons_zero]; rfl) (fun K hK => ?_) AllReadyH.nil
          go_simp
          have hb : Below X4.heap.size X4 (X4.alloc (.cells #[.slice none 0 0, .int .i64 0] 83)) := (Below.refl _ _).alloc (Nat.le_refl _) _
          have HN := Lib.hid (Blk.new X4 83 #[.slice none 0 0, .int .i64 0])
          have hgn : W.heap.size + 1 < X4.heap.size := HS.out.kr.lt
          replace HS := Lib.hid (HS.out.call hb)
          replace HQ := Lib.hid (HQ.out.below hb)
          clear hb
          generalize World.alloc X4 _ = Y0 at *
          generalize X4.heap.size = gn at *
          refine hK.out _ _ ⟨HS.out.env.xf, HS.out.kt⟩ (fun hH4 => ?_)
          clear hK K
          try simp only [List.setIfInBounds_toArray, List.set_cons_zero, List.set_cons_succ]
          refine wpAnyH_ready (rs := [6]) (by kernel_rfl) (by simp) ?_
          refine AllReadyH.cons (by simp only [List.getElem?_toArray, List.getElem?_cons_succ, List.getElem?_cons_zero]; rfl) (fun K hK => ?_) AllReadyH.nil
          rw [if_pos (by rfl)]
          refine wp_store_mid 83 (.tmp 10) (.tmp 32) (by rfl) gn 0 #[.slice (some ⟨gq, 0, none⟩) r0.1.length r0.1.length, .int .i64 r0.2] (by rfl) (by rfl) (there_mid (o := 0) HN.out (by simp)) (by kernel_rfl) (by simp [Value.oneCell']) ?_
          have hkj := KeepJ.set2 HN.out (by decide) (.slice (some ⟨gq, 0, none⟩) r0.1.length r0.1.length) (.int .i64 r0.2)
          have hlo := blk_low2 (B := W.heap.size + 1 + 1) (x := .slice (some ⟨gq, 0, none⟩) r0.1.length r0.1.length) (y := .int .i64 r0.2) HN.out hgn
          replace HS := Lib.hid (HS.out.low HLT.out hlo hkj)
          replace HQ := Lib.hid (HQ.out.keepJ hkj)
          replace HN := Lib.hid (set2_blk (x := .slice (some ⟨gq, 0, none⟩) r0.1.length r0.1.length) (y := .int .i64 r0.2) HN.out)
          clear hkj hlo
          refine hK.out _ _ ⟨HS.out.env.xf, HS.out.kt⟩ (fun hH5 => ?_)
          clear hK K
          try simp only [List.setIfInBounds_toArray, List.set_cons_zero, List.set_cons_succ]
          refine wpAnyH_done (by kernel_rfl) ?_ _
          go_wp2_with fail
          go_meet
          exact ⟨gn, _, _, rfl, hgn, HS, HN, HQ⟩
        refine AllReadyH.cons (by simp only [List.getElem?_toArray, List.getElem?_cons_succ, List.getElem?_cons_zero]; rfl) (fun K hK => ?_) ?_
        · go_simp
          have hb : Below X3.heap.size X3 (X3.alloc (.cells #[.slice none 0 0, .int .i64 0] 83)) := (Below.refl _ _).alloc (Nat.le_refl _) _
          have HN := Lib.hid (Blk.new X3 83 #[.slice none 0 0, .int .i64 0])
          have hgn : W.heap.size + 1 < X3.heap.size := HS.out.kr.lt
          replace HS := Lib.hid (HS.out.call hb)
          replace HP := Lib.hid (HP.out.below hb)
          clear hb
          generalize World.alloc X3 _ = Y0 at *
          generalize X3.heap.size = gn at *
          refine hK.out _ _ ⟨HS.out.env.xf, HS.out.kt⟩ (fun hH6 => ?_)
          clear hK K
          try simp only [List.setIfInBounds_toArray, List.set_cons_zero, List.set_cons_succ]
          refine wpAnyH_ready (rs := [4]) (by kernel_rfl) (by simp) ?_
          refine AllReadyH.cons (by simp only [List.getElem?_toArray, List.getElem?_cons_succ, List.getElem?_cons_zero]; rfl) (fun K hK => ?_) AllReadyH.nil
          go_simp
          refine (HBF.out _ _ _ HP.out).mono ?_
          rintro e X5 ⟨gq, rfl, hq, hb⟩
          replace HS := Lib.hid (HS.out.call hb)
          replace HN := Lib.hid (HN.out.below hb HN.out.lt)
          have HQ := Lib.hid hq
          clear hb hq HP
          refine hK.out _ _ ⟨HS.out.env.xf, HS.out.kt⟩ (fun hH7 => ?_)
          clear hK K
          try simp only [List.setIfInBounds_toArray, List.set_cons_zero, List.set_cons_succ]
          refine wpAnyH_ready (rs := [6]) (by kernel_rfl) (by simp) ?_
          refine AllReadyH.cons (by simp only [List.getElem?_toArray, List.getElem?_cons_succ, List.getElem?_cons_zero]; rfl) (fun K hK => ?_) AllReadyH.nil
          rw [if_pos (by rfl)]
          refine wp_store_mid 83 (.tmp 10) (.tmp 32) (by rfl) gn 0 #[.slice (some ⟨gq, 0, none⟩) r0.1.length r0.1.length, .int .i64 r0.2] (by rfl) (by rfl) (there_mid (o := 0) HN.out (by simp)) (by kernel_rfl) (by simp [Value.oneCell']) ?_
          have hkj := KeepJ.set2 HN.out (by decide) (.slice (some ⟨gq, 0, none⟩) r0.1.length r0.1.length) (.int .i64 r0.2)
          have hlo := blk_low2 (B := W.heap.size + 1 + 1) (x := .slice (some ⟨gq, 0, none⟩) r0.1.length r0.1.length) (y := .int .i64 r0.2) HN.out hgn
          replace HS := Lib.hid (HS.out.low HLT.out hlo hkj)
          replace HQ := Lib.hid (HQ.out.keepJ hkj)
          replace HN := Lib.hid (set2_blk (x := .slice (some ⟨gq, 0, none⟩) r0.1.length r0.1.length) (y := .int .i64 r0.2) HN.out)
          clear hkj hlo
          refine hK.out _ _ ⟨HS.out.env.xf, HS.out.kt⟩ (fun hH8 => ?_)
          clear hK K
          try simp only [List.setIfInBounds_toArray, List.set_cons_zero, List.set_cons_succ]
          refine wpAnyH_done (by kernel_rfl) ?_ _
          go_wp2_with fail
          go_meet
          exact ⟨gn, _, _, rfl, hgn, HS, HN, HQ⟩
        exact AllReadyH.nil
      refine AllReadyH.cons (by simp only [List.getElem?_toArray, List.getElem?_cons_succ, List.getElem?_cons_zero]; rfl) (fun K hK => ?_) ?_
      · go_simp
        have hb : Below X2.heap.size X2 (X2.alloc (.cells #[.slice none 0 0, .int .i64 0] 83)) := (Below.refl _ _).alloc (Nat.le_refl _) _
        have HN := Lib.hid (Blk.new X2 83 #[.slice none 0 0, .int .i64 0])
        have hgn : W.heap.size + 1 < X2.heap.size := HS.out.kr.lt
        replace HS := Lib.hid (HS.out.call hb)
        clear hb
        generalize World.alloc X2 _ = Y0 at *
        generalize X2.heap.size = gn at *
        refine hK.out _ _ ⟨HS.out.env.xf, HS.out.kt⟩ (fun hH9 => ?_)
        clear hK K
        try simp only [List.setIfInBounds_toArray, List.set_cons_zero, List.set_cons_succ]
        refine wpAnyH_ready (rs := [3]) (by kernel_rfl) (by simp) ?_
        refine AllReadyH.cons (by simp only [List.getElem?_toArray, List.getElem?_cons_succ, List.getElem?_cons_zero]; rfl) (fun K hK => ?_) AllReadyH.nil
        go_simp
        obtain ⟨es, ck, hmp⟩ := HS.out.env.known.isMap
        refine (HBT.out _ _ HS.out.env (by omega)).mono ?_
        rintro e X4 ⟨A9, c9, rfl, hp9, hgg, hm9⟩
        replace HN := Lib.hid (HN.out.grJ hgg hmp)
        replace HS := Lib.hid (HS.out.gr hgg hm9)
        have HP := Lib.hid hp9
        clear hp9 hgg hm9 hmp
        refine hK.out _ _ ⟨HS.out.env.xf, HS.out.kt⟩ (fun hH10 => ?_)
        clear hK K
        try simp only [List.setIfInBounds_toArray, List.set_cons_zero, List.set_cons_succ]
        refine wpAnyH_ready (rs := [4]) (by kernel_rfl) (by simp) ?_
        refine AllReadyH.cons (by simp only [List.getElem?_toArray, List.getElem?_cons_succ, List.getElem?_cons_zero]; rfl) (fun K hK => ?_) AllReadyH.nil
        go_simp
        refine (HBF.out _ _ _ HP.out).mono ?_
        rintro e X5 ⟨gq, rfl, hq, hb⟩
        replace HS := Lib.hid (HS.out.call hb)
        replace HN := Lib.hid (HN.out.below hb HN.out.lt)
        have HQ := Lib.hid hq
        clear hb hq HP
        refine hK.out _ _ ⟨HS.out.env.xf, HS.out.kt⟩ (fun hH11 => ?_)
        clear hK K
        try simp only [List.setIfInBounds_toArray, List.set_cons_zero, List.set_cons_succ]
        refine wpAnyH_ready (rs := [6]) (by kernel_rfl) (by simp) ?_
        refine AllReadyH.cons (by simp only [List.getElem?_toArray, List.getElem?_cons_succ, List.getElem?_cons_zero]; rfl) (fun K hK => ?_) AllReadyH.nil
        rw [if_pos (by rfl)]
        refine wp_store_mid 83 (.tmp 10) (.tmp 32) (by rfl) gn 0 #[.slice (some ⟨gq, 0, none⟩) r0.1.length r0.1.length, .int .i64 r0.2] (by rfl) (by rfl) (there_mid (o := 0) HN.out (by simp)) (by kernel_rfl) (by simp [Value.oneCell']) ?_
        have hkj := KeepJ.set2 HN.out (by decide) (.slice (some ⟨gq, 0, none⟩) r0.1.length r0.1.length) (.int .i64 r0.2)
        have hlo := blk_low2 (B := W.heap.size + 1 + 1) (x := .slice (some ⟨gq, 0, none⟩) r0.1.length r0.1.length) (y := .int .i64 r0.2) HN.out hgn
        replace HS := Lib.hid (HS.out.low HLT.out hlo hkj)
        replace HQ := Lib.hid (HQ.out.keepJ hkj)
        replace HN := Lib.hid (set2_blk (x := .slice (some ⟨gq, 0, none⟩) r0.1.length r0.1.length) (y := .int .i64 r0.2) HN.out)
        clear hkj hlo
        refine hK.out _ _ ⟨HS.out.env.xf, HS.out.kt⟩ (fun hH12 => ?_)
        clear hK K
        try simp only [List.setIfInBounds_toArray, List.set_cons_zero, List.set_cons_succ]
        refine wpAnyH_done (by kernel_rfl) ?_ _
        go_wp2_with fail
        go_meet
        exact ⟨gn, _, _, rfl, hgn, HS, HN, HQ⟩
      exact AllReadyH.nil
    refine AllReadyH.cons (by simp only [List.getElem?_toArray, List.getElem?_cons_succ, List.getElem?_cons_zero]; rfl) (fun K hK => ?_) ?_
    · go_simp
      have hb : Below V0.heap.size V0 (V0.alloc (.cells #[.slice none 0 0, .int .i64 0] 83)) := (Below.refl _ _).alloc (Nat.le_refl _) _
      have HN := Lib.hid (Blk.new V0 83 #[.slice none 0 0, .int .i64 0])
      have hgn : W.heap.size + 1 < V0.heap.size := HS.out.kr.lt
      replace HS := Lib.hid (HS.out.call hb)
      clear hb
      generalize World.alloc V0 _ = Y0 at *
      generalize V0.heap.size = gn at *
      refine hK.out _ _ ⟨HS.out.env.xf, HS.out.kt⟩ (fun hH13 => ?_)
      clear hK K
      try simp only [List.setIfInBounds_toArray, List.set_cons_zero, List.set_cons_succ]
      refine wpAnyH_ready (rs := [2]) (by kernel_rfl) (by simp) ?_
      refine AllReadyH.cons (by simp only [List.getElem?_toArray, List.getElem?_cons_succ, List.getElem?_cons_zero]; rfl) (fun K hK => ?_) AllReadyH.nil
      go_simp
      refine (HNX.out _).mono ?_
      rintro e X3 ⟨rfl, hb⟩
      replace HS := Lib.hid (HS.out.call hb)
      replace HN := Lib.hid (HN.out.below hb HN.out.lt)
      clear hb
      refine hK.out _ _ ⟨HS.out.env.xf, HS.out.kt⟩ (fun hH14 => ?_)
      clear hK K
      try simp only [List.setIfInBounds_toArray, List.set_cons_zero, List.set_cons_succ]
      refine wpAnyH_ready (rs := [3]) (by kernel_rfl) (by simp) ?_
      refine AllReadyH.cons (by simp only [List.getElem?_toArray, List.getElem?_cons_succ, List.getElem?_cons_zero]; rfl) (fun K hK => ?_) AllReadyH.nil
      go_simp
      obtain ⟨es, ck, hmp⟩ := HS.out.env.known.isMap
      refine (HBT.out _ _ HS.out.env (by omega)).mono ?_
      rintro e X4 ⟨A9, c9, rfl, hp9, hgg, hm9⟩
      replace HN := Lib.hid (HN.out.grJ hgg hmp)
      replace HS := Lib.hid (HS.out.gr hgg hm9)
      have HP := Lib.hid hp9
      clear hp9 hgg hm9 hmp
      refine hK.out _ _ ⟨HS.out.env.xf, HS.out.kt⟩ (fun hH15 => ?_)
      clear hK K
      try simp only [List.setIfInBounds_toArray, List.set_cons_zero, List.set_cons_succ]
      refine wpAnyH_ready (rs := [4]) (by kernel_rfl) (by simp) ?_
      refine AllReadyH.cons (by simp only [List.getElem?_toArray, List.getElem?_cons_succ, List.getElem?_cons_zero]; rfl) (fun K hK => ?_) AllReadyH.nil
      go_simp
      refine (HBF.out _ _ _ HP.out).mono ?_
      rintro e X5 ⟨gq, rfl, hq, hb⟩
      replace HS := Lib.hid (HS.out.call hb)
      replace HN := Lib.hid (HN.out.below hb HN.out.lt)
      have HQ := Lib.hid hq
      clear hb hq HP
      refine hK.out _ _ ⟨HS.out.env.xf, HS.out.kt⟩ (fun hH16 => ?_)
      clear hK K
      try simp only [List.setIfInBounds_toArray, List.set_cons_zero, List.set_cons_succ]
      refine wpAnyH_ready (rs := [6]) (by kernel_rfl) (by simp) ?_
      refine AllReadyH.cons (by simp only [List.getElem?_toArray, List.getElem?_cons_succ, List.getElem?_cons_zero]; rfl) (fun K hK => ?_) AllReadyH.nil
      rw [if_pos (by rfl)]
      refine wp_store_mid 83 (.tmp 10) (.tmp 32) (by rfl) gn 0 #[.slice (some ⟨gq, 0, none⟩) r0.1.length r0.1.length, .int .i64 r0.2] (by rfl) (by rfl) (there_mid (o := 0) HN.out (by simp)) (by kernel_rfl) (by simp [Value.oneCell']) ?_
      have hkj := KeepJ.set2 HN.out (by decide) (.slice (some ⟨gq, 0, none⟩) r0.1.length r0.1.length) (.int .i64 r0.2)
      have hlo := blk_low2 (B := W.heap.size + 1 + 1) (x := .slice (some ⟨gq, 0, none⟩) r0.1.length r0.1.length) (y := .int .i64 r0.2) HN.out hgn
      replace HS := Lib.hid (HS.out.low HLT.out hlo hkj)
      replace HQ := Lib.hid (HQ.out.keepJ hkj)
      replace HN := Lib.hid (set2_blk (x := .slice (some ⟨gq, 0, none⟩) r0.1.length r0.1.length) (y := .int .i64 r0.2) HN.out)
      clear hkj hlo
      refine hK.out _ _ ⟨HS.out.env.xf, HS.out.kt⟩ (fun hH17 => ?_)
      clear hK K
      try simp only [List.setIfInBounds_toArray, List.set_cons_zero, List.set_cons_succ]
      refine wpAnyH_done (by kernel_rfl) ?_ _
      go_wp2_with fail
      go_meet
      exact ⟨gn, _, _, rfl, hgn, HS, HN, HQ⟩
    exact AllReadyH.nil
  case rest => as_aux_lemma =>
    obtain ⟨g10, A, c, rfl, hge, HS, HB, HPL⟩ := hcut
    have y0 := HS.out.env.xu.cell 0
    have wU : IntKind.i64.wrap ((U : Int) - 1) = (U : Int) - 1 := IntWalk.i64_in _ ⟨by omega, by omega⟩
    clear HNX HBT HBF
    go_upto_region 8 with fail
    clear y0 wU
    go_loopw [11] (fun kv wr => ∃ z : Int, kv = .int .i64 z ∧ -1 ≤ z ∧ z < U ∧ ∃ (r : Prg) (A : Option Addr) (c nn : Nat), Hid (nn + (z + 1).toNat * cnt5 k + 1 ≤ n + (1 + 8 * cnt5 k)) ∧ Hid (scanP g i t (pairT g L U k) (z + 1).toNat r = R) ∧ Hid (PrOk (k + 1) r) ∧ Hid (BpS g L U bl kb fb ub cb km cm W i t nn wr) ∧ Hid (Blk wr g10 83 #[.slice A r.1.length c, .int .i64 r.2]) ∧ Hid (PlanAt wr (.slice A r.1.length c) r.1)) (fun kv _ => (intOf kv + 1).toNat)
    case atStart => exact ⟨(U : Int) - 1, rfl, by omega, by omega, r0, A, c, n + cnt5 k, Lib.hid (by rw [show ((U : Int) - 1 + 1).toNat = U by omega]; have := Nat.mul_le_mul_right (cnt5 k) hU; omega), Lib.hid (by rw [show ((U : Int) - 1 + 1).toNat = U by omega]; exact HR.out.symm), HPK, HS, HB, HPL⟩
    case round =>
      clear HS HB HPL HR HPK
      obtain ⟨z, rfl, hz0, hz1, r, A, c, nn, HC, HSC, HPO, HS, HB, HPL⟩ := hrel
      by_cases hz : 0 ≤ z
      · obtain ⟨q, rfl⟩ := Int.eq_ofNat_of_zero_le hz
        have hq7 : q < 7 := by omega
        have e9 : ((q : Int) + 1).toNat = q + 1 := by omega
        have e8 : ((q : Int) - 1 + 1).toNat = q := by omega
        rw [e9] at HC HSC
        have HC2 : Hid (nn + ((q : Int) - 1 + 1).toNat * cnt5 k + 1 ≤ n + (1 + 8 * cnt5 k)) := Lib.hid (by rw [e8]; have h9 := HC.out; rw [Nat.succ_mul] at h9; omega)
        have HC3 : Hid (nn + cnt5 k + ((q : Int) - 1 + 1).toNat * cnt5 k + 1 ≤ n + (1 + 8 * cnt5 k)) := Lib.hid (by rw [e8]; have h9 := HC.out; rw [Nat.succ_mul] at h9; omega)
        have hnb : nn + cnt5 k ≤ 900000 := by have h9 := HC.out; rw [Nat.succ_mul] at h9; omega
        have HSC2 : Hid (scanP g i t (pairT g L U k) ((q : Int) - 1 + 1).toNat (tryP g i t (pairT g L U k) q r) = R) := Lib.hid (by rw [e8]; exact HSC.out)
        have wq : IntKind.i64.wrap ((q : Int) - 1) = (q : Int) - 1 := IntWalk.i64_in _ ⟨by omega, by omega⟩
        have hq0 : (0 : Int) ≤ q := by omega
        have x0 := HS.out.kt.cell 0
        have x1 := HS.out.kt.cell 1
        have y0 := HS.out.env.xc.cell 0
        clear e9 e8 HC HSC hz0
        rcases HS.out.env.hc.look (i := i) (k := (q : Int)) (by unfold In64; omega) (by unfold In64; omega) with ⟨hgn, hlk⟩ | ⟨m, hgm, hlk⟩
        · rw [tryP_no hgn] at HSC2
          clear hgn
          go_wp2_with fail
          go_roundw
          case rel => exact ⟨(q : Int) - 1, rfl, by omega, by omega, r, A, c, nn, HC2, HSC2, HPO, HS, HB, HPL⟩
          case measure => simp [intOf] <;> omega
        · obtain ⟨hm0, hm1⟩ := HGO.out _ _ _ hgm
          have hq64 : (q : Int) ≤ 64 := by omega
          have hbu := bit_use (t := t) (q := q) ht hq7
          cases htb : Nat.testBit t q with
          | true =>
            rw [tryP_used hgm htb] at HSC2
            rw [if_pos htb] at hbu
            clear hgm htb hm0 hm1
            go_wp2_with fail
            go_roundw
            case rel => exact ⟨(q : Int) - 1, rfl, by omega, by omega, r, A, c, nn, HC2, HSC2, HPO, HS, HB, HPL⟩
            case measure => simp [intOf] <;> omega
          | false =>
            rw [tryP_free hgm htb] at HSC2
            rw [if_neg (by rw [htb]; simp)] at hbu
            have ht2 : t ||| 2 ^ q < 128 := or_small t ht q hq7
            have HNX : Hid (∀ V : World, Calls Try.prog 65 #[.agg #[.int .i64 i, .int .i64 t], .int .i64 (q : Int)] V (Ret (.agg #[.int .i64 (i + 1), .int .i64 ((t ||| 2 ^ q : Nat) : Int)]) V)) := Lib.hid fun V => by
              have h9 := next5_any i t (q : Int) V hi0 (by omega) ht (by omega) (by omega)
              rwa [show nextT t (q : Int) = t ||| 2 ^ q from if_neg (by omega)] at h9
            have HBT : Hid (∀ V n', EnvP g L U bl kb fb ub cb km cm n' V → n' + cnt5 k ≤ 900000 → Calls Try.prog 64 #[.agg #[.int .i64 (i + 1), .int .i64 ((t ||| 2 ^ q : Nat) : Int)], .pointer (some ⟨bl, 0, none⟩), .pointer (some ⟨kb, 0, none⟩), .pointer (some ⟨fb, 0, none⟩), .pointer (some ⟨ub, 0, none⟩), .pointer (some ⟨cb, 0, none⟩)] V (RetPr g L U km n' (pairT g L U k (t ||| 2 ^ q)) k V)) := Lib.hid fun V n' h1 h2 => HIH.out V _ n' h1 ht2 h2
            have HBF : Hid (∀ A c V, PlanAt V (.slice A (pairT g L U k (t ||| 2 ^ q)).1.length c) (pairT g L U k (t ||| 2 ^ q)).1 → Calls Try.prog 66 #[.agg #[.slice A (pairT g L U k (t ||| 2 ^ q)).1.length c, .int .i64 (pairT g L U k (t ||| 2 ^ q)).2], .int .i64 (q : Int), .int .i64 m] V (RetBg (befP (q : Int) m (pairT g L U k (t ||| 2 ^ q))) V)) := Lib.hid fun A c V h => before5q_any (HOKF.out _) (by omega) hm0 hm1 A c V h
            have HPK : Hid (PrOk (k + 1) (befP (q : Int) m (pairT g L U k (t ||| 2 ^ q)))) := Lib.hid (befP_ok (HOKF.out _) hm0 hm1)
            have HSC3 : Hid (scanP g i t (pairT g L U k) ((q : Int) - 1 + 1).toNat (if r.2 ≤ (befP (q : Int) m (pairT g L U k (t ||| 2 ^ q))).2 then befP (q : Int) m (pairT g L U k (t ||| 2 ^ q)) else r) = R) := Lib.hid HSC2.out
            generalize befP (q : Int) m (pairT g L U k (t ||| 2 ^ q)) = r1 at *
            generalize pairT g L U k (t ||| 2 ^ q) = p1 at *
            generalize t ||| 2 ^ q = t1 at *
            clear HSC2 hgm htb hm0 hm1 ht2 HC2
            go_upto_region 12 with fail
            clear x0 x1 y0 hbu hlk
            go_cut [14] (fun v wx => ∃ g14 A2 c2, v = .pointer (some ⟨g14, 0, none⟩) ∧ W.heap.size + 1 < g14 ∧ g10 ≠ g14 ∧ Hid (BpS g L U bl kb fb ub cb km cm W i t (nn + cnt5 k) wx) ∧ Hid (Blk wx g10 83 #[.slice A r.1.length c, .int .i64 r.2]) ∧ Hid (PlanAt wx (.slice A r.1.length c) r.1) ∧ Hid (Blk wx g14 83 #[.slice A2 r1.1.length c2, .int .i64 r1.2]) ∧ Hid (PlanAt wx (.slice A2 r1.1.length c2) r1.1))
            case first =>
              go_wp2_with fail
              replace HS := Lib.hid (HS.out.call (Below.refl _ _).drew)
              replace HB := Lib.hid (HB.out.below (Below.refl _ _).drew HB.out.lt)
              replace HPL := Lib.hid (HPL.out.below (Below.refl _ _).drew)
              refine wp_region_held_drew (S := fun W9 => Blk W9 fb 124 #[.func (.func 64) #[] #[.pointer (some ⟨bl, 0, none⟩), .pointer (some ⟨kb, 0, none⟩), .pointer (some ⟨fb, 0, none⟩), .pointer (some ⟨ub, 0, none⟩), .pointer (some ⟨cb, 0, none⟩)]] ∧ Blk W9 W.heap.size 126 #[.int .i64 i, .int .i64 t]) (by kernel_rfl) ⟨HS.out.env.xf, HS.out.kt⟩ (fun hH0 => ?_)
              generalize World.drew _ = V0 at *
              simp only [List.size_toArray, List.length_cons, List.length_nil, Nat.reduceAdd, Array.replicate_succ, Array.replicate_zero, List.push_toArray, List.nil_append, List.cons_append]
              refine wpAnyH_take (i := 0 ) (v := ?_) rfl (by kernel_rfl) (by kernel_rfl) (by kernel_rfl) (fun _ _ _ h => h) (Or.inl ⟨by rfl, ?_⟩) (by assumption) ?_; rotate_left; (· (intro w0 hSw; have a0 := hSw.1.cell 0; have b0 := hSw.2.cell 0; have b1 := hSw.2.cell 1; clear hSw; go_simp); first | done | with_reducible rfl); (try simp only [Act.put, List.getElem_toArray, List.getElem_cons_zero, List.setIfInBounds_toArray, List.set_cons_zero, List.set_cons_succ])
              refine wpAnyH_take (i := 1 ) (v := ?_) rfl (by kernel_rfl) (by kernel_rfl) (by kernel_rfl) (fun _ _ _ h => h) (Or.inl ⟨by rfl, ?_⟩) (by assumption) ?_; rotate_left; (· (intro w0 hSw; have a0 := hSw.1.cell 0; have b0 := hSw.2.cell 0; have b1 := hSw.2.cell 1; clear hSw; go_simp); first | done | with_reducible rfl); (try simp only [Act.put, List.getElem_toArray, List.getElem_cons_succ, List.getElem_cons_zero, List.setIfInBounds_toArray, List.set_cons_zero, List.set_cons_succ])
              refine wpAnyH_take (i := 2 ) (v := ?_) rfl (by kernel_rfl) (by kernel_rfl) (by kernel_rfl) (fun _ _ _ h => h) (Or.inl ⟨by rfl, ?_⟩) (by assumption) ?_; rotate_left; (· (intro w0 hSw; have a0 := hSw.1.cell 0; have b0 := hSw.2.cell 0; have b1 := hSw.2.cell 1; clear hSw; go_simp); first | done | with_reducible rfl); (try simp only [Act.put, List.getElem_toArray, List.getElem_cons_succ, List.getElem_cons_zero, List.setIfInBounds_toArray, List.set_cons_zero, List.set_cons_succ])
              refine wpAnyH_take (i := 5 ) (v := ?_) rfl (by kernel_rfl) (by kernel_rfl) (by kernel_rfl) (fun _ _ _ h => h) (Or.inl ⟨by rfl, ?_⟩) (by assumption) ?_; rotate_left; (· (intro w0 hSw; have a0 := hSw.1.cell 0; have b0 := hSw.2.cell 0; have b1 := hSw.2.cell 1; clear hSw; go_simp); first | done | with_reducible rfl); (try simp only [Act.put, List.getElem_toArray, List.getElem_cons_succ, List.getElem_cons_zero, List.setIfInBounds_toArray, List.set_cons_zero, List.set_cons_succ])
              refine wpAnyH_take (i := 6 ) (v := ?_) rfl (by kernel_rfl) (by kernel_rfl) (by kernel_rfl) (fun _ _ _ h => h) (Or.inl ⟨by rfl, ?_⟩) (by assumption) ?_; rotate_left; (· (intro w0 hSw; have a0 := hSw.1.cell 0; have b0 := hSw.2.cell 0; have b1 := hSw.2.cell 1; clear hSw; go_simp); first | done | with_reducible rfl); (try simp only [Act.put, List.getElem_toArray, List.getElem_cons_succ, List.getElem_cons_zero, List.setIfInBounds_toArray, List.set_cons_zero, List.set_cons_succ])
              refine wpAnyH_ready (rs := [3, 8]) (by kernel_rfl) (by simp) ?_
              refine AllReadyH.cons (by simp only [List.getElem?_toArray, List.getElem?_cons_succ, List.getElem?_cons_zero]; rfl) (fun K hK => ?_) ?_
              · go_simp
                refine (HNX.out _).mono ?_
                rintro e X5 ⟨rfl, hb⟩
                replace HS := Lib.hid (HS.out.call hb)
                replace HB := Lib.hid (HB.out.below hb HB.out.lt)
                replace HPL := Lib.hid (HPL.out.below hb)
                clear hb
                refine hK.out _ _ ⟨HS.out.env.xf, HS.out.kt⟩ (fun hH1 => ?_)
                clear hK K
                try simp only [List.setIfInBounds_toArray, List.set_cons_zero, List.set_cons_succ]
                refine wpAnyH_ready (rs := [4, 8]) (by kernel_rfl) (by simp) ?_
                refine AllReadyH.cons (by simp only [List.getElem?_toArray, List.getElem?_cons_succ, List.getElem?_cons_zero]; rfl) (fun K hK => ?_) ?_
                · go_simp
                  obtain ⟨es, ck, hmp⟩ := HS.out.env.known.isMap
                  refine (HBT.out _ _ HS.out.env (by omega)).mono ?_
                  rintro e X6 ⟨A9, c9, rfl, hp9, hgg, hm9⟩
                  replace HB := Lib.hid (HB.out.grJ hgg hmp)
                  replace HPL := Lib.hid (HPL.out.keepJ (KeepJ.grown hgg hmp))
                  replace HS := Lib.hid (HS.out.gr hgg hm9)
                  have HP := Lib.hid hp9
                  clear hp9 hgg hm9 hmp
                  refine hK.out _ _ ⟨HS.out.env.xf, HS.out.kt⟩ (fun hH2 => ?_)
                  clear hK K
                  try simp only [List.setIfInBounds_toArray, List.set_cons_zero, List.set_cons_succ]
                  refine wpAnyH_ready (rs := [7, 8]) (by kernel_rfl) (by simp) ?_
                  refine AllReadyH.cons (by simp only [List.getElem?_toArray, List.getElem?_cons_succ, List.getElem?_cons_zero]; rfl) (fun K hK => ?_) ?_
                  · go_simp
                    refine (HBF.out _ _ _ HP.out).mono ?_
                    rintro e X7 ⟨gq, rfl, hq, hb⟩
                    replace HS := Lib.hid (HS.out.call hb)
                    replace HB := Lib.hid (HB.out.below hb HB.out.lt)
                    replace HPL := Lib.hid (HPL.out.below hb)
                    have HQ := Lib.hid hq
                    clear hb hq HP
                    refine hK.out _ _ ⟨HS.out.env.xf, HS.out.kt⟩ (fun hH3 => ?_)
                    clear hK K
                    try simp only [List.setIfInBounds_toArray, List.set_cons_zero, List.set_cons_succ]
                    refine wpAnyH_ready (rs := [8]) (by kernel_rfl) (by simp) ?_
                    refine AllReadyH.cons (by simp only [List.getElem?_toArray, List.getElem?_cons_succ, List.getElem?_cons_zero]; rfl) (fun K hK => ?_) AllReadyH.nil
                    go_simp
                    have hb : Below X7.heap.size X7 (X7.alloc (.cells #[.slice none 0 0, .int .i64 0] 83)) := (Below.refl _ _).alloc (Nat.le_refl _) _
                    have HN := Lib.hid (Blk.new X7 83 #[.slice none 0 0, .int .i64 0])
                    have hgn : W.heap.size + 1 < X7.heap.size := HS.out.kr.lt
                    have hgx : g10 ≠ X7.heap.size := Nat.ne_of_lt HB.out.lt
                    replace HS := Lib.hid (HS.out.call hb)
                    replace HB := Lib.hid (HB.out.below hb HB.out.lt)
                    replace HPL := Lib.hid (HPL.out.below hb)
                    replace HQ := Lib.hid (HQ.out.below hb)
                    clear hb
                    generalize World.alloc X7 _ = Y0 at *
                    generalize X7.heap.size = gn at *
                    refine hK.out _ _ ⟨HS.out.env.xf, HS.out.kt⟩ (fun hH4 => ?_)
                    clear hK K
                    try simp only [List.setIfInBounds_toArray, List.set_cons_zero, List.set_cons_succ]
                    refine wpAnyH_ready (rs := [9]) (by kernel_rfl) (by simp) ?_
                    refine AllReadyH.cons (by simp only [List.getElem?_toArray, List.getElem?_cons_succ, List.getElem?_cons_zero]; rfl) (fun K hK => ?_) AllReadyH.nil
                    rw [if_pos (by rfl)]
                    refine wp_store_mid 83 (.tmp 14) (.tmp 65) (by rfl) gn 0 #[.slice (some ⟨gq, 0, none⟩) r1.1.length r1.1.length, .int .i64 r1.2] (by rfl) (by rfl) (there_mid (o := 0) HN.out (by simp)) (by kernel_rfl) (by simp [Value.oneCell']) ?_
                    have hkj := KeepJ.set2 HN.out (by decide) (.slice (some ⟨gq, 0, none⟩) r1.1.length r1.1.length) (.int .i64 r1.2)
                    have hlo := blk_low2 (B := W.heap.size + 1 + 1) (x := .slice (some ⟨gq, 0, none⟩) r1.1.length r1.1.length) (y := .int .i64 r1.2) HN.out hgn
                    replace HS := Lib.hid (HS.out.low HLT.out hlo hkj)
                    replace HQ := Lib.hid (HQ.out.keepJ hkj)
                    replace HN := Lib.hid (set2_blk (x := .slice (some ⟨gq, 0, none⟩) r1.1.length r1.1.length) (y := .int .i64 r1.2) HN.out)
                    replace HB := Lib.hid (far2 (x := .slice (some ⟨gq, 0, none⟩) r1.1.length r1.1.length) (y := .int .i64 r1.2) hgx HB.out)
                    replace HPL := Lib.hid (HPL.out.keepJ hkj)
                    clear hkj hlo
                    refine hK.out _ _ ⟨HS.out.env.xf, HS.out.kt⟩ (fun hH5 => ?_)
                    clear hK K
                    try simp only [List.setIfInBounds_toArray, List.set_cons_zero, List.set_cons_succ]
                    refine wpAnyH_done (by kernel_rfl) ?_ _
                    go_wp2_with fail
                    go_meet
                    exact ⟨gn, _, _, rfl, hgn, hgx, HS, HB, HPL, HN, HQ⟩
                  refine AllReadyH.cons (by simp only [List.getElem?_toArray, List.getElem?_cons_succ, List.getElem?_cons_zero]; rfl) (fun K hK => ?_) ?_
                  · go_simp
                    have hb : Below X6.heap.size X6 (X6.alloc (.cells #[.slice none 0 0, .int .i64 0] 83)) := (Below.refl _ _).alloc (Nat.le_refl _) _
                    have HN := Lib.hid (Blk.new X6 83 #[.slice none 0 0, .int .i64 0])
                    have hgn : W.heap.size + 1 < X6.heap.size := HS.out.kr.lt
                    have hgx : g10 ≠ X6.heap.size := Nat.ne_of_lt HB.out.lt
                    replace HS := Lib.hid (HS.out.call hb)
                    replace HB := Lib.hid (HB.out.below hb HB.out.lt)
                    replace HPL := Lib.hid (HPL.out.below hb)
                    replace HP := Lib.hid (HP.out.below hb)
                    clear hb
                    generalize World.alloc X6 _ = Y0 at *
                    generalize X6.heap.size = gn at *
                    refine hK.out _ _ ⟨HS.out.env.xf, HS.out.kt⟩ (fun hH6 => ?_)
                    clear hK K
                    try simp only [List.setIfInBounds_toArray, List.set_cons_zero, List.set_cons_succ]
                    refine wpAnyH_ready (rs := [7]) (by kernel_rfl) (by simp) ?_
                    refine AllReadyH.cons (by simp only [List.getElem?_toArray, List.getElem?_cons_succ, List.getElem?_cons_zero]; rfl) (fun K hK => ?_) AllReadyH.nil
                    go_simp
                    refine (HBF.out _ _ _ HP.out).mono ?_
                    rintro e X8 ⟨gq, rfl, hq, hb⟩
                    replace HS := Lib.hid (HS.out.call hb)
                    replace HB := Lib.hid (HB.out.below hb HB.out.lt)
                    replace HPL := Lib.hid (HPL.out.below hb)
                    replace HN := Lib.hid (HN.out.below hb HN.out.lt)
                    have HQ := Lib.hid hq
                    clear hb hq HP
                    refine hK.out _ _ ⟨HS.out.env.xf, HS.out.kt⟩ (fun hH7 => ?_)
                    clear hK K
                    try simp only [List.setIfInBounds_toArray, List.set_cons_zero, List.set_cons_succ]
                    refine wpAnyH_ready (rs := [9]) (by kernel_rfl) (by simp) ?_
                    refine AllReadyH.cons (by simp only [List.getElem?_toArray, List.getElem?_cons_succ, List.getElem?_cons_zero]; rfl) (fun K hK => ?_) AllReadyH.nil
                    rw [if_pos (by rfl)]
                    refine wp_store_mid 83 (.tmp 14) (.tmp 65) (by rfl) gn 0 #[.slice (some ⟨gq, 0, none⟩) r1.1.length r1.1.length, .int .i64 r1.2] (by rfl) (by rfl) (there_mid (o := 0) HN.out (by simp)) (by kernel_rfl) (by simp [Value.oneCell']) ?_
                    have hkj := KeepJ.set2 HN.out (by decide) (.slice (some ⟨gq, 0, none⟩) r1.1.length r1.1.length) (.int .i64 r1.2)
                    have hlo := blk_low2 (B := W.heap.size + 1 + 1) (x := .slice (some ⟨gq, 0, none⟩) r1.1.length r1.1.length) (y := .int .i64 r1.2) HN.out hgn
                    replace HS := Lib.hid (HS.out.low HLT.out hlo hkj)
                    replace HQ := Lib.hid (HQ.out.keepJ hkj)
                    replace HN := Lib.hid (set2_blk (x := .slice (some ⟨gq, 0, none⟩) r1.1.length r1.1.length) (y := .int .i64 r1.2) HN.out)
                    replace HB := Lib.hid (far2 (x := .slice (some ⟨gq, 0, none⟩) r1.1.length r1.1.length) (y := .int .i64 r1.2) hgx HB.out)
                    replace HPL := Lib.hid (HPL.out.keepJ hkj)
                    clear hkj hlo
                    refine hK.out _ _ ⟨HS.out.env.xf, HS.out.kt⟩ (fun hH8 => ?_)
                    clear hK K
                    try simp only [List.setIfInBounds_toArray, List.set_cons_zero, List.set_cons_succ]
                    refine wpAnyH_done (by kernel_rfl) ?_ _
                    go_wp2_with fail
                    go_meet
                    exact ⟨gn, _, _, rfl, hgn, hgx, HS, HB, HPL, HN, HQ⟩
                  exact AllReadyH.nil
                refine AllReadyH.cons (by simp only [List.getElem?_toArray, List.getElem?_cons_succ, List.getElem?_cons_zero]; rfl) (fun K hK => ?_) ?_
                · go_simp
                  have hb : Below X5.heap.size X5 (X5.alloc (.cells #[.slice none 0 0, .int .i64 0] 83)) := (Below.refl _ _).alloc (Nat.le_refl _) _
                  have HN := Lib.hid (Blk.new X5 83 #[.slice none 0 0, .int .i64 0])
                  have hgn : W.heap.size + 1 < X5.heap.size := HS.out.kr.lt
                  have hgx : g10 ≠ X5.heap.size := Nat.ne_of_lt HB.out.lt
                  replace HS := Lib.hid (HS.out.call hb)
                  replace HB := Lib.hid (HB.out.below hb HB.out.lt)
                  replace HPL := Lib.hid (HPL.out.below hb)
                  clear hb
                  generalize World.alloc X5 _ = Y0 at *
                  generalize X5.heap.size = gn at *
                  refine hK.out _ _ ⟨HS.out.env.xf, HS.out.kt⟩ (fun hH9 => ?_)
                  clear hK K
                  try simp only [List.setIfInBounds_toArray, List.set_cons_zero, List.set_cons_succ]
                  refine wpAnyH_ready (rs := [4]) (by kernel_rfl) (by simp) ?_
                  refine AllReadyH.cons (by simp only [List.getElem?_toArray, List.getElem?_cons_succ, List.getElem?_cons_zero]; rfl) (fun K hK => ?_) AllReadyH.nil
                  go_simp
                  obtain ⟨es, ck, hmp⟩ := HS.out.env.known.isMap
                  refine (HBT.out _ _ HS.out.env (by omega)).mono ?_
                  rintro e X7 ⟨A9, c9, rfl, hp9, hgg, hm9⟩
                  replace HB := Lib.hid (HB.out.grJ hgg hmp)
                  replace HPL := Lib.hid (HPL.out.keepJ (KeepJ.grown hgg hmp))
                  replace HN := Lib.hid (HN.out.grJ hgg hmp)
                  replace HS := Lib.hid (HS.out.gr hgg hm9)
                  have HP := Lib.hid hp9
                  clear hp9 hgg hm9 hmp
                  refine hK.out _ _ ⟨HS.out.env.xf, HS.out.kt⟩ (fun hH10 => ?_)
                  clear hK K
                  try simp only [List.setIfInBounds_toArray, List.set_cons_zero, List.set_cons_succ]
                  refine wpAnyH_ready (rs := [7]) (by kernel_rfl) (by simp) ?_
                  refine AllReadyH.cons (by simp only [List.getElem?_toArray, List.getElem?_cons_succ, List.getElem?_cons_zero]; rfl) (fun K hK => ?_) AllReadyH.nil
                  go_simp
                  refine (HBF.out _ _ _ HP.out).mono ?_
                  rintro e X8 ⟨gq, rfl, hq, hb⟩
                  replace HS := Lib.hid (HS.out.call hb)
                  replace HB := Lib.hid (HB.out.below hb HB.out.lt)
                  replace HPL := Lib.hid (HPL.out.below hb)
                  replace HN := Lib.hid (HN.out.below hb HN.out.lt)
                  have HQ := Lib.hid hq
                  clear hb hq HP
                  refine hK.out _ _ ⟨HS.out.env.xf, HS.out.kt⟩ (fun hH11 => ?_)
                  clear hK K
                  try simp only [List.setIfInBounds_toArray, List.set_cons_zero, List.set_cons_succ]
                  refine wpAnyH_ready (rs := [9]) (by kernel_rfl) (by simp) ?_
                  refine AllReadyH.cons (by simp only [List.getElem?_toArray, List.getElem?_cons_succ, List.getElem?_cons_zero]; rfl) (fun K hK => ?_) AllReadyH.nil
                  rw [if_pos (by rfl)]
                  refine wp_store_mid 83 (.tmp 14) (.tmp 65) (by rfl) gn 0 #[.slice (some ⟨gq, 0, none⟩) r1.1.length r1.1.length, .int .i64 r1.2] (by rfl) (by rfl) (there_mid (o := 0) HN.out (by simp)) (by kernel_rfl) (by simp [Value.oneCell']) ?_
                  have hkj := KeepJ.set2 HN.out (by decide) (.slice (some ⟨gq, 0, none⟩) r1.1.length r1.1.length) (.int .i64 r1.2)
                  have hlo := blk_low2 (B := W.heap.size + 1 + 1) (x := .slice (some ⟨gq, 0, none⟩) r1.1.length r1.1.length) (y := .int .i64 r1.2) HN.out hgn
                  replace HS := Lib.hid (HS.out.low HLT.out hlo hkj)
                  replace HQ := Lib.hid (HQ.out.keepJ hkj)
                  replace HN := Lib.hid (set2_blk (x := .slice (some ⟨gq, 0, none⟩) r1.1.length r1.1.length) (y := .int .i64 r1.2) HN.out)
                  replace HB := Lib.hid (far2 (x := .slice (some ⟨gq, 0, none⟩) r1.1.length r1.1.length) (y := .int .i64 r1.2) hgx HB.out)
                  replace HPL := Lib.hid (HPL.out.keepJ hkj)
                  clear hkj hlo
                  refine hK.out _ _ ⟨HS.out.env.xf, HS.out.kt⟩ (fun hH12 => ?_)
                  clear hK K
                  try simp only [List.setIfInBounds_toArray, List.set_cons_zero, List.set_cons_succ]
                  refine wpAnyH_done (by kernel_rfl) ?_ _
                  go_wp2_with fail
                  go_meet
                  exact ⟨gn, _, _, rfl, hgn, hgx, HS, HB, HPL, HN, HQ⟩
                exact AllReadyH.nil
              refine AllReadyH.cons (by simp only [List.getElem?_toArray, List.getElem?_cons_succ, List.getElem?_cons_zero]; rfl) (fun K hK => ?_) ?_
              · go_simp
                have hb : Below V0.heap.size V0 (V0.alloc (.cells #[.slice none 0 0, .int .i64 0] 83)) := (Below.refl _ _).alloc (Nat.le_refl _) _
                have HN := Lib.hid (Blk.new V0 83 #[.slice none 0 0, .int .i64 0])
                have hgn : W.heap.size + 1 < V0.heap.size := HS.out.kr.lt
                have hgx : g10 ≠ V0.heap.size := Nat.ne_of_lt HB.out.lt
                replace HS := Lib.hid (HS.out.call hb)
                replace HB := Lib.hid (HB.out.below hb HB.out.lt)
                replace HPL := Lib.hid (HPL.out.below hb)
                clear hb
                generalize World.alloc V0 _ = Y0 at *
                generalize V0.heap.size = gn at *
                refine hK.out _ _ ⟨HS.out.env.xf, HS.out.kt⟩ (fun hH13 => ?_)
                clear hK K
                try simp only [List.setIfInBounds_toArray, List.set_cons_zero, List.set_cons_succ]
                refine wpAnyH_ready (rs := [3]) (by kernel_rfl) (by simp) ?_
                refine AllReadyH.cons (by simp only [List.getElem?_toArray, List.getElem?_cons_succ, List.getElem?_cons_zero]; rfl) (fun K hK => ?_) AllReadyH.nil
                go_simp
                refine (HNX.out _).mono ?_
                rintro e X6 ⟨rfl, hb⟩
                replace HS := Lib.hid (HS.out.call hb)
                replace HB := Lib.hid (HB.out.below hb HB.out.lt)
                replace HPL := Lib.hid (HPL.out.below hb)
                replace HN := Lib.hid (HN.out.below hb HN.out.lt)
                clear hb
                refine hK.out _ _ ⟨HS.out.env.xf, HS.out.kt⟩ (fun hH14 => ?_)
                clear hK K
                try simp only [List.setIfInBounds_toArray, List.set_cons_zero, List.set_cons_succ]
                refine wpAnyH_ready (rs := [4]) (by kernel_rfl) (by simp) ?_
                refine AllReadyH.cons (by simp only [List.getElem?_toArray, List.getElem?_cons_succ, List.getElem?_cons_zero]; rfl) (fun K hK => ?_) AllReadyH.nil
                go_simp
                obtain ⟨es, ck, hmp⟩ := HS.out.env.known.isMap
                refine (HBT.out _ _ HS.out.env (by omega)).mono ?_
                rintro e X7 ⟨A9, c9, rfl, hp9, hgg, hm9⟩
                replace HB := Lib.hid (HB.out.grJ hgg hmp)
                replace HPL := Lib.hid (HPL.out.keepJ (KeepJ.grown hgg hmp))
                replace HN := Lib.hid (HN.out.grJ hgg hmp)
                replace HS := Lib.hid (HS.out.gr hgg hm9)
                have HP := Lib.hid hp9
                clear hp9 hgg hm9 hmp
                refine hK.out _ _ ⟨HS.out.env.xf, HS.out.kt⟩ (fun hH15 => ?_)
                clear hK K
                try simp only [List.setIfInBounds_toArray, List.set_cons_zero, List.set_cons_succ]
                refine wpAnyH_ready (rs := [7]) (by kernel_rfl) (by simp) ?_
                refine AllReadyH.cons (by simp only [List.getElem?_toArray, List.getElem?_cons_succ, List.getElem?_cons_zero]; rfl) (fun K hK => ?_) AllReadyH.nil
                go_simp
                refine (HBF.out _ _ _ HP.out).mono ?_
                rintro e X8 ⟨gq, rfl, hq, hb⟩
                replace HS := Lib.hid (HS.out.call hb)
                replace HB := Lib.hid (HB.out.below hb HB.out.lt)
                replace HPL := Lib.hid (HPL.out.below hb)
                replace HN := Lib.hid (HN.out.below hb HN.out.lt)
                have HQ := Lib.hid hq
                clear hb hq HP
                refine hK.out _ _ ⟨HS.out.env.xf, HS.out.kt⟩ (fun hH16 => ?_)
                clear hK K
                try simp only [List.setIfInBounds_toArray, List.set_cons_zero, List.set_cons_succ]
                refine wpAnyH_ready (rs := [9]) (by kernel_rfl) (by simp) ?_
                refine AllReadyH.cons (by simp only [List.getElem?_toArray, List.getElem?_cons_succ, List.getElem?_cons_zero]; rfl) (fun K hK => ?_) AllReadyH.nil
                rw [if_pos (by rfl)]
                refine wp_store_mid 83 (.tmp 14) (.tmp 65) (by rfl) gn 0 #[.slice (some ⟨gq, 0, none⟩) r1.1.length r1.1.length, .int .i64 r1.2] (by rfl) (by rfl) (there_mid (o := 0) HN.out (by simp)) (by kernel_rfl) (by simp [Value.oneCell']) ?_
                have hkj := KeepJ.set2 HN.out (by decide) (.slice (some ⟨gq, 0, none⟩) r1.1.length r1.1.length) (.int .i64 r1.2)
                have hlo := blk_low2 (B := W.heap.size + 1 + 1) (x := .slice (some ⟨gq, 0, none⟩) r1.1.length r1.1.length) (y := .int .i64 r1.2) HN.out hgn
                replace HS := Lib.hid (HS.out.low HLT.out hlo hkj)
                replace HQ := Lib.hid (HQ.out.keepJ hkj)
                replace HN := Lib.hid (set2_blk (x := .slice (some ⟨gq, 0, none⟩) r1.1.length r1.1.length) (y := .int .i64 r1.2) HN.out)
                replace HB := Lib.hid (far2 (x := .slice (some ⟨gq, 0, none⟩) r1.1.length r1.1.length) (y := .int .i64 r1.2) hgx HB.out)
                replace HPL := Lib.hid (HPL.out.keepJ hkj)
                clear hkj hlo
                refine hK.out _ _ ⟨HS.out.env.xf, HS.out.kt⟩ (fun hH17 => ?_)
                clear hK K
                try simp only [List.setIfInBounds_toArray, List.set_cons_zero, List.set_cons_succ]
                refine wpAnyH_done (by kernel_rfl) ?_ _
                go_wp2_with fail
                go_meet
                exact ⟨gn, _, _, rfl, hgn, hgx, HS, HB, HPL, HN, HQ⟩
              exact AllReadyH.nil
            case rest => as_aux_lemma =>
              obtain ⟨g14, A2, c2, rfl, hg14, hg10, HS, HB, HPL, HB2, HPL2⟩ := hcut
              have z1 := HB2.out.cell 1
              have z0 := HB2.out.cell 0
              have b1 := HB.out.cell 1
              by_cases hle : r.2 ≤ r1.2
              · rw [if_pos hle] at HSC3
                have HT := Lib.hid (there_mid (o := 0) HB.out (by simp))
                have hkj := KeepJ.set2 HB.out (by decide) (.slice A2 r1.1.length c2) (.int .i64 r1.2)
                have hlo := blk_low2 (B := W.heap.size + 1 + 1) (x := .slice A2 r1.1.length c2) (y := .int .i64 r1.2) HB.out hge
                have HS3 := Lib.hid (HS.out.low HLT.out hlo hkj)
                have HB3 : Hid (Blk _ g10 83 #[.slice A2 r1.1.length c2, .int .i64 r1.2]) := Lib.hid (set2_blk (x := .slice A2 r1.1.length c2) (y := .int .i64 r1.2) HB.out)
                have HPL3 := Lib.hid (HPL2.out.keepJ hkj)
                clear hkj hlo HPL HPL2
                go_wp2_with (refine wpList_store_mid (by rfl) 83 (.tmp 10) (.tmp 71) (by rfl) g10 0 #[.slice A2 r1.1.length c2, .int .i64 r1.2] (by rfl) (by rfl) HT.out (by kernel_rfl) (by simp [Value.oneCell']) ?_)
                go_roundw
                case rel => exact ⟨(q : Int) - 1, rfl, by omega, by omega, r1, A2, c2, nn + cnt5 k, HC3, HSC3, HPK, HS3, HB3, HPL3⟩
                case measure => simp [intOf] <;> omega
              · rw [if_neg hle] at HSC3
                go_wp2_with fail
                go_roundw
                case rel => exact ⟨(q : Int) - 1, rfl, by omega, by omega, r, A, c, nn + cnt5 k, HC3, HSC3, HPO, HS, HB, HPL⟩
                case measure => simp [intOf] <;> omega
      · obtain rfl : z = -1 := by omega
        have HRR : Hid (r = pairT g L U (k + 1) t) := Lib.hid (HSC.out.trans HIR.out)
        have HNB : Hid (nn + 1 ≤ n + cnt5 (k + 1)) := Lib.hid (by have h9 := HC.out; show _ ≤ n + (1 + 8 * cnt5 k); omega)
        have hnn : nn < 1000000 := by have := HNB.out; have e : cnt5 (k + 1) = 1 + 8 * cnt5 k := rfl; omega
        obtain ⟨W', hst, hkm, hgr, hsz⟩ := HS.out.env.known.store (s := i) (t := (t : Int)) (by unfold In64; omega) (by unfold In64; omega) hnn (.agg #[.slice A r.1.length c, .int .i64 r.2]) (by rw [HI.out]; exact GoodP.mk ⟨A, c, by rw [← HRR.out], by rw [← HRR.out]; exact HPL.out⟩)
        obtain ⟨es, ck, hmp⟩ := HS.out.env.known.isMap
        have HS2 := Lib.hid (HS.out.gr hgr (hkm.imp fun _ _ _ h => h.keep (KeepJ.grown hgr hmp)))
        have HB2 := Lib.hid (HB.out.grJ hgr hmp)
        have HP2 := Lib.hid (HPL.out.keepJ (KeepJ.grown hgr hmp))
        have x0 := HS.out.kt.cell 0
        have x1 := HS.out.kt.cell 1
        have y0 := HS.out.env.xk.cell 0
        have b0 := HB.out.cell 0
        have b1 := HB.out.cell 1
        clear hkm hgr hsz hmp HSC HC hz
        go_upto_region 16 with fail
        clear x0 x1 y0 b0 b1 hst HS HB HPL
        have b0 := HB2.out.cell 0
        have b1 := HB2.out.cell 1
        have HT := Lib.hid (there_mid (o := 0) HS2.out.kr (by simp))
        have HX := Lib.hid (ret_store (n := n) (r := r) (k := k + 1) HS2.out.hg (HS2.out.env.known.more HNB.out) HS2.out.kr HLT.out.2.2.2.2.2.1 HP2.out)
        have HK := Lib.hid (set2_blk (x := .slice A r.1.length c) (y := .int .i64 r.2) HS2.out.kr)
        have HRX : Hid (R = r) := Lib.hid (HIR.out.trans HRR.out.symm)
        go_wp2_with (refine wpList_store_mid (by rfl) 83 (.tmp 7) (.tmp 75) (by rfl) (W.heap.size + 1) 0 #[.slice A r.1.length c, .int .i64 r.2] (by rfl) (by rfl) HT.out (by kernel_rfl) (by simp [Value.oneCell']) ?_)
        exact bodyPost_ret (results_blk rfl _ rfl HK.out (by kernel_rfl) (by kernel_rfl)) rfl (by rw [HRX.out]; exact HX.out)
end Go.Proofs.Ytfpfafijockfnaa