/- The law DieTrue: the walk. -/
import Derived.Test.YtkokacdaiklfjaaPt
namespace Go.Proofs.Ytkokacdaiklfjaa
open Go.RowKit Go.Shelf

def U16At (w : World) (b off : Nat) (l : List Int) : Prop := ∀ i (h : i < l.length), w.cell? ⟨b, off + i, none⟩ = some (.int .u16 l[i])
def U16Sl (w : World) (B : Nat) (A : Option Addr) (l : List Int) : Prop := l ≠ [] → ∃ b off, A = some ⟨b, off, none⟩ ∧ b < B ∧ U16At w b off l
theorem U16At.below {w w' : World} {b off B : Nat} {l : List Int} (h : U16At w b off l) (hb : Below B w w') (hlt : b < B) : U16At w' b off l := fun i hi => (hb.cell (p := ⟨b, _, none⟩) hlt).trans (h i hi)
theorem U16Sl.on {w w' : World} {B : Nat} {A : Option Addr} {l : List Int} (h : U16Sl w B A l) (hb : Below w.heap.size w w') (hB : B ≤ w.heap.size) : U16Sl w' w'.heap.size A l := fun hne => by
  obtain ⟨b, off, e, hlt, hs⟩ := h hne
  exact ⟨b, off, e, Nat.lt_of_lt_of_le hlt (Nat.le_trans hB hb.size), hs.below (hb.mono hB) hlt⟩
structure LtS (w : World) (p : Press) (A T Y : Option Addr) (c : Nat) (l : List Draw) (ys : List Int) (W : World) : Prop where
  below : Below w.heap.size w W
  bq : Blk W w.heap.size 26 #[.slice A p.dies.length c, .int .i64 p.shrink.lo, .int .i64 p.shrink.hi, .int .i64 p.change]
  da : DieSl W W.heap.size A p.dies
  dr : DrawSl W W.heap.size T l
  by_ : U16Sl W W.heap.size Y ys
theorem LtS.call {w : World} {p : Press} {A T Y : Option Addr} {c : Nat} {l : List Draw} {ys : List Int} {W W' : World} (h : LtS w p A T Y c l ys W) (hb : Below W.heap.size W W') : LtS w p A T Y c l ys W' :=
  ⟨h.below.trans (hb.mono h.below.size), h.bq.below hb h.bq.lt, h.da.on hb (Nat.le_refl _), h.dr.on hb (Nat.le_refl _), h.by_.on hb (Nat.le_refl _)⟩
theorem goes_in {p : Press} (h4 : p.dies.length ≤ 4) : ∀ (l : List Draw) (s : Sta) (plan : List Int), Goes p l s plan → ∀ d ∈ plan, 0 ≤ d ∧ d ≤ 3
  | [], _, [], _ => fun d hd => by simp at hd
  | [], _, _ :: _, h => h.elim
  | _ :: _, _, [], h => h.elim
  | x :: l, s, d :: plan, ⟨n, hd, h1, _, h3⟩ => fun e he => by
    rcases List.mem_cons.1 he with rfl | he
    · omega
    · exact goes_in h4 l _ plan h3 e he
theorem fol_end {p : Press} {pp : List Int} {k : Nat} {u : List Int} {fr : FoR} (h : fol p pp [] k u = fr) (he : fr.err = 0) : fr.used = u := by
  subst h
  unfold fol at he ⊢
  by_cases h1 : k < pp.length
  · rw [if_pos h1] at he; cases he
  · rw [if_neg h1]
theorem fol_step {p : Press} {pp : List Int} {l : List Draw} {k : Nat} {u : List Int} {fr : FoR} (hk : k < l.length) (h : fol p pp (l.drop k) k u = fr) (he : fr.err = 0) :
    k < pp.length ∧ ∃ kd : Nat, pp.getD k 0 = (kd : Int) ∧ kd < p.dies.length ∧ doesB (p.die kd) p.shrink l[k] (u.getD kd 0) = true ∧ fol p pp (l.drop (k + 1)) (k + 1) (u.set kd (u.getD kd 0 + l[k].len)) = fr := by
  subst h
  rw [List.drop_eq_getElem_cons hk] at he ⊢
  have e : fol p pp (l[k] :: l.drop (k + 1)) k u = if pp.length ≤ k then ⟨[], k, 4⟩
    else if fromB (pp.getD k 0) 0 ((p.dies.length : Int) - 1) = false then ⟨[], k, 2⟩
    else if doesB (p.dieI (pp.getD k 0)) p.shrink l[k] (u.getD (pp.getD k 0).toNat 0) = false then ⟨[], k, 11⟩
    else fol p pp (l.drop (k + 1)) (k + 1) (u.set (pp.getD k 0).toNat (u.getD (pp.getD k 0).toNat 0 + l[k].len)) := rfl
  rw [e] at he ⊢
  clear e
  by_cases h1 : pp.length ≤ k
  · rw [if_pos h1] at he; cases he
  · rw [if_neg h1] at he ⊢
    by_cases h2 : fromB (pp.getD k 0) 0 ((p.dies.length : Int) - 1) = false
    · rw [if_pos h2] at he; cases he
    · rw [if_neg h2] at he ⊢
      have h2' : fromB (pp.getD k 0) 0 ((p.dies.length : Int) - 1) = true := by simpa using h2
      rw [fromB_iff] at h2'
      obtain ⟨kd, hkd⟩ := Int.eq_ofNat_of_zero_le h2'.1
      rw [hkd, die_I, Int.toNat_natCast] at he ⊢
      by_cases h3 : doesB (p.die kd) p.shrink l[k] (u.getD kd 0) = false
      · rw [if_pos h3] at he; cases he
      · rw [if_neg h3]
        exact ⟨by omega, kd, rfl, by omega, by simpa using h3, rfl⟩
theorem errOf_all {p : Press} {o : Bool} (h : pressOk p = true) (ho : o = true) : errOf p [] o = 0 := by
  subst ho
  exact errOf_ok h rfl
theorem six {W V : World} {a b c d e f : Addr} {v1 v2 v3 v4 v5 v6 : Value} (h : W.cell? a = some v1 ∧ W.cell? b = some v2 ∧ W.cell? c = some v3 ∧ W.cell? d = some v4 ∧ W.cell? e = some v5 ∧ W.cell? f = some v6) (hb : Below W.heap.size W V) :
    V.cell? a = some v1 ∧ V.cell? b = some v2 ∧ V.cell? c = some v3 ∧ V.cell? d = some v4 ∧ V.cell? e = some v5 ∧ V.cell? f = some v6 :=
  ⟨cell_call h.1 hb, cell_call h.2.1 hb, cell_call h.2.2.1 hb, cell_call h.2.2.2.1 hb, cell_call h.2.2.2.2.1 hb, cell_call h.2.2.2.2.2 hb⟩
/-- What is known of the best plan. -/
theorem true_plain {p : Press} {l : List Draw} (h1 : pressOk p = true) (h2 : drawsOk l = true) :
    (planE p l ≠ 0 → planE p l = 4 ∧ planP p l = [] ∧ planC p l = 0) ∧
    (planE p l = 0 → (fol p (planP p l) l 0 (List.replicate p.dies.length 0)).err = 0 ∧ (fol p (planP p l) l 0 (List.replicate p.dies.length 0)).idx = l.length ∧ (fol p (planP p l) l 0 (List.replicate p.dies.length 0)).used.length = p.dies.length ∧ (planP p l).length = l.length ∧ planC p l = costG p.change none (planP p l) ∧ ∀ d ∈ planP p l, 0 ≤ d ∧ d ≤ 3) := by
  obtain ⟨⟨n1, n4⟩, -⟩ := press_parts h1
  have he : errOf p l true = 0 := errOf_ok h1 h2
  have hE : planE p l = if (bestOf p l s0).good = true then 0 else 4 := by unfold planE; rw [if_pos he]
  rw [hE]
  by_cases g : (bestOf p l s0).good = true
  · rw [if_pos g]
    have hP : planP p l = (bestOf p l s0).plan := by unfold planP; rw [if_pos ⟨he, g⟩]
    have hC : planC p l = (bestOf p l s0).cost := by unfold planC; rw [if_pos ⟨he, g⟩]
    obtain ⟨hG, hcost, hlen⟩ := best_good p l s0 g
    refine ⟨fun h => absurd rfl h, fun _ => ?_⟩
    rw [hP, hC]
    obtain ⟨a, b, d⟩ := (fol_goes n4 (bestOf p l s0).plan l 0 _ s0 (Alike.start _) (Nat.zero_le _)).1 (by rw [List.drop_zero]; exact hG)
    refine ⟨a, by omega, by rw [d]; simp, hlen, by rw [← costS_none p.change l _ hG, hcost], goes_in n4 l s0 _ hG⟩
  · rw [if_neg g]
    refine ⟨fun _ => ⟨rfl, ?_, ?_⟩, fun h => by cases h⟩
    · unfold planP; rw [if_neg (fun x => g x.2)]
    · unfold planC; rw [if_neg (fun x => g x.2)]
set_option maxRecDepth 100000 in
set_option maxHeartbeats 4000000 in
theorem true_any (w : World) (A T Y : Option Addr) (c ct cy : Nat) (p : Press) (l : List Draw) (ys : List Int) (hp : p.dies.length ≤ 9223372036854775807) (hl : l.length ≤ 9223372036854775807) (hy : ys.length ≤ 9223372036854775807) (hA : DieSl w w.heap.size A p.dies) (hT : DrawSl w w.heap.size T l) (hY : U16Sl w w.heap.size Y ys) (hct : l.length ≤ ct) (hyb : ∀ y ∈ ys, 0 ≤ y ∧ y ≤ 65535) :
    Calls Try.prog 5 #[.agg #[.slice A p.dies.length c, .int .i64 p.shrink.lo, .int .i64 p.shrink.hi, .int .i64 p.change], .slice T l.length ct, .slice Y ys.length cy] w (Ret (.bool true) w) := by
  have hb0 : Below w.heap.size w (w.alloc (.cells #[.slice A p.dies.length c, .int .i64 p.shrink.lo, .int .i64 p.shrink.hi, .int .i64 p.change] 26)) := (Below.refl _ _).alloc (Nat.le_refl _) _
  have HS := Lib.hid (⟨hb0, Blk.new _ _ _, hA.on hb0 (Nat.le_refl _), hT.on hb0 (Nat.le_refl _), hY.on hb0 (Nat.le_refl _)⟩ : LtS w p A T Y c l ys (w.alloc (.cells #[.slice A p.dies.length c, .int .i64 p.shrink.lo, .int .i64 p.shrink.hi, .int .i64 p.change] 26)))
  have HLE := Lib.hid (And.intro hp (And.intro hl hy))
  have HCT := Lib.hid (And.intro hct hyb)
  have hy0 : (0 : Int) ≤ ys.length := by omega
  have hy' : (ys.length : Int) ≤ 9223372036854775807 := by omega
  have hl0 : (0 : Int) ≤ l.length := by omega
  have hl' : (l.length : Int) ≤ 9223372036854775807 := by omega
  have HPR : Hid (∀ V, LtS w p A T Y c l ys V → Calls Try.prog 21 #[.agg #[.slice A p.dies.length c, .int .i64 p.shrink.lo, .int .i64 p.shrink.hi, .int .i64 p.change]] V (Ret (.bool (pressOk p)) V)) := Lib.hid fun V h => rpress_any V A c p hp h.da
  have HDR : Hid (∀ V, LtS w p A T Y c l ys V → Calls Try.prog 22 #[.slice T l.length ct] V (Ret (.bool (drawsOk l)) V)) := Lib.hid fun V h => rdraws_any V T ct l hl h.dr
  have HPN : Hid (∀ V, LtS w p A T Y c l ys V → Calls Try.prog 19 #[.agg #[.slice A p.dies.length c, .int .i64 p.shrink.lo, .int .i64 p.shrink.hi, .int .i64 p.change], .slice T l.length ct] V (RetPl (planP p l) (planC p l) (planE p l) V)) := Lib.hid fun V h => plan_any V A T c ct p l hp hl h.da h.dr hct
  obtain ⟨o1, ho1⟩ : ∃ x, pressOk p = x := ⟨_, rfl⟩
  obtain ⟨o2, ho2⟩ : ∃ x, drawsOk l = x := ⟨_, rfl⟩
  have HO := Lib.hid (And.intro ho1 ho2)
  rw [ho1] at HPR
  rw [ho2] at HDR
  clear hb0 hA hT hY hp hl hy ho1 ho2 hct hyb
  go_enter Try.func5, Try.ntmps5
  have hX := HS.out.bq
  have x0 := hX.cell 0
  have x1 := hX.cell 1
  have x2 := hX.cell 2
  have x3 := hX.cell 3
  clear hX
  go_wp2_with fail
  generalize World.alloc w _ = W at HS x0 x1 x2 x3 ⊢
  refine (large_any A T p.dies.length c l.length ct p.shrink.lo p.shrink.hi p.change 8 W HLE.out.1 HLE.out.2.1).mono ?_
  rintro e W1 ⟨rfl, hb⟩
  replace HS := Lib.hid (HS.out.call hb)
  clear hb x0 x1 x2 x3
  generalize decide (8 < (l.length : Int) ∧ l.length ≤ 8 ∨ 12 < l.length ∨ 8 < p.dies.length) = lg
  cases lg with
  | true =>
    go_wp2_with fail
    refine (awake_any _).mono ?_; rintro e w9 ⟨rfl, hb9⟩; have hB := (HS.out.call hb9).below; clear HS hb9; go_wp2_with fail; go_ret; exact ⟨rfl, hB⟩
  | false =>
    by_cases hyz : ys.length = 0
    · have hyi : ((ys.length : Int) == 0) = true := by rw [beq_iff_eq]; omega
      clear hyz
      go_wp2_with fail
      refine (awake_any _).mono ?_; rintro e w9 ⟨rfl, hb9⟩; have hB := (HS.out.call hb9).below; clear HS hb9; go_wp2_with fail; go_ret; exact ⟨rfl, hB⟩
    · have hyi : ((ys.length : Int) == 0) = false := by rw [beq_eq_false_iff_ne]; omega
      have HYZ := Lib.hid hyz
      clear hyz
      have x0 := HS.out.bq.cell 0; have x1 := HS.out.bq.cell 1; have x2 := HS.out.bq.cell 2; have x3 := HS.out.bq.cell 3
      go_wp2_with fail
      refine (HPR.out _ HS.out).mono ?_
      rintro e W2 ⟨rfl, hb⟩
      replace HS := Lib.hid (HS.out.call hb)
      clear hb x0 x1 x2 x3
      cases o1 with
      | false =>
        go_wp2_with fail
        refine (awake_any _).mono ?_; rintro e w9 ⟨rfl, hb9⟩; have hB := (HS.out.call hb9).below; clear HS hb9; go_wp2_with fail; go_ret; exact ⟨rfl, hB⟩
      | true =>
        go_wp2_with fail
        refine (HDR.out _ HS.out).mono ?_
        rintro e W3 ⟨rfl, hb⟩
        replace HS := Lib.hid (HS.out.call hb)
        clear hb
        cases o2 with
        | false =>
          go_wp2_with fail
          refine (awake_any _).mono ?_; rintro e w9 ⟨rfl, hb9⟩; have hB := (HS.out.call hb9).below; clear HS hb9; go_wp2_with fail; go_ret; exact ⟨rfl, hB⟩
        | true =>
          have x0 := HS.out.bq.cell 0; have x1 := HS.out.bq.cell 1; have x2 := HS.out.bq.cell 2; have x3 := HS.out.bq.cell 3
          go_wp2_with fail
          refine (HPN.out _ HS.out).mono ?_
          rintro e W4 ⟨A4, c4, rfl, hp4, hb⟩
          replace HS := Lib.hid (HS.out.call hb)
          have P4 := Lib.hid (plan_sl hp4)
          clear hb hp4 x0 x1 x2 x3 HPN HPR HDR
          have HTP := Lib.hid (true_plain HO.out.1 HO.out.2)
          obtain ⟨⟨n1, n4⟩, hdi, hsh, ch0, ch1⟩ := press_parts HO.out.1
          have HDI := Lib.hid hdi
          have HSH := Lib.hid hsh
          have hl8 := (draws_parts HO.out.2).1
          clear hdi hsh
          by_cases hpe : planE p l = 0
          · obtain ⟨f1, f2, f3, f4, f5, f6⟩ := HTP.out.2 hpe
            have HPC := Lib.hid f5
            have HP3 := Lib.hid f6
            have hfr : followR p l (planP p l) = fol p (planP p l) l 0 (List.replicate p.dies.length 0) := by unfold followR; rw [if_pos (errOf_ok HO.out.1 HO.out.2)]
            have HFO : Hid (∀ V, LtS w p A T Y c l ys V → IntSl V V.heap.size A4 (planP p l) → Calls Try.prog 16 #[.agg #[.slice A p.dies.length c, .int .i64 p.shrink.lo, .int .i64 p.shrink.hi, .int .i64 p.change], .slice T l.length ct, .slice A4 (planP p l).length c4] V (RetFo (fol p (planP p l) l 0 (List.replicate p.dies.length 0)) V)) := Lib.hid fun V h hi => by
              have h9 := follow_any V A T A4 c ct c4 p l (planP p l) HLE.out.1 HLE.out.2.1 (by omega) h.da h.dr hi
              rw [hfr] at h9
              exact h9
            have HCO : Hid (∀ V, IntSl V V.heap.size A4 (planP p l) → Calls Try.prog 23 #[.agg #[.slice A p.dies.length c, .int .i64 p.shrink.lo, .int .i64 p.shrink.hi, .int .i64 p.change], .slice A4 (planP p l).length c4] V (Ret (.int .i64 (planC p l)) V)) := Lib.hid fun V hi => by
              rw [HPC.out]
              exact rcost_any V A A4 c c4 p (planP p l) ch0 ch1 (by omega) HP3.out hi
            rw [f4] at HFO HCO ⊢
            have HF4 := Lib.hid f4
            have HFR := Lib.hid (And.intro f1 (And.intro f2 f3))
            rw [hpe]
            clear f4 f5 f6 hfr HTP HPC hpe
            generalize planC p l = pc at *
            generalize planP p l = pp at *
            generalize hfr : fol p pp l 0 (List.replicate p.dies.length 0) = fr at *
            have HFD := Lib.hid hfr
            have hfe := f1
            have hfi := f2
            have hfu := f3
            clear hfr f1 f2 f3
            have x0 := HS.out.bq.cell 0; have x1 := HS.out.bq.cell 1; have x2 := HS.out.bq.cell 2; have x3 := HS.out.bq.cell 3
            go_wp2_with fail
            refine (HFO.out _ HS.out P4.out).mono ?_
            rintro e W5 ⟨A5, c5, rfl, hp5, hb⟩
            replace HS := Lib.hid (HS.out.call hb)
            replace P4 := Lib.hid (P4.out.on hb (Nat.le_refl _))
            have P5 := Lib.hid (plan_sl hp5)
            clear hb hp5 x0 x1 x2 x3 HFO
            have x0 := HS.out.bq.cell 0; have x1 := HS.out.bq.cell 1; have x2 := HS.out.bq.cell 2; have x3 := HS.out.bq.cell 3
            go_wp2_with fail
            refine (HCO.out _ P4.out).mono ?_
            rintro e W6 ⟨rfl, hb⟩
            replace HS := Lib.hid (HS.out.call hb)
            replace P4 := Lib.hid (P4.out.on hb (Nat.le_refl _))
            replace P5 := Lib.hid (P5.out.on hb (Nat.le_refl _))
            clear hb x0 x1 x2 x3 HCO
            have hyl : 0 < ys.length := Nat.pos_of_ne_zero HYZ.out
            have hyI : (0 : Int) < ys.length := by omega
            have hnz : ys.length ≠ 0 := HYZ.out
            obtain ⟨bY, oY, rfl, hbY, hatY⟩ := HS.out.by_ (by intro e; rw [e] at hyl; simp at hyl)
            have y0 := hatY 0 hyl
            have hyb0 := HCT.out.2 ys[0] (List.getElem_mem hyl)
            rw [Nat.add_zero] at y0
            have HPK : Hid (∀ V, Calls Try.prog 24 #[.agg #[.int .i64 p.shrink.lo, .int .i64 p.shrink.hi], .int .u16 ys[0]] V (Ret (.int .i64 (pickV p.shrink.lo p.shrink.hi ys[0])) V)) := Lib.hid fun V => pick_any _ _ _ V HSH.out.1 HSH.out.2.1 (by have := HSH.out.2.2; omega) hyb0.1 hyb0.2
            have HSB := Lib.hid (pickV_bd (y := ys[0]) HSH.out.2.1)
            generalize ys[0] = v0 at *
            generalize pickV p.shrink.lo p.shrink.hi v0 = shr at *
            have hS0 : W6.cell? ⟨w.heap.size, 1, none⟩ = some (.int .i64 p.shrink.lo) ∧ W6.cell? ⟨w.heap.size, 2, none⟩ = some (.int .i64 p.shrink.hi) ∧ W6.cell? ⟨bY, oY, none⟩ = some (.int .u16 v0) := ⟨HS.out.bq.cell 1, HS.out.bq.cell 2, y0⟩
            clear y0 hatY
            go_wp2_with fail
            go_region_held3 (fun W => W.cell? ⟨w.heap.size, 1, none⟩ = some (.int .i64 p.shrink.lo) ∧ W.cell? ⟨w.heap.size, 2, none⟩ = some (.int .i64 p.shrink.hi) ∧ W.cell? ⟨bY, oY, none⟩ = some (.int .u16 v0))
              (first | exact hS0 | exact hS7 | assumption | fail "keep")
              (first
                | (go_at_call 24; (with_reducible refine (HPK.out _).mono ?_); rintro e W7 ⟨rfl, hb⟩; have hb8 := Below.trans (Below.refl _ W6).drew hb; have hS7 := And.intro (cell_call hS0.1 hb8) (And.intro (cell_call hS0.2.1 hb8) (cell_call hS0.2.2 hb8)); have HS7 := Lib.hid (HS.out.call hb8); have P47 := Lib.hid (P4.out.on hb8 (Nat.le_refl _)); have P57 := Lib.hid (P5.out.on hb8 (Nat.le_refl _)); clear hb hb8)
                | fail "no arm")
            clear hS0 hS7 HPK HS P4 P5
            have x0 := HS7.out.bq.cell 0
            have hmk := run_make_row' (P := Try.prog) 28 3 (.int .i64 0) 8 (by kernel_rfl) (by kernel_rfl) rfl .i64 .i64 p.dies.length (by omega) (by omega)
            rw [made_ints] at hmk
            have hn0 : (0 : Int) ≤ p.dies.length := by omega
            have hn4 : (p.dies.length : Int) ≤ 4 := by omega
            go_wp2_with fail
            have hba0 : Below W7.heap.size W7 (W7.alloc (.cells (intsA (List.replicate p.dies.length 0)) 3)) := (Below.refl _ _).alloc (Nat.le_refl _) _
            have HF0 : Hid (FoS p A c W7.heap.size (List.replicate p.dies.length 0) w (W7.alloc (.cells (intsA (List.replicate p.dies.length 0)) 3))) := Lib.hid ⟨HS7.out.below.trans (hba0.mono HS7.out.below.size), HS7.out.bq.alloc _, Blk.new _ _ _, HS7.out.bq.lt⟩
            have HBa := Lib.hid hba0
            clear x0 hmk hba0
            generalize World.alloc W7 _ = W8 at HF0 HBa ⊢
            obtain ⟨g, hg⟩ : ∃ g, W7.heap.size = g := ⟨_, rfl⟩
            rw [hg] at HF0 HBa ⊢
            have HG := Lib.hid hg
            clear hg
            have hl8' : (l.length : Int) ≤ 8 := by omega
            go_loopw [15] (fun i wr => ∃ (k : Nat) (u : List Int), k ≤ l.length ∧ i = .int .i64 k ∧ Hid (FoS p A c g u w wr) ∧ Hid (UsedOk p.dies.length k u) ∧ Hid (fol p pp (l.drop k) k u = fr) ∧ Hid (Below g W7 wr)) (fun i _ => l.length - (intOf i).toNat)
            case atStart => exact ⟨0, _, by omega, rfl, HF0, Lib.hid (UsedOk.start _), Lib.hid HFD.out, HBa⟩
            case round =>
              clear HF0 HBa
              obtain ⟨k, u, hk, rfl, HF, HU, HR, HB⟩ := hrel
              have HSR := Lib.hid (HS7.out.call (by rw [HG.out]; exact HB.out))
              have P4R := Lib.hid (P47.out.on (by rw [HG.out]; exact HB.out) (Nat.le_refl _))
              have P5R := Lib.hid (P57.out.on (by rw [HG.out]; exact HB.out) (Nat.le_refl _))
              by_cases hlt : k < l.length
              · obtain ⟨hkp, kd, hkd, hkn, hdo, hnx⟩ := fol_step hlt HR.out HFR.out.1
                obtain ⟨bT, oT, rfl, hbT, hatT⟩ := HSR.out.dr (by intro e; rw [e] at hlt; simp at hlt)
                obtain ⟨t0, t1, t2⟩ := hatT k hlt
                simp only [drawF] at t0 t1 t2
                obtain ⟨bP, oP, rfl, hbP, hatP⟩ := P4R.out (by intro e; rw [e] at hkp; simp at hkp)
                have q0 := hatP k hkp
                have hgd : pp.getD k 0 = pp[k] := by simp [List.getD_eq_getElem?_getD, hkp]
                rw [← hgd, hkd] at q0
                obtain ⟨bA, oA, rfl, hbA, hatA⟩ := HSR.out.da (by intro e; rw [e] at hkn; simp at hkn)
                obtain ⟨a0, a1, a2⟩ := hatA kd hkn
                simp only [dieF] at a0 a1 a2
                clear hatT hatP hatA hgd hkd
                have hx := (draws_parts HO.out.2).2 l[k] (List.getElem_mem hlt)
                have hdk := HDI.out p.dies[kd] (List.getElem_mem hkn)
                rw [Press.die_eq p hkn] at hdo
                have hub := HU.out.2 kd
                have hul : kd < u.length := by rw [HU.out.1]; exact hkn
                have z0 := HF.out.cell kd hul
                generalize l[k] = x at *
                obtain ⟨uv, huv⟩ : ∃ v, u.getD kd 0 = v := ⟨_, rfl⟩
                have HUV := Lib.hid huv
                rw [huv] at hub z0 hdo hnx
                clear huv
                have hj1 := Nat.mod_lt (kd + 1) hyl
                have hj2 := Nat.mod_lt (k + 2) hyl
                obtain ⟨bY2, oY2, hYe, hbY2, hatY2⟩ := HSR.out.by_ (by intro e; rw [e] at hyl; simp at hyl)
                simp only [Option.some.injEq, Addr.mk.injEq, and_true] at hYe
                obtain ⟨rfl, rfl⟩ := hYe
                have y1 := hatY2 ((kd + 1) % ys.length) hj1
                have y2 := hatY2 ((k + 2) % ys.length) hj2
                have hv1 := HCT.out.2 _ (List.getElem_mem hj1)
                have hv2 := HCT.out.2 _ (List.getElem_mem hj2)
                have r1 : ((kd : Int) + 1).tmod (ys.length : Int) = (((kd + 1) % ys.length : Nat) : Int) := rem_nat (kd + 1) ys.length
                have r2 : ((k : Int) + 2).tmod (ys.length : Int) = (((k + 2) % ys.length : Nat) : Int) := rem_nat (k + 2) ys.length
                clear hatY2
                generalize ys[(kd + 1) % ys.length] = v1 at *
                generalize ys[(k + 2) % ys.length] = v2 at *
                generalize (kd + 1) % ys.length = j1 at *
                generalize (k + 2) % ys.length = j2 at *
                have hE0 : ∀ z : Int, 0 ≤ z → z ≤ 8000 → wideE p kd z = 0 := fun z z0 z1 => by
                  unfold wideE
                  exact errOf_all HO.out.1 (by rw [Bool.and_eq_true, fromB_iff, fromB_iff]; omega)
                have hSp : ∀ z : Int, 0 ≤ z → z ≤ 8000 → wideS p kd z = ⟨thin p.dies[kd] p.shrink z / 1000, cdiv (thick p.dies[kd] p.shrink z) 1000⟩ := fun z z0 z1 => by
                  unfold wideS
                  rw [if_pos (hE0 z z0 z1)]
                  simp [Press.dieI, hkn]
                have HP1 : Hid (∀ V, Calls Try.prog 24 #[.agg #[.int .i64 p.dies[kd].wear.lo, .int .i64 p.dies[kd].wear.hi], .int .u16 v1] V (Ret (.int .i64 (pickV p.dies[kd].wear.lo p.dies[kd].wear.hi v1)) V)) := Lib.hid fun V => pick_any _ _ _ V hdk.2.2.1 hdk.2.2.2.1 (by have := hdk.2.2.2.2; omega) hv1.1 hv1.2
                have hwb := pickV_bd (y := v1) hdk.2.2.2.1
                generalize pickV p.dies[kd].wear.lo p.dies[kd].wear.hi v1 = wv at *
                have r3 : v2.tmod (x.len + 1) = v2 % (x.len + 1) := Int.tmod_eq_emod_of_nonneg hv2.1
                have hm0 := Int.emod_nonneg v2 (show x.len + 1 ≠ 0 by omega)
                have hm1 := Int.emod_lt_of_pos v2 (show (0 : Int) < x.len + 1 by omega)
                generalize v2 % (x.len + 1) = m2 at *
                have hTL := true_lead (at_ := uv + m2) (wear := wv) (shrink := shr) hdk HSH.out hdo hub.1 (by omega) (by omega) hwb.1 hwb.2 HSB.out.1 HSB.out.2
                have HWD : Hid (∀ V, LtS w p (some ⟨bA, oA, none⟩) (some ⟨bT, oT, none⟩) (some ⟨bY, oY, none⟩) c l ys V → Calls Try.prog 12 #[.agg #[.slice (some ⟨bA, oA, none⟩) p.dies.length c, .int .i64 p.shrink.lo, .int .i64 p.shrink.hi, .int .i64 p.change], .int .i64 (kd : Int), .int .i64 (uv + m2)] V (Ret (.tuple #[.agg #[.int .i64 (thin p.dies[kd] p.shrink (uv + m2) / 1000), .int .i64 (cdiv (thick p.dies[kd] p.shrink (uv + m2)) 1000)], .int .i64 0]) V)) := Lib.hid fun V h => by
                  have h9 := wide_any V (some ⟨bA, oA, none⟩) c p kd (uv + m2) HLE.out.1 h.da
                  rw [hE0 _ (by omega) (by omega), hSp _ (by omega) (by omega)] at h9
                  exact h9
                have hN : wrap64 (wrap64 (p.dies[kd].wide + wrap64 (wv * (uv + m2))) * (1000 - shr)) = nano p.dies[kd].wide wv shr (uv + m2) := nano_wrap hdk.1 hdk.2.1 (by have := hdk.2.2.1; omega) (by have := hdk.2.2.2.2; omega) (by have := HSB.out.1; have := HSH.out.1; omega) (by have := HSB.out.2; have := HSH.out.2.2; omega) (by omega) (by omega)
                have hws : wrap64 (1000 - shr) = 1000 - shr := wr64 (by have := HSB.out.2; have := HSH.out.2.2; omega) (by have := HSB.out.1; have := HSH.out.1; omega)
                have htb := thin_bd hdk HSH.out (u := uv + m2) (by omega) (by omega)
                have hkb := thick_bd hdk HSH.out (u := uv + m2) (by omega) (by omega)
                have hsl : 0 ≤ thin p.dies[kd] p.shrink (uv + m2) / 1000 ∧ thin p.dies[kd] p.shrink (uv + m2) / 1000 ≤ 1820000 := by omega
                have hsh : 0 ≤ cdiv (thick p.dies[kd] p.shrink (uv + m2)) 1000 ∧ cdiv (thick p.dies[kd] p.shrink (uv + m2)) 1000 ≤ 1820001 := by unfold cdiv; omega
                clear htb hkb hSp hE0
                generalize thin p.dies[kd] p.shrink (uv + m2) / 1000 = sl at *
                generalize cdiv (thick p.dies[kd] p.shrink (uv + m2)) 1000 = sh2 at *
                generalize nano p.dies[kd].wide wv shr (uv + m2) = N at *
                generalize p.dies[kd] = dk at *
                have hkl : (k : Int) < l.length := by omega
                have hk0 : (0 : Int) ≤ k := by omega
                have hkd0 : (0 : Int) ≤ kd := by omega
                have hkdn : (kd : Int) < p.dies.length := by omega
                have hj10 : (0 : Int) ≤ j1 := by omega
                have hj1l : (j1 : Int) < ys.length := by omega
                have hj20 : (0 : Int) ≤ j2 := by omega
                have hj2l : (j2 : Int) < ys.length := by omega
                have hw1 : IntKind.i64.wrap ((kd : Int) + 1) = (kd : Int) + 1 := IntWalk.i64_in _ ⟨by omega, by omega⟩
                have hw2 : IntKind.i64.wrap ((k : Int) + 2) = (k : Int) + 2 := IntWalk.i64_in _ ⟨by omega, by omega⟩
                have hwj1 : IntKind.i64.wrap (j1 : Int) = (j1 : Int) := IntWalk.i64_in _ ⟨by omega, by omega⟩
                have hwj2 : IntKind.i64.wrap (j2 : Int) = (j2 : Int) := IntWalk.i64_in _ ⟨by omega, by omega⟩
                have hw3 : IntKind.i64.wrap v2 = v2 := IntWalk.i64_in _ ⟨by omega, by omega⟩
                have hw4 : IntKind.i64.wrap (x.len + 1) = x.len + 1 := IntWalk.i64_in _ ⟨by omega, by omega⟩
                have hw5 : IntKind.i64.wrap m2 = m2 := IntWalk.i64_in _ ⟨by omega, by omega⟩
                have hw6 : IntKind.i64.wrap (uv + m2) = uv + m2 := IntWalk.i64_in _ ⟨by omega, by omega⟩
                have hnl : x.len + 1 ≠ 0 := by omega
                have HC6 := Lib.hid (And.intro t0 (And.intro t1 (And.intro t2 (And.intro a0 (And.intro y2 z0)))))
                have hS17 : wr.cell? ⟨w.heap.size, 0, none⟩ = some (.slice (some ⟨bA, oA, none⟩) p.dies.length c) ∧ wr.cell? ⟨bA, oA + kd * 3 + 1, none⟩ = some (.int .i64 dk.wear.lo) ∧ wr.cell? ⟨bA, oA + kd * 3 + 2, none⟩ = some (.int .i64 dk.wear.hi) ∧ wr.cell? ⟨bY, oY + j1, none⟩ = some (.int .u16 v1) := ⟨HF.out.bp.cell 0, a1, a2, y1⟩
                have x0 := HF.out.bp.cell 0
                clear t0 t1 t2 a0 a1 a2 y1 y2 z0
                go_wp2_with fail
                clear x0 q0
                go_region_held3 (fun W => W.cell? ⟨w.heap.size, 0, none⟩ = some (.slice (some ⟨bA, oA, none⟩) p.dies.length c) ∧ W.cell? ⟨bA, oA + kd * 3 + 1, none⟩ = some (.int .i64 dk.wear.lo) ∧ W.cell? ⟨bA, oA + kd * 3 + 2, none⟩ = some (.int .i64 dk.wear.hi) ∧ W.cell? ⟨bY, oY + j1, none⟩ = some (.int .u16 v1))
                  (first | exact hS17 | exact hS9 | assumption | fail "keep")
                  (first
                    | (go_at_call 24; (with_reducible refine (HP1.out _).mono ?_); rintro e W9 ⟨rfl, hb⟩; have hb8 := Below.trans (Below.refl _ wr).drew hb; have hS9 := And.intro (cell_call hS17.1 hb8) (And.intro (cell_call hS17.2.1 hb8) (And.intro (cell_call hS17.2.2.1 hb8) (cell_call hS17.2.2.2 hb8))); have HB8 := Lib.hid hb8; clear hb hb8)
                    | fail "no arm")
                clear hS17 hS9 HP1
                have HS9 := Lib.hid (HSR.out.call HB8.out)
                have HF9 := Lib.hid (HF.out.call HB8.out)
                replace HC6 := Lib.hid (six HC6.out HB8.out)
                have HB9 := Lib.hid (HB.out.trans (HB8.out.mono (Nat.le_of_lt HF.out.bu.lt)))
                clear HSR HF HB8 HB P4R P5R
                obtain ⟨t0, t1, t2, a0, y2, z0⟩ := HC6.out
                go_wp2_with fail
                go_quiet (fail)
                have hbn : Below W9.heap.size W9 (World.drewN W9 nq) := below_drewN (Below.refl _ _) nq
                have HSV := Lib.hid (HS9.out.call hbn)
                have HFV := Lib.hid (HF9.out.call hbn)
                replace HC6 := Lib.hid (six HC6.out hbn)
                have HBV := Lib.hid (HB9.out.trans (hbn.mono (Nat.le_of_lt HF9.out.bu.lt)))
                clear HS9 HF9 HB9 hbn t0 t1 t2 a0 y2 z0 r1 r2 r3
                generalize World.drewN W9 nq = V at HSV HFV HC6 HBV ⊢
                obtain ⟨t0, t1, t2, a0, y2, z0⟩ := HC6.out
                have x0 := HSV.out.bq.cell 0
                have x1 := HSV.out.bq.cell 1
                have x2 := HSV.out.bq.cell 2
                have x3 := HSV.out.bq.cell 3
                clear y2 z0 t0 t1 t2
                go_wp2_with fail
                refine (HWD.out _ HSV.out).mono ?_
                rintro e W10 ⟨rfl, hb⟩
                have HBA := Lib.hid (Below.trans hb (Below.mono ((Below.refl W10.heap.size W10).alloc (Nat.le_refl _) (.cells #[.int .i64 sl, .int .i64 sh2] 24)) hb.size))
                have HZ := Lib.hid (Blk.new W10 24 #[.int .i64 sl, .int .i64 sh2])
                clear hb x0 x1 x2 x3 a0 HWD
                obtain ⟨t0, t1, t2, a0, y2, z0⟩ := six HC6.out HBA.out
                have b0 := HZ.out.cell 0
                have b1 := HZ.out.cell 1
                have c1 : decide (N < 1000 * x.want.lo) = false := decide_eq_false (by omega)
                have c2 : decide (1000 * x.want.hi < N) = false := decide_eq_false (by omega)
                have c3 : decide (N < 1000 * sl) = false := decide_eq_false (by omega)
                have c4 : decide (1000 * sh2 < N) = false := decide_eq_false (by omega)
                have hw7 : IntKind.i64.wrap (1000 * x.want.lo) = 1000 * x.want.lo := IntWalk.i64_in _ ⟨by omega, by omega⟩
                have hw8 : IntKind.i64.wrap (1000 * x.want.hi) = 1000 * x.want.hi := IntWalk.i64_in _ ⟨by omega, by omega⟩
                have hw9 : IntKind.i64.wrap (1000 * sl) = 1000 * sl := IntWalk.i64_in _ ⟨by omega, by omega⟩
                have hw10 : IntKind.i64.wrap (1000 * sh2) = 1000 * sh2 := IntWalk.i64_in _ ⟨by omega, by omega⟩
                go_wp2_with fail
                have HFA := Lib.hid (HFV.out.call HBA.out)
                have hwu : IntKind.i64.wrap (uv + x.len) = uv + x.len := IntWalk.i64_in _ ⟨by omega, by omega⟩
                have fz := HFA.out.bu.frozen kd
                have HBB := Lib.hid (HBV.out.trans (HBA.out.mono (Nat.le_of_lt HFV.out.bu.lt)))
                have hHK := HG.out
                go_region
                all_goals
                  go_wp2_with fail
                  go_roundw
                  case rel =>
                    refine ⟨k + 1, u.set kd (uv + x.len), by omega, by go_num, Lib.hid (HFA.out.put kd _).drew, Lib.hid ?_, Lib.hid hnx, Lib.hid (HBB.out.setCell (p := ⟨g, kd, none⟩) (by simp) _).drew⟩
                    have := HU.out.set kd (x := x.len) (by omega) (by omega)
                    rw [HUV.out] at this
                    exact this
                  case measure => simp [intOf]; omega
              · obtain rfl : k = l.length := by omega
                have hfu2 : fr.used = u := fol_end (by rw [List.drop_length] at HR; exact HR.out) HFR.out.1
                have HI : Hid (Calls Try.prog 18 #[.slice (some ⟨g, 0, none⟩) p.dies.length p.dies.length, .slice A5 p.dies.length c5] wr (Ret (.bool true) wr)) := Lib.hid (by
                  have h9 := ints_any wr (some ⟨g, 0, none⟩) A5 p.dies.length c5 u fr.used (by rw [HU.out.1]; omega) (by rw [HFR.out.2.2]; omega) (blk_sl HF.out.bu) P5R.out
                  rw [hfu2, decide_eq_true rfl, HU.out.1] at h9
                  exact h9)
                have HS := HSR
                clear hfu2 HSR P4R P5R HF HR HB
                go_wp2_with fail
                refine HI.out.mono ?_
                rintro e W9 ⟨rfl, hb⟩
                replace HS := Lib.hid (HS.out.call hb)
                clear hb HI
                go_wp2_with fail
                refine (awake_any _).mono ?_; rintro e w9 ⟨rfl, hb9⟩; have hB := (HS.out.call hb9).below; clear HS hb9; go_wp2_with fail; go_ret; exact ⟨rfl, hB⟩
          · obtain ⟨e1, e2, e3⟩ := HTP.out.1 hpe
            rw [e1, e2, e3]
            clear e1 e2 e3 hpe HTP P4
            go_wp2_with fail
            refine (awake_any _).mono ?_; rintro e w9 ⟨rfl, hb9⟩; have hB := (HS.out.call hb9).below; clear HS hb9; go_wp2_with fail; go_ret; exact ⟨rfl, hB⟩
end Go.Proofs.Ytkokacdaiklfjaa
