/- Walk of the document's own Follow. -/
import Derived.Test.YtdadgljllnkppaaFo
import Derived.Test.YtdadgljllnkppaaRd2
import Derived.Test.YtdadgljllnkppaaRp
namespace Go.Proofs.Ytdadgljllnkppaa
open Go.RowKit Go.Shelf

theorem errOf_press {p : Press} {l : List Draw} {o : Bool} (h : pressOk p = false) : errOf p l o = 1 := by unfold errOf; rw [h]; rfl
theorem errOf_draws {p : Press} {l : List Draw} {o : Bool} (h : pressOk p = true) (h2 : drawsOk l = false) : errOf p l o = 2 := by unfold errOf; rw [h, h2]; simp
theorem errOf_ok {p : Press} {l : List Draw} (h : pressOk p = true) (h2 : drawsOk l = true) : errOf p l true = 0 := by unfold errOf; rw [h, h2]; simp
theorem FoS.drewN {p : Press} {A : Option Addr} {c g : Nat} {u : List Int} {w W : World} (h : FoS p A c g u w W) (n : Nat) : FoS p A c g u w (W.drewN n) := ⟨⟨h.below.os, h.below.tape, h.below.output, h.below.size, h.below.block⟩, h.bp, h.bu, h.ge⟩
set_option maxRecDepth 100000 in
set_option maxHeartbeats 2000000 in
theorem rfollow_any (w : World) (A T P : Option Addr) (c ct cp : Nat) (p : Press) (l : List Draw) (plan : List Int) (hp : p.dies.length ≤ 9223372036854775807) (hl : l.length ≤ 9223372036854775807) (hq : plan.length ≤ 9223372036854775807) (hA : DieSl w w.heap.size A p.dies) (hT : DrawSl w w.heap.size T l) (hP : IntSl w w.heap.size P plan) :
    Calls Try.prog 25 #[.agg #[.slice A p.dies.length c, .int .i64 p.shrink.lo, .int .i64 p.shrink.hi, .int .i64 p.change], .slice T l.length ct, .slice P plan.length cp] w (RetFo (followR p l plan) w) := by
  have hb0 : Below w.heap.size w (w.alloc (.cells #[.slice A p.dies.length c, .int .i64 p.shrink.lo, .int .i64 p.shrink.hi, .int .i64 p.change] 26)) := (Below.refl _ _).alloc (Nat.le_refl _) _
  have HB := Lib.hid hb0
  have HPR : Hid (∀ W, Below w.heap.size w W → Calls Try.prog 29 #[.agg #[.slice A p.dies.length c, .int .i64 p.shrink.lo, .int .i64 p.shrink.hi, .int .i64 p.change]] W (Ret (.bool (pressOk p)) W)) := Lib.hid fun W hW => rpress_any W A c p hp (hA.on hW (Nat.le_refl _))
  have HDR : Hid (∀ W, Below w.heap.size w W → Calls Try.prog 30 #[.slice T l.length ct] W (Ret (.bool (drawsOk l)) W)) := Lib.hid fun W hW => rdraws_any W T ct l hl (hT.on hW (Nat.le_refl _))
  cases h1 : pressOk p with
  | false =>
    have hR : followR p l plan = ⟨[], 0, 1⟩ := by unfold followR; rw [errOf_press h1]; rfl
    rw [hR]
    rw [h1] at HPR
    clear hR h1 hA hT hP hb0 hp hl HDR
    go_enter Try.func25, Try.ntmps25
    go_wp2_with fail
    refine (HPR.out _ HB.out).mono ?_
    rintro e W1 ⟨rfl, hb1⟩
    have HB1 := Lib.hid (HB.out.trans (hb1.mono HB.out.size))
    clear hb1
    go_wp2_with fail
    exact bodyPost_ret (v := .tuple #[.slice none 0 0, .int .i64 0, .int .i64 1]) (by simp [results, Try.results25, go_sem]) rfl ⟨none, 0, rfl, World.ownsRow_nil _ _ _ _, HB1.out⟩
  | true =>
    rw [h1] at HPR
    cases h2 : drawsOk l with
    | false =>
      have hR : followR p l plan = ⟨[], 0, 2⟩ := by unfold followR; rw [errOf_draws h1 h2]; rfl
      rw [hR]
      rw [h2] at HDR
      clear hR h1 h2 hA hT hP hb0 hp hl
      go_enter Try.func25, Try.ntmps25
      go_wp2_with fail
      refine (HPR.out _ HB.out).mono ?_
      rintro e W1 ⟨rfl, hb1⟩
      have HB1 := Lib.hid (HB.out.trans (hb1.mono HB.out.size))
      clear hb1
      go_wp2_with fail
      refine (HDR.out _ HB1.out).mono ?_
      rintro e W2 ⟨rfl, hb1⟩
      have HB2 := Lib.hid (HB1.out.trans (hb1.mono HB1.out.size))
      clear hb1
      go_wp2_with fail
      exact bodyPost_ret (v := .tuple #[.slice none 0 0, .int .i64 0, .int .i64 2]) (by simp [results, Try.results25, go_sem]) rfl ⟨none, 0, rfl, World.ownsRow_nil _ _ _ _, HB2.out⟩
    | true =>
      have hR : followR p l plan = fol p plan l 0 (List.replicate p.dies.length 0) := by unfold followR; rw [if_pos (errOf_ok h1 h2)]
      rw [h2] at HDR
      obtain ⟨⟨n1, n4⟩, -⟩ := press_parts h1
      have hl8 := (draws_parts h2).1
      have hl8' : (l.length : Int) ≤ 8 := by omega
      have HPO := Lib.hid h1
      have HDO := Lib.hid (draws_parts h2).2
      have HA := Lib.hid hA
      have HT := Lib.hid hT
      have HP := Lib.hid hP
      have hmk := run_make_row' (P := Try.prog) 28 3 (.int .i64 0) 8 (by kernel_rfl) (by kernel_rfl) rfl .i64 .i64 p.dies.length (by omega) (by omega)
      rw [made_ints] at hmk
      rw [hR]
      clear hR h1 h2 hA hT hP hb0 hp hl hl8
      have hq0 : (0 : Int) ≤ plan.length := by omega
      have hq' : (plan.length : Int) ≤ 9223372036854775807 := by omega
      have hl0 : (0 : Int) ≤ l.length := by omega
      have hn4 : (p.dies.length : Int) ≤ 4 := by omega
      have hn1 : (1 : Int) ≤ p.dies.length := by omega
      go_enter Try.func25, Try.ntmps25
      go_wp2_with fail
      refine (HPR.out _ HB.out).mono ?_
      rintro e W0 ⟨rfl, hb1⟩
      have HB0 := Lib.hid (HB.out.trans (hb1.mono HB.out.size))
      have hbx0 := Lib.hid ((Blk.new w 26 #[.slice A p.dies.length c, .int .i64 p.shrink.lo, .int .i64 p.shrink.hi, .int .i64 p.change]).below hb1 (Blk.new w _ _).lt)
      clear hb1
      go_wp2_with fail
      refine (HDR.out _ HB0.out).mono ?_
      rintro e W1 ⟨rfl, hb1⟩
      have HB1 := Lib.hid (HB0.out.trans (hb1.mono HB0.out.size))
      have hbx := hbx0.out.below hb1 hbx0.out.lt
      have x0 := hbx.cell 0
      have HBX := Lib.hid hbx
      clear hb1 hbx HB hbx0 HB0 HPR HDR
      go_wp2_with fail
      have hS : FoS p A c W1.heap.size (List.replicate p.dies.length 0) w (W1.alloc (.cells (intsA (List.replicate p.dies.length 0)) 3)) := ⟨HB1.out.alloc HB1.out.size _, HBX.out.alloc _, Blk.new _ _ _, HBX.out.lt⟩
      generalize W1.heap.size = g at hS ⊢
      generalize World.alloc W1 _ = W2 at hS ⊢
      have HS := Lib.hid hS
      clear x0 HBX HB1 hS hmk
      go_loopw [10] (fun i wr => ∃ (k : Nat) (u : List Int), k ≤ l.length ∧ i = .int .i64 k ∧ Hid (FoS p A c g u w wr) ∧ Hid (UsedOk p.dies.length k u) ∧ Hid (fol p plan l 0 (List.replicate p.dies.length 0) = fol p plan (l.drop k) k u)) (fun i _ => l.length - (intOf i).toNat)
      case atStart => exact ⟨0, _, by omega, rfl, HS, Lib.hid (UsedOk.start _), Lib.hid rfl⟩
      case round =>
        clear HS
        obtain ⟨k, u, hk, rfl, HS, HU, HR⟩ := hrel
        by_cases hlt : k < l.length
        · obtain ⟨bT, oT, rfl, hbT, hat⟩ := HT.out (by intro e; rw [e] at hlt; simp at hlt)
          obtain ⟨t0, t1, t2⟩ := hat k hlt
          clear hat
          simp only [drawF] at t0 t1 t2
          rw [← HS.out.below.cell (p := ⟨bT, _, none⟩) hbT] at t0 t1 t2
          have hx := HDO.out l[k] (List.getElem_mem hlt)
          have HFO : Hid (fol p plan (l.drop k) k u = if plan.length ≤ k then ⟨[], k, 4⟩
              else if fromB (plan.getD k 0) 0 ((p.dies.length : Int) - 1) = false then ⟨[], k, 2⟩
              else if doesB (p.dieI (plan.getD k 0)) p.shrink l[k] (u.getD (plan.getD k 0).toNat 0) = false then ⟨[], k, 11⟩
              else fol p plan (l.drop (k + 1)) (k + 1) (u.set (plan.getD k 0).toNat (u.getD (plan.getD k 0).toNat 0 + l[k].len))) := Lib.hid (by rw [List.drop_eq_getElem_cons hlt]; rfl)
          generalize l[k] = x at *
          have HX := Lib.hid hx
          clear hx
          by_cases hpk : plan.length ≤ k
          · have HRES : Hid (fol p plan l 0 (List.replicate p.dies.length 0) = ⟨[], k, 4⟩) := Lib.hid (by rw [HR.out, HFO.out, if_pos hpk])
            clear HFO HR
            go_wp2_with fail
            rw [HRES.out]
            exact bodyPost_ret (v := .tuple #[.slice none 0 0, .int .i64 (k : Int), .int .i64 4]) (by simp [results, Try.results25, go_sem]) rfl ⟨none, 0, rfl, World.ownsRow_nil _ _ _ _, HS.out.below⟩
          · rw [if_neg hpk] at HFO
            obtain ⟨bP, oP, rfl, hbP, hap⟩ := HP.out (by intro e; rw [e] at hpk; simp at hpk)
            have y0 := hap k (by omega)
            rw [← HS.out.below.cell (p := ⟨bP, _, none⟩) hbP] at y0
            have hgd : plan.getD k 0 = plan[k]'(by omega) := by simp [List.getD_eq_getElem?_getD, List.getElem?_eq_getElem (show k < plan.length by omega)]
            rw [← hgd] at y0
            clear hap hgd
            generalize plan.getD k 0 = d at *
            have hkp : (k : Int) < plan.length := by omega
            have hkl : (k : Int) < l.length := by omega
            have hk0 : (0 : Int) ≤ k := by omega
            have hwn : IntKind.i64.wrap ((p.dies.length : Int) - 1) = (p.dies.length : Int) - 1 := IntWalk.i64_in _ ⟨by omega, by omega⟩
            have x0 := HS.out.bp.cell 0
            have HIN : Hid (∀ V a b c, Calls Try.prog 65 #[.int .i64 a, .int .i64 b, .int .i64 c] V fun e w' => e = .returned (.bool (fromB a b c)) ∧ V = w') := Lib.hid fun V a b c => rin_any a b c V
            obtain ⟨o, ho⟩ : ∃ o, fromB d 0 ((p.dies.length : Int) - 1) = o := ⟨_, rfl⟩
            rw [ho] at HFO
            have HO := Lib.hid ho
            have HY := Lib.hid y0
            have HS1 := Lib.hid HS.out.drew
            have hS1 : wr.cell? ⟨bP, oP + k, none⟩ = some (.int .i64 d) ∧ wr.cell? ⟨w.heap.size, 0, none⟩ = some (.slice A p.dies.length c) := ⟨y0, x0⟩
            have HT3 := Lib.hid (And.intro t0 (And.intro t1 t2))
            clear x0 y0 t0 t1 t2
            go_wp2_with fail
            go_region_held3 (fun W => W.cell? ⟨bP, oP + k, none⟩ = some (.int .i64 d) ∧ W.cell? ⟨w.heap.size, 0, none⟩ = some (.slice A p.dies.length c))
              (first | exact hS1 | assumption | fail "keep")
              (first
                | (go_at_call 65; (with_reducible refine (HIN.out _ _ _ _).mono ?_); rw [ho]; rintro e e1 ⟨rfl, rfl⟩)
                | fail "no arm")
            clear hS1 HIN HS ho
            cases o with
            | false =>
              have HRES : Hid (fol p plan l 0 (List.replicate p.dies.length 0) = ⟨[], k, 2⟩) := Lib.hid (by rw [HR.out, HFO.out, if_pos rfl])
              clear HFO HR
              go_wp2_with fail
              rw [HRES.out]
              exact bodyPost_ret (v := .tuple #[.slice none 0 0, .int .i64 (k : Int), .int .i64 2]) (by simp [results, Try.results25, go_sem]) rfl ⟨none, 0, rfl, World.ownsRow_nil _ _ _ _, HS1.out.below⟩
            | true =>
              rw [if_neg (by simp)] at HFO
              have hd := HO.out
              rw [fromB_iff] at hd
              obtain ⟨d0, d1⟩ := hd
              obtain ⟨kd, rfl⟩ := Int.eq_ofNat_of_zero_le d0
              have hkd : kd < p.dies.length := by omega
              obtain ⟨-, hdi, hsh, -⟩ := press_parts HPO.out
              have hdI : p.dieI (kd : Int) = p.dies[kd] := by simp [Press.dieI, hkd]
              have hub := HU.out.2 kd
              have hul : kd < u.length := by rw [HU.out.1]; exact hkd
              rw [hdI, Int.toNat_natCast] at HFO
              have z0 := HS1.out.cell kd hul
              have hxo : drawOk x = true := by
                have := HX.out
                unfold drawOk
                rw [Bool.and_eq_true, fromB_iff, withinB_iff]
                exact this
              have hdk := hdi p.dies[kd] (List.getElem_mem hkd)
              obtain ⟨uv, huv⟩ : ∃ v, u.getD kd 0 = v := ⟨_, rfl⟩
              have HUV := Lib.hid huv
              rw [huv] at hub z0 HFO
              clear huv
              have HDF : Hid (∀ W, Below w.heap.size w W → Calls Try.prog 74 #[.agg #[.slice A p.dies.length c, .int .i64 p.shrink.lo, .int .i64 p.shrink.hi, .int .i64 p.change], .int .i64 (kd : Int), .int .i64 uv, .agg #[.int .i64 x.len, .int .i64 x.want.lo, .int .i64 x.want.hi]] W (Ret (.bool (doesB p.dies[kd] p.shrink x uv)) W)) :=
                Lib.hid fun W hW => rdoes_any W A c p kd uv x hkd (HA.out.on hW (Nat.le_refl _)) hdk hsh hxo hub.1 (by omega)
              obtain ⟨o2, ho2⟩ : ∃ o, doesB p.dies[kd] p.shrink x uv = o := ⟨_, rfl⟩
              rw [ho2] at HDF HFO
              clear ho2 hdI hdi hsh hdk hxo
              have hkd0 : (0 : Int) ≤ kd := by omega
              have hkdn : (kd : Int) < p.dies.length := by omega
              have HBW := Lib.hid HS1.out.below
              have HQ2 := Lib.hid (PbS.of (Below.refl _ wr.drew) HS1.out.bp)
              have HT4 : Hid (wr.drew.cell? ⟨bP, oP + k, none⟩ = some (.int .i64 (kd : Int)) ∧ wr.drew.cell? ⟨bT, oT + k * 3, none⟩ = some (.int .i64 x.len) ∧ wr.drew.cell? ⟨bT, oT + k * 3 + 1, none⟩ = some (.int .i64 x.want.lo) ∧ wr.drew.cell? ⟨bT, oT + k * 3 + 2, none⟩ = some (.int .i64 x.want.hi) ∧ wr.drew.cell? ⟨g, kd, none⟩ = some (.int .i64 uv)) := Lib.hid ⟨HY.out, HT3.out.1, HT3.out.2.1, HT3.out.2.2, z0⟩
              clear HY HT3 z0
              generalize World.drew wr = V at *
              have hS2 : PbS p A c w.heap.size V V ∧ V.cell? ⟨bP, oP + k, none⟩ = some (.int .i64 (kd : Int)) ∧ V.cell? ⟨bT, oT + k * 3, none⟩ = some (.int .i64 x.len) ∧ V.cell? ⟨bT, oT + k * 3 + 1, none⟩ = some (.int .i64 x.want.lo) ∧ V.cell? ⟨bT, oT + k * 3 + 2, none⟩ = some (.int .i64 x.want.hi) ∧ V.cell? ⟨g, kd, none⟩ = some (.int .i64 uv) := ⟨HQ2.out, HT4.out⟩
              unfold PbS at hS2
              go_wp2_with fail
              go_region_held3 (fun W => (Below V.heap.size V W ∧ W.cell? ⟨w.heap.size, 0, none⟩ = some (.slice A p.dies.length c) ∧ W.cell? ⟨w.heap.size, 1, none⟩ = some (.int .i64 p.shrink.lo) ∧ W.cell? ⟨w.heap.size, 2, none⟩ = some (.int .i64 p.shrink.hi) ∧ W.cell? ⟨w.heap.size, 3, none⟩ = some (.int .i64 p.change)) ∧ W.cell? ⟨bP, oP + k, none⟩ = some (.int .i64 (kd : Int)) ∧ W.cell? ⟨bT, oT + k * 3, none⟩ = some (.int .i64 x.len) ∧ W.cell? ⟨bT, oT + k * 3 + 1, none⟩ = some (.int .i64 x.want.lo) ∧ W.cell? ⟨bT, oT + k * 3 + 2, none⟩ = some (.int .i64 x.want.hi) ∧ W.cell? ⟨g, kd, none⟩ = some (.int .i64 uv))
                (first | exact ⟨HQ2.out.drew, HT4.out⟩ | exact ⟨HQ3.out, HT5.out⟩ | assumption | fail "keep")
                (first
                  | (go_at_call 74; (with_reducible refine (HDF.out _ HBW.out.drew).mono ?_); rintro e e3 ⟨rfl, hb3⟩; have HQ3 := Lib.hid (HQ2.out.drew.call hb3); have hb4 := Below.trans (Below.refl _ V).drew hb3; have HS3 := Lib.hid (HS1.out.call hb4); have HT5 := Lib.hid (And.intro (cell_call HT4.out.1 hb4) (And.intro (cell_call HT4.out.2.1 hb4) (And.intro (cell_call HT4.out.2.2.1 hb4) (And.intro (cell_call HT4.out.2.2.2.1 hb4) (cell_call HT4.out.2.2.2.2 hb4))))); clear hb3 hb4)
                  | fail "no arm")
              clear hS2 HQ2 HQ3 HS1 HDF HBW HT4
              cases o2 with
              | false =>
                have HRES : Hid (fol p plan l 0 (List.replicate p.dies.length 0) = ⟨[], k, 11⟩) := Lib.hid (by rw [HR.out, HFO.out, if_pos rfl])
                clear HFO HR
                go_wp2_with fail
                rw [HRES.out]
                exact bodyPost_ret (v := .tuple #[.slice none 0 0, .int .i64 (k : Int), .int .i64 11]) (by simp [results, Try.results25, go_sem]) rfl ⟨none, 0, rfl, World.ownsRow_nil _ _ _ _, HS3.out.below⟩
              | true =>
                rw [if_neg (by simp)] at HFO
                obtain ⟨y4, x0, -, -, z4⟩ := HT5.out
                have fz := HS3.out.bu.frozen kd
                have hwr : IntKind.i64.wrap (uv + x.len) = uv + x.len := by have := HX.out; exact IntWalk.i64_in _ ⟨by omega, by omega⟩
                go_wp2_with fail
                go_region
                all_goals
                  go_wp2_with fail
                  go_roundw
                  case rel =>
                    refine ⟨k + 1, u.set kd (uv + x.len), by omega, by go_num, Lib.hid (HS3.out.put kd _).drew, Lib.hid ?_, Lib.hid (HR.out.trans HFO.out)⟩
                    have := HU.out.set kd (x := x.len) (by have := HX.out; omega) HX.out.1.2
                    rw [HUV.out] at this
                    exact this
                  case measure => simp [intOf]; omega
        · obtain rfl : k = l.length := by omega
          have hfe : fol p plan (l.drop l.length) l.length u = if l.length < plan.length then ⟨[], l.length, 2⟩ else ⟨u, l.length, 0⟩ := by rw [List.drop_length]; rfl
          by_cases hle : l.length < plan.length
          · have HRES : Hid (fol p plan l 0 (List.replicate p.dies.length 0) = ⟨[], l.length, 2⟩) := Lib.hid (by rw [HR.out, hfe, if_pos hle])
            clear HR hfe
            go_wp2_with fail
            rw [HRES.out]
            exact bodyPost_ret (v := .tuple #[.slice none 0 0, .int .i64 (l.length : Int), .int .i64 2]) (by simp [results, Try.results25, go_sem]) rfl ⟨none, 0, rfl, World.ownsRow_nil _ _ _ _, HS.out.below⟩
          · have HRES : Hid (fol p plan l 0 (List.replicate p.dies.length 0) = ⟨u, l.length, 0⟩) := Lib.hid (by rw [HR.out, hfe, if_neg hle])
            clear HR hfe
            go_wp2_with fail
            rw [HRES.out]
            exact bodyPost_ret (v := .tuple #[.slice (some ⟨g, 0, none⟩) p.dies.length p.dies.length, .int .i64 (l.length : Int), .int .i64 0]) (by simp [results, Try.results25, go_sem]) rfl ⟨some ⟨g, 0, none⟩, p.dies.length, by rw [HU.out.1], by rw [HU.out.1]; exact plan_of_blk HS.out.bu HU.out.1.symm (by omega), HS.out.below⟩
end Go.Proofs.Ytdadgljllnkppaa
