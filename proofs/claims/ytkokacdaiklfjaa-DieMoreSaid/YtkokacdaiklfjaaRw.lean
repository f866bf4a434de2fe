/- Walk of the document's own Wide. -/
import Derived.Test.YtkokacdaiklfjaaRt
namespace Go.Proofs.Ytkokacdaiklfjaa
open Go.RowKit Go.Shelf

theorem wideE_press {p : Press} {i u : Int} (h : pressOk p = false) : wideE p i u = 1 := by unfold wideE errOf; rw [h]; rfl
theorem wideE_ok {p : Press} {i u : Int} (h : pressOk p = true) : wideE p i u = if (fromB i 0 ((p.dies.length : Int) - 1) && fromB u 0 8000) = true then 0 else 2 := by
  unfold wideE errOf
  rw [if_pos h]
  have : drawsOk [] = true := rfl
  simp only [this, true_and]
set_option maxRecDepth 100000 in
set_option maxHeartbeats 2000000 in
theorem rwide_any (w : World) (A : Option Addr) (c : Nat) (p : Press) (i u : Int) (hp : p.dies.length ≤ 9223372036854775807) (hA : DieSl w w.heap.size A p.dies) :
    Calls Try.prog 13 #[.agg #[.slice A p.dies.length c, .int .i64 p.shrink.lo, .int .i64 p.shrink.hi, .int .i64 p.change], .int .i64 i, .int .i64 u] w (Ret (.tuple #[.agg #[.int .i64 (wideS p i u).lo, .int .i64 (wideS p i u).hi], .int .i64 (wideE p i u)]) w) := by
  have hb0 : Below w.heap.size w ((w.alloc (.cells #[.slice A p.dies.length c, .int .i64 p.shrink.lo, .int .i64 p.shrink.hi, .int .i64 p.change] 26)).alloc (.cells #[.int .i64 0, .int .i64 0] 24)) := by repeat (first | exact Below.refl _ _ | assumption | refine Below.drew ?_ | refine Below.alloc ?_ (by first | omega | (simp only [World.size_alloc]; omega) | simp) _ | refine Below.setCell ?_ (by first | omega | (simp only [World.size_alloc]; omega) | simp) _)
  have hq0 : Blk ((w.alloc (.cells #[.slice A p.dies.length c, .int .i64 p.shrink.lo, .int .i64 p.shrink.hi, .int .i64 p.change] 26)).alloc (.cells #[.int .i64 0, .int .i64 0] 24)) w.heap.size 26 #[.slice A p.dies.length c, .int .i64 p.shrink.lo, .int .i64 p.shrink.hi, .int .i64 p.change] := (Blk.new _ _ _).alloc _
  have hz0 : Blk ((w.alloc (.cells #[.slice A p.dies.length c, .int .i64 p.shrink.lo, .int .i64 p.shrink.hi, .int .i64 p.change] 26)).alloc (.cells #[.int .i64 0, .int .i64 0] 24)) (w.heap.size + 1) 24 #[.int .i64 0, .int .i64 0] := blk_at _ _ (by simp)
  have HPR : Hid (∀ W, Below w.heap.size w W → Calls Try.prog 21 #[.agg #[.slice A p.dies.length c, .int .i64 p.shrink.lo, .int .i64 p.shrink.hi, .int .i64 p.change]] W (Ret (.bool (pressOk p)) W)) := Lib.hid fun W hW => rpress_any W A c p hp (hA.on hW (Nat.le_refl _))
  have HA := Lib.hid hA
  have hpi : (p.dies.length : Int) ≤ 9223372036854775807 := by omega
  have hp0 : (0 : Int) ≤ p.dies.length := by omega
  cases h1 : pressOk p with
  | false =>
    have hS : wideS p i u = ⟨0, 0⟩ := by unfold wideS; rw [wideE_press h1]; rfl
    rw [wideE_press h1, hS]
    rw [h1] at HPR
    clear h1 hS hA
    go_enter Try.func13, Try.ntmps13
    go_wp2_with fail
    generalize World.alloc (World.alloc w _) _ = W0 at hb0 hq0 hz0 ⊢
    refine (HPR.out _ hb0).mono ?_
    rintro e W1 ⟨rfl, hb⟩
    have HB1 := Lib.hid (hb0.trans (hb.mono hb0.size))
    have HZ1 := Lib.hid (hz0.below hb hz0.lt)
    clear hb hb0 hq0 hz0
    have z0 := HZ1.out.cell 0; have z1 := HZ1.out.cell 1; have f0 := HZ1.out.frozen 0; have f1 := HZ1.out.frozen 1
    go_wp2_with fail; exact bodyPost_ret (results_blk_tmp rfl _ rfl ((HZ1.out.set_ 0 _).set_ 1 _) (by kernel_rfl) (by kernel_rfl)) rfl ⟨rfl, (HB1.out.setCell (by simp) _).setCell (by simp) _⟩
  | true =>
    have HE : Hid (wideE p i u = if (fromB i 0 ((p.dies.length : Int) - 1) && fromB u 0 8000) = true then 0 else 2) := Lib.hid (wideE_ok h1)
    have HS : Hid (wideS p i u = if (fromB i 0 ((p.dies.length : Int) - 1) && fromB u 0 8000) = true then ⟨thin (p.dieI i) p.shrink u / 1000, cdiv (thick (p.dieI i) p.shrink u) 1000⟩ else ⟨0, 0⟩) := Lib.hid (by
      unfold wideS
      rw [wideE_ok h1]
      split <;> simp_all)
    generalize wideS p i u = sp at HS ⊢
    generalize wideE p i u = er at HE ⊢
    rw [h1] at HPR
    have HOK := Lib.hid h1
    obtain ⟨o1, ho1⟩ : ∃ x, fromB i 0 ((p.dies.length : Int) - 1) = x := ⟨_, rfl⟩
    obtain ⟨o2, ho2⟩ : ∃ x, fromB u 0 8000 = x := ⟨_, rfl⟩
    have HO1 := Lib.hid ho1
    have HO2 := Lib.hid ho2
    rw [ho1, ho2] at HS HE
    clear h1 hA ho1 ho2
    go_enter Try.func13, Try.ntmps13
    go_wp2_with fail
    generalize World.alloc (World.alloc w _) _ = W0 at hb0 hq0 hz0 ⊢
    refine (HPR.out _ hb0).mono ?_
    rintro e W1 ⟨rfl, hb⟩
    have HB1 := Lib.hid (hb0.trans (hb.mono hb0.size))
    have HZ1 := Lib.hid (hz0.below hb hz0.lt)
    have HQ1 := Lib.hid (hq0.below hb hq0.lt)
    clear hb hb0 hq0 hz0
    have x0 := HQ1.out.cell 0
    have HIN : Hid (∀ V a b c, Calls Try.prog 42 #[.int .i64 a, .int .i64 b, .int .i64 c] V fun e w' => e = .returned (.bool (fromB a b c)) ∧ V = w') := Lib.hid fun V a b c => rin_any a b c V
    go_wp2_with fail
    refine (HIN.out _ _ _ _).mono ?_
    rw [HO1.out]
    rintro e W2 ⟨rfl, rfl⟩
    cases o1 with
    | false =>
      have z0 := HZ1.out.cell 0; have z1 := HZ1.out.cell 1; have f0 := HZ1.out.frozen 0; have f1 := HZ1.out.frozen 1
      have hsp : sp = ⟨0, 0⟩ := HS.out
      have he : er = 2 := HE.out
      subst hsp he
      go_wp2_with fail; exact bodyPost_ret (results_blk_tmp rfl _ rfl ((HZ1.out.set_ 0 _).set_ 1 _) (by kernel_rfl) (by kernel_rfl)) rfl ⟨rfl, (HB1.out.setCell (by simp) _).setCell (by simp) _⟩
    | true =>
      go_wp2_with fail
      refine (HIN.out _ _ _ _).mono ?_
      rw [HO2.out]
      rintro e W2 ⟨rfl, rfl⟩
      cases o2 with
      | false =>
        have z0 := HZ1.out.cell 0; have z1 := HZ1.out.cell 1; have f0 := HZ1.out.frozen 0; have f1 := HZ1.out.frozen 1
        have hsp : sp = ⟨0, 0⟩ := HS.out
        have he : er = 2 := HE.out
        subst hsp he
        go_wp2_with fail; exact bodyPost_ret (results_blk_tmp rfl _ rfl ((HZ1.out.set_ 0 _).set_ 1 _) (by kernel_rfl) (by kernel_rfl)) rfl ⟨rfl, (HB1.out.setCell (by simp) _).setCell (by simp) _⟩
      | true =>
        have h1 := HO1.out
        have h2 := HO2.out
        rw [fromB_iff] at h1 h2
        obtain ⟨k, rfl⟩ := Int.eq_ofNat_of_zero_le h1.1
        have hk : k < p.dies.length := by omega
        obtain ⟨-, hdi, hsh, -⟩ := press_parts HOK.out
        have hdk := hdi p.dies[k] (List.getElem_mem hk)
        have hdI : p.dieI (k : Int) = p.dies[k] := by simp [Press.dieI, hk]
        have HTN : Hid (∀ V, Below w.heap.size w V → Calls Try.prog 27 #[.agg #[.slice A p.dies.length c, .int .i64 p.shrink.lo, .int .i64 p.shrink.hi, .int .i64 p.change], .int .i64 (k : Int), .int .i64 u] V (Ret (.int .i64 (thin p.dies[k] p.shrink u)) V)) := Lib.hid fun V hV => rthin_any V A c p k u hk (HA.out.on hV (Nat.le_refl _)) hdk hsh h2.1 (by omega)
        have HTK : Hid (∀ V, Below w.heap.size w V → Calls Try.prog 28 #[.agg #[.slice A p.dies.length c, .int .i64 p.shrink.lo, .int .i64 p.shrink.hi, .int .i64 p.change], .int .i64 (k : Int), .int .i64 u] V (Ret (.int .i64 (thick p.dies[k] p.shrink u)) V)) := Lib.hid fun V hV => rthick_any V A c p k u hk (HA.out.on hV (Nat.le_refl _)) hdk hsh h2.1 (by omega)
        have hsp : sp = ⟨thin p.dies[k] p.shrink u / 1000, cdiv (thick p.dies[k] p.shrink u) 1000⟩ := by have h := HS.out; rw [hdI] at h; exact h
        have hbn := thin_bd hdk hsh h2.1 (show u ≤ 9000 by omega)
        have hbk := thick_bd hdk hsh h2.1 (show u ≤ 9000 by omega)
        generalize thin p.dies[k] p.shrink u = tn at *
        generalize thick p.dies[k] p.shrink u = tk at *
        have hq1 : IntKind.i64.wrap (tn.tdiv 1000) = tn / 1000 := by rw [Int.tdiv_eq_ediv_of_nonneg hbn.1]; exact wr (by omega) (by omega)
        have hq2 : IntKind.i64.wrap (tk + 999) = tk + 999 := wr (by omega) (by omega)
        have hq3 : IntKind.i64.wrap ((tk + 999).tdiv 1000) = cdiv tk 1000 := by rw [Int.tdiv_eq_ediv_of_nonneg (by omega)]; unfold cdiv; rw [wr (by omega) (by omega)]; omega
        generalize cdiv tk 1000 = t2 at *
        generalize tn / 1000 = t1 at *
        have he : er = 0 := HE.out
        subst hsp he
        clear h1 h2 hdi hsh hdk hdI HS HPR HO1 HO2 HIN x0
        have HS0 := Lib.hid (PbS.of (Below.refl _ W1) HQ1.out)
        have hS0 := HS0.out.2
        go_wp2_with fail
        go_region_held3 (fun W => W.cell? ⟨w.heap.size, 0, none⟩ = some (.slice A p.dies.length c) ∧ W.cell? ⟨w.heap.size, 1, none⟩ = some (.int .i64 p.shrink.lo) ∧ W.cell? ⟨w.heap.size, 2, none⟩ = some (.int .i64 p.shrink.hi) ∧ W.cell? ⟨w.heap.size, 3, none⟩ = some (.int .i64 p.change))
          (first | exact HS0.out.2 | exact HS2.out.2 | exact HS3.out.2 | exact ⟨cell_far2 HS3.out.2.1 (by omega), cell_far2 HS3.out.2.2.1 (by omega), cell_far2 HS3.out.2.2.2.1 (by omega), cell_far2 HS3.out.2.2.2.2 (by omega)⟩ | assumption | fail "keep")
          (first
            | (go_at_call 27; (with_reducible refine (HTN.out _ HB1.out.drew).mono ?_); rintro e W2 ⟨rfl, hb⟩; have HS2 := Lib.hid (HS0.out.drew.call hb); have HB2 := Lib.hid (HB1.out.trans (HS2.out.1.mono HB1.out.size)); clear hb)
            | (go_at_call 28; (with_reducible refine (HTK.out _ HB2.out).mono ?_); rintro e W3 ⟨rfl, hb⟩; have HS3 := Lib.hid (HS2.out.call hb); have HB3 := Lib.hid (HB1.out.trans (HS3.out.1.mono HB1.out.size)); have HZ3 := Lib.hid (HZ1.out.below HS3.out.1 HZ1.out.lt); have z0 := HZ3.out.cell 0; have z1 := HZ3.out.cell 1; have f0 := HZ3.out.frozen 0; have f1 := HZ3.out.frozen 1; clear hb)
            | fail "no arm")
        go_wp2_with fail
        exact bodyPost_ret (results_blk_tmp rfl _ rfl ((HZ3.out.set_ 0 _).set_ 1 _) (by kernel_rfl) (by kernel_rfl)) rfl ⟨rfl, (HB3.out.setCell (by simp) _).setCell (by simp) _⟩
end Go.Proofs.Ytkokacdaiklfjaa
