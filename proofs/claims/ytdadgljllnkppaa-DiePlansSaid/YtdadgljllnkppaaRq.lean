/- Walk of the document's own Plan. -/
import Derived.Test.YtdadgljllnkppaaPa
import Derived.Test.YtdadgljllnkppaaCo
import Derived.Test.YtdadgljllnkppaaRf
import Derived.Test.YtdadgljllnkppaaPn
import Derived.Deep.DeepCutAuto
namespace Go.Proofs.Ytdadgljllnkppaa
open Go.RowKit Go.Shelf

theorem own_at7 {w : World} {B : Nat} {e : TypeId} {v : Value} {n : Nat} {xs : List Value} (h : w.ownsRow B e 1 v n xs) (hne : n ≠ 0) : ∃ g cap, v = .slice (some ⟨g, 0, none⟩) n cap ∧ g < w.heap.size ∧ ∀ (j : Nat) u, xs[j]? = some u → w.cell? ⟨g, j, none⟩ = some u := by
  obtain ⟨h1, ⟨-, h2⟩ | ⟨g, cap, cur, rfl, h3, h4, h5, h6, h7, h8⟩⟩ := h
  · exact absurd h2 hne
  · refine ⟨g, cap, rfl, (Array.getElem?_eq_some_iff.1 h4).1, fun j u hj => ?_⟩
    rw [cell_of_row w g j cur e (0, 0) h4]
    rw [← h8, List.getElem?_take] at hj
    split at hj
    · simpa using hj
    · cases hj
theorem drew_cell7 {w : World} {a : Addr} {v : Value} (h : w.cell? a = some v) : w.drew.cell? a = some v := h
/-- What is in hand: the press, the draws, all plans. -/
structure PlS (w : World) (p : Press) (A T : Option Addr) (c : Nat) (l : List Draw) (O : List (List Int)) (Aq : Option Addr) (cq : Nat) (vs : List Value) (W : World) : Prop where
  hb : Below w.heap.size w W
  bq : Blk W w.heap.size 26 #[.slice A p.dies.length c, .int .i64 p.shrink.lo, .int .i64 p.shrink.hi, .int .i64 p.change]
  da : DieSl W W.heap.size A p.dies
  dr : DrawSl W W.heap.size T l
  all : W.ownsRow 0 28 1 (.slice Aq O.length cq) O.length vs
  rows : RowsAt W vs O
theorem PlS.call {w : World} {p : Press} {A T : Option Addr} {c : Nat} {l : List Draw} {O : List (List Int)} {Aq : Option Addr} {cq : Nat} {vs : List Value} {W W' : World} (h : PlS w p A T c l O Aq cq vs W) (hb : Below W.heap.size W W') : PlS w p A T c l O Aq cq vs W' :=
  ⟨h.hb.trans (hb.mono h.hb.size), h.bq.below hb h.bq.lt, h.da.on hb (Nat.le_refl _), h.dr.on hb (Nat.le_refl _), own_call7 h.all hb, h.rows.keep (.below hb)⟩
/-- One of the plans. -/
theorem PlS.one {w : World} {p : Press} {A T : Option Addr} {c : Nat} {l : List Draw} {O : List (List Int)} {Aq : Option Addr} {cq : Nat} {vs : List Value} {W : World} (h : PlS w p A T c l O Aq cq vs W) {i : Nat} (hi : i < O.length) :
    ∃ Ai ci g, Aq = some ⟨g, 0, none⟩ ∧ PlanAt W (.slice Ai O[i].length ci) O[i] ∧ W.cell? ⟨g, i, none⟩ = some (.slice Ai O[i].length ci) := by
  obtain ⟨g, cap, he, -, hc⟩ := own_at7 h.all (by omega)
  have hv : i < vs.length := by rw [h.rows.1]; exact hi
  have hp := h.rows.2 i hv hi
  obtain ⟨Ai, ci, hf⟩ := plan_form hp
  rw [hf] at hp
  refine ⟨Ai, ci, g, by cases he; rfl, hp, ?_⟩
  rw [hc i vs[i] (by simp [hv]), hf]
/-- The best plan so far, by its number. -/
def BestV (O : List (List Int)) (a : Option (List Int)) (v : Value) : Prop := (a = none ∧ v = .int .i64 (-1)) ∨ ∃ q : Nat, ∃ h : q < O.length, a = some O[q] ∧ v = .int .i64 (q : Int)
theorem pick_step {p : Press} {l : List Draw} {O : List (List Int)} {i : Nat} (hi : i < O.length) : pickP p l none (O.take (i + 1)) = if goB p l O[i] = true ∧ (∀ y, pickP p l none (O.take i) = some y → costG p.change none O[i] < costG p.change none y) then some O[i] else pickP p l none (O.take i) := by
  rw [List.take_succ_eq_append_getElem hi, pick_append]
  rfl
set_option maxRecDepth 100000 in
set_option maxHeartbeats 16000000 in
theorem rplan_any (w : World) (A T : Option Addr) (c ct : Nat) (p : Press) (l : List Draw) (hp : p.dies.length ≤ 9223372036854775807) (hl : l.length ≤ 9223372036854775807) (hA : DieSl w w.heap.size A p.dies) (hT : DrawSl w w.heap.size T l) :
    Calls Try.prog 28 #[.agg #[.slice A p.dies.length c, .int .i64 p.shrink.lo, .int .i64 p.shrink.hi, .int .i64 p.change], .slice T l.length ct] w (RetPl (planP p l) (planC p l) (planE p l) w) := by
  have hb0 : Below w.heap.size w (w.alloc (.cells #[.slice A p.dies.length c, .int .i64 p.shrink.lo, .int .i64 p.shrink.hi, .int .i64 p.change] 26)) := (Below.refl _ _).alloc (Nat.le_refl _) _
  have HB := Lib.hid hb0
  have HPR : Hid (∀ W, Below w.heap.size w W → Calls Try.prog 29 #[.agg #[.slice A p.dies.length c, .int .i64 p.shrink.lo, .int .i64 p.shrink.hi, .int .i64 p.change]] W (Ret (.bool (pressOk p)) W)) := Lib.hid fun W hW => rpress_any W A c p hp (hA.on hW (Nat.le_refl _))
  have HDR : Hid (∀ W, Below w.heap.size w W → Calls Try.prog 30 #[.slice T l.length ct] W (Ret (.bool (drawsOk l)) W)) := Lib.hid fun W hW => rdraws_any W T ct l hl (hT.on hW (Nat.le_refl _))
  cases h1 : pressOk p with
  | false =>
    have hR : planP p l = [] ∧ planC p l = 0 ∧ planE p l = 1 := by unfold planP planC planE; rw [errOf_press h1]; simp
    rw [hR.1, hR.2.1, hR.2.2]
    rw [h1] at HPR
    clear hR h1 hA hT hb0 hp hl HDR
    go_enter Try.func28, Try.ntmps28
    go_wp2_with fail
    refine (HPR.out _ HB.out).mono ?_
    rintro e W1 ⟨rfl, hb1⟩
    have HB1 := Lib.hid (HB.out.trans (hb1.mono HB.out.size))
    clear hb1
    go_wp2_with fail
    exact bodyPost_ret (v := .tuple #[.slice none 0 0, .int .i64 0, .int .i64 1]) (by simp [results, Try.results28, go_sem]) rfl ⟨none, 0, rfl, World.ownsRow_nil _ _ _ _, HB1.out⟩
  | true =>
    rw [h1] at HPR
    cases h2 : drawsOk l with
    | false =>
      have hR : planP p l = [] ∧ planC p l = 0 ∧ planE p l = 2 := by unfold planP planC planE; rw [errOf_draws h1 h2]; simp
      rw [hR.1, hR.2.1, hR.2.2]
      rw [h2] at HDR
      clear hR h1 h2 hA hT hb0 hp hl
      go_enter Try.func28, Try.ntmps28
      go_wp2_with fail
      refine (HPR.out _ HB.out).mono ?_
      rintro e W1 ⟨rfl, hb1⟩
      have HB1 := Lib.hid (HB.out.trans (hb1.mono HB.out.size))
      clear hb1
      go_wp2_with fail
      refine (HDR.out _ HB1.out).mono ?_
      rintro e W2 ⟨rfl, hb1⟩
      have HB2 := Lib.hid (HB1.out.trans (hb1.mono HB1.out.size))
      clear hb1
      go_wp2_with fail
      exact bodyPost_ret (v := .tuple #[.slice none 0 0, .int .i64 0, .int .i64 2]) (by simp [results, Try.results28, go_sem]) rfl ⟨none, 0, rfl, World.ownsRow_nil _ _ _ _, HB2.out⟩
    | true =>
      have he0 : errOf p l true = 0 := errOf_ok h1 h2
      have HR : Hid (planP p l = (if (bestOf p l s0).good = true then (bestOf p l s0).plan else []) ∧ planC p l = (if (bestOf p l s0).good = true then (bestOf p l s0).cost else 0) ∧ planE p l = if (bestOf p l s0).good = true then 0 else 4) := Lib.hid (by unfold planP planC planE; simp [he0])
      rw [h2] at HDR
      obtain ⟨⟨n1, n4⟩, -, -, c0, c1⟩ := press_parts h1
      have hl8 := (draws_parts h2).1
      have hpow : p.dies.length ^ l.length ≤ 100000 := Nat.le_trans (Nat.pow_le_pow_left n4 _) (Nat.le_trans (Nat.pow_le_pow_right (by omega) hl8) (by decide))
      have HPA : Hid (∀ W, Calls Try.prog 76 #[.int .i64 (l.length : Int), .int .i64 (p.dies.length : Int), .slice none 0 0, .slice none 0 0] W (RetPs W.heap.size (plansL p.dies.length l.length []) W)) := Lib.hid fun W => by
        have h9 := plans_any W.heap.size p.dies.length n4 l.length l.length [] none none 0 0 [] [] W (by simp) hl8 (World.ownsRow_nil _ _ _ _) (World.ownsRow_nil _ _ _ _) ⟨rfl, fun i h => by simp at h⟩ (Nat.le_refl _) (by simpa using hpow)
        simpa using h9
      have HFO : Hid (∀ (W : World) (x : List Int) (Ai : Option Addr) (ci : Nat), x.length ≤ 8 → DieSl W W.heap.size A p.dies → DrawSl W W.heap.size T l → PlanAt W (.slice Ai x.length ci) x → Calls Try.prog 25 #[.agg #[.slice A p.dies.length c, .int .i64 p.shrink.lo, .int .i64 p.shrink.hi, .int .i64 p.change], .slice T l.length ct, .slice Ai x.length ci] W (RetFo (fol p x l 0 (List.replicate p.dies.length 0)) W)) := Lib.hid fun W x Ai ci hx ha hd hq => by
        have h9 := rfollow_any W A T Ai c ct ci p l x hp hl (by omega) ha hd (plan_sl hq)
        rw [show followR p l x = fol p x l 0 (List.replicate p.dies.length 0) by unfold followR; rw [if_pos he0]] at h9
        exact h9
      have HCO : Hid (∀ (W : World) (x : List Int) (Ai : Option Addr) (ci : Nat), x ∈ plansL p.dies.length l.length [] → PlanAt W (.slice Ai x.length ci) x → Calls Try.prog 31 #[.agg #[.slice A p.dies.length c, .int .i64 p.shrink.lo, .int .i64 p.shrink.hi, .int .i64 p.change], .slice Ai x.length ci] W (Ret (.int .i64 (costG p.change none x)) W)) := Lib.hid fun W x Ai ci hx hq => by
        have hm := tails_mem p.dies.length l.length x (by simpa [plansL] using hx)
        exact rcost_any W A Ai c ci p x c0 c1 (by omega) (fun d hd => by have := fromB_iff.1 (hm.2 d hd); omega) (plan_sl hq)
      have HPK := Lib.hid (pick_all h1 l)
      have HMX : Hid (∀ x ∈ plansL p.dies.length l.length [], x.length ≤ 8) := Lib.hid fun x hx => by
        have hm := tails_mem p.dies.length l.length x (by simpa [plansL] using hx)
        omega
      have hS0 : ∀ W, Below w.heap.size (w.alloc (.cells #[.slice A p.dies.length c, .int .i64 p.shrink.lo, .int .i64 p.shrink.hi, .int .i64 p.change] 26)) W → ∀ (Aq : Option Addr) (cq : Nat) (vs : List Value), W.ownsRow 0 28 1 (.slice Aq (plansL p.dies.length l.length []).length cq) (plansL p.dies.length l.length []).length vs → RowsAt W vs (plansL p.dies.length l.length []) → Blk W w.heap.size 26 #[.slice A p.dies.length c, .int .i64 p.shrink.lo, .int .i64 p.shrink.hi, .int .i64 p.change] → PlS w p A T c l (plansL p.dies.length l.length []) Aq cq vs W := fun W hW Aq cq vs h3 h4 h5 =>
        ⟨hb0.trans hW, h5, hA.on (hb0.trans hW) (Nat.le_refl _), hT.on (hb0.trans hW) (Nat.le_refl _), h3, h4⟩
      have HS0 := Lib.hid hS0
      have hOL : (plansL p.dies.length l.length []).length ≤ 100000 := by rw [plans_cnt]; exact hpow
      have hl0 : (0 : Int) ≤ l.length := by omega
      have hl1 : (l.length : Int) ≤ 8 := by omega
      have hd0 : (0 : Int) ≤ p.dies.length := by omega
      have hd1 : (p.dies.length : Int) ≤ 4 := by omega
      have HGO : Hid (∀ x, goB p l x = decide ((fol p x l 0 (List.replicate p.dies.length 0)).err = 0)) := Lib.hid fun x => rfl
      generalize planP p l = o1 at HR ⊢
      generalize planC p l = o2 at HR ⊢
      generalize planE p l = o3 at HR ⊢
      generalize plansL p.dies.length l.length [] = O at HPA HCO HPK HS0 hOL HMX
      have hO0 : (0 : Int) ≤ O.length := by omega
      have hO1 : (O.length : Int) ≤ 100000 := by omega
      have y0 := (Blk.new w 26 #[.slice A p.dies.length c, .int .i64 p.shrink.lo, .int .i64 p.shrink.hi, .int .i64 p.change]).cell 0
      have y1 := (Blk.new w 26 #[.slice A p.dies.length c, .int .i64 p.shrink.lo, .int .i64 p.shrink.hi, .int .i64 p.change]).cell 1
      have y2 := (Blk.new w 26 #[.slice A p.dies.length c, .int .i64 p.shrink.lo, .int .i64 p.shrink.hi, .int .i64 p.change]).cell 2
      have y3 := (Blk.new w 26 #[.slice A p.dies.length c, .int .i64 p.shrink.lo, .int .i64 p.shrink.hi, .int .i64 p.change]).cell 3
      have K0 := Lib.hid (Blk.new w 26 #[.slice A p.dies.length c, .int .i64 p.shrink.lo, .int .i64 p.shrink.hi, .int .i64 p.change])
      clear h1 h2 he0 hA hT hb0 hp hl hS0 hpow n1 n4 c0 c1 hl8
      go_enter Try.func28, Try.ntmps28
      go_wp2_with fail
      generalize World.alloc w _ = V at HB HS0 K0 y0 y1 y2 y3 ⊢
      refine (HPR.out _ HB.out).mono ?_
      rintro e W1 ⟨rfl, hb1⟩
      have HB1 := Lib.hid (HB.out.trans (hb1.mono HB.out.size))
      have HV1 := Lib.hid hb1
      replace K0 := Lib.hid (K0.out.below hb1 K0.out.lt)
      clear hb1 y0 y1 y2 y3
      go_wp2_with fail
      refine (HDR.out _ HB1.out).mono ?_
      rintro e W2 ⟨rfl, hb1⟩
      replace HB1 := Lib.hid (HB1.out.trans (hb1.mono HB1.out.size))
      replace HV1 := Lib.hid (HV1.out.trans (hb1.mono HV1.out.size))
      replace K0 := Lib.hid (K0.out.below hb1 K0.out.lt)
      clear hb1
      have y0 := K0.out.cell 0
      go_wp2_with fail
      refine (HPA.out _).mono ?_
      rintro e W3 ⟨Aq, cq, vs, rfl, hown, hrows, -, hb1⟩
      have HS := Lib.hid (HS0.out W3 ((HV1.out.trans (hb1.mono HV1.out.size)).mono HB.out.size) Aq cq vs (by
        refine ⟨hown.1, hown.2.imp id fun ⟨g, cap, cur, e1, e2, e3⟩ => ⟨g, cap, cur, e1, Nat.zero_le _, e3⟩⟩) hrows (K0.out.below hb1 K0.out.lt))
      clear hb1 hown hrows K0 HV1 HB1 HPR HDR HPA HS0 y0 HB
      go_wp2_with fail
      go_loopw [8, 9] (fun b i wr => ∃ k : Nat, k ≤ O.length ∧ i = .int .i64 k ∧ BestV O (pickP p l none (O.take k)) b ∧ Hid (PlS w p A T c l O Aq cq vs wr)) (fun _ i _ => O.length - (intOf i).toNat)
      case atStart => exact ⟨0, Nat.zero_le _, rfl, .inl ⟨rfl, rfl⟩, HS⟩
      case round =>
        clear HS
        obtain ⟨k, hk, rfl, HBV, HS⟩ := hrel
        by_cases hlt : k < O.length
        · have hk0 : (0 : Int) ≤ k := by omega
          have hk1 : (k : Int) < O.length := by omega
          have hwk : IntKind.i64.wrap ((k : Int) + 1) = (k : Int) + 1 := wr' (by omega) (by omega)
          have HST := Lib.hid (pick_step (p := p) (l := l) hlt)
          obtain ⟨Ai, ci, g, hAq, hpi, hci⟩ := HS.out.one hlt
          have HMI := Lib.hid (List.getElem_mem hlt)
          have HFK := Lib.hid fun W => HFO.out W O[k] Ai ci (HMX.out _ HMI.out)
          have HCK := Lib.hid fun W => HCO.out W O[k] Ai ci HMI.out
          have HGK := Lib.hid (HGO.out O[k])
          have HPI := Lib.hid hpi
          have HCI := Lib.hid hci
          have HXI : Hid (∃ h : k < O.length, O[k] = O[k]) := Lib.hid ⟨hlt, rfl⟩
          generalize hx : O[k] = x at HST HFK HCK HGK HPI HCI HMI
          have HX := Lib.hid hx
          generalize fol p x l 0 (List.replicate p.dies.length 0) = fr at HFK HGK
          subst hAq
          clear hpi hci hx
          have x0 := HS.out.bq.cell 0; have x1 := HS.out.bq.cell 1; have x2 := HS.out.bq.cell 2; have x3 := HS.out.bq.cell 3
          go_upto_region 10 with fail
          clear x0 x1 x2 x3
          replace HS := Lib.hid (HS.out.call (Below.refl _ _).drew)
          replace HPI := Lib.hid (HPI.out.below (Below.refl _ _).drew)
          replace HCI := Lib.hid (drew_cell7 HCI.out)
          refine wp_region_held_drew (S := fun W => W.cell? ⟨w.heap.size, 0, none⟩ = some (.slice A p.dies.length c) ∧ W.cell? ⟨w.heap.size, 1, none⟩ = some (.int .i64 p.shrink.lo) ∧ W.cell? ⟨w.heap.size, 2, none⟩ = some (.int .i64 p.shrink.hi) ∧ W.cell? ⟨w.heap.size, 3, none⟩ = some (.int .i64 p.change) ∧ W.cell? ⟨g, k, none⟩ = some (.slice Ai x.length ci)) (by kernel_rfl) ⟨HS.out.bq.cell 0, HS.out.bq.cell 1, HS.out.bq.cell 2, HS.out.bq.cell 3, HCI.out⟩ (fun hH0 => ?_)
          generalize World.drew _ = V0 at *
          simp only [List.size_toArray, List.length_cons, List.length_nil, Nat.reduceAdd, Array.replicate_succ, Array.replicate_zero, List.push_toArray, List.nil_append, List.cons_append]
          refine wpAnyH_take (i := 0 ) (v := ?_) rfl (by kernel_rfl) (by kernel_rfl) (by kernel_rfl) (fun _ _ _ h => h) (Or.inl ⟨by rfl, ?_⟩) (by assumption) ?_; rotate_left; (· (intro w0 hSw; obtain ⟨x0, x1, x2, x3, y0⟩ := hSw; go_simp); first | done | with_reducible rfl); (try simp only [Act.put, List.getElem_toArray, List.getElem_cons_zero, List.setIfInBounds_toArray, List.set_cons_zero, List.set_cons_succ])
          refine wpAnyH_take (i := 1 ) (v := ?_) rfl (by kernel_rfl) (by kernel_rfl) (by kernel_rfl) (fun _ _ _ h => h) (Or.inl ⟨by rfl, ?_⟩) (by assumption) ?_; rotate_left; (· (intro w0 hSw; obtain ⟨x0, x1, x2, x3, y0⟩ := hSw; go_simp); first | done | with_reducible rfl); (try simp only [Act.put, List.getElem_toArray, List.getElem_cons_succ, List.getElem_cons_zero, List.setIfInBounds_toArray, List.set_cons_zero, List.set_cons_succ])
          refine wpAnyH_take (i := 2 ) (v := ?_) rfl (by kernel_rfl) (by kernel_rfl) (by kernel_rfl) (fun _ _ _ h => h) (Or.inl ⟨by rfl, ?_⟩) (by assumption) ?_; rotate_left; (· (intro w0 hSw; obtain ⟨x0, x1, x2, x3, y0⟩ := hSw; go_simp); first | done | with_reducible rfl); (try simp only [Act.put, List.getElem_toArray, List.getElem_cons_succ, List.getElem_cons_zero, List.setIfInBounds_toArray, List.set_cons_zero, List.set_cons_succ])
          refine wpAnyH_take (i := 3 ) (v := ?_) rfl (by kernel_rfl) (by kernel_rfl) (by kernel_rfl) (fun _ _ _ h => h) (Or.inl ⟨by rfl, ?_⟩) (by assumption) ?_; rotate_left; (· (intro w0 hSw; obtain ⟨x0, x1, x2, x3, y0⟩ := hSw; go_simp); first | done | with_reducible rfl); (try simp only [Act.put, List.getElem_toArray, List.getElem_cons_succ, List.getElem_cons_zero, List.setIfInBounds_toArray, List.set_cons_zero, List.set_cons_succ])
          refine wpAnyH_take (i := 4 ) (v := ?_) rfl (by kernel_rfl) (by kernel_rfl) (by kernel_rfl) (fun _ _ _ h => h) (Or.inl ⟨by rfl, ?_⟩) (by assumption) ?_; rotate_left; (· (intro w0 hSw; obtain ⟨x0, x1, x2, x3, y0⟩ := hSw; go_simp); first | done | with_reducible rfl); (try simp only [Act.put, List.getElem_toArray, List.getElem_cons_succ, List.getElem_cons_zero, List.setIfInBounds_toArray, List.set_cons_zero, List.set_cons_succ])
          refine wpAnyH_take (i := 5 ) (v := ?_) rfl (by kernel_rfl) (by kernel_rfl) (by kernel_rfl) (fun _ _ _ h => h) (Or.inl ⟨by rfl, ?_⟩) (by assumption) ?_; rotate_left; (· (intro w0 hSw; obtain ⟨x0, x1, x2, x3, y0⟩ := hSw; go_simp); first | done | with_reducible rfl); (try simp only [Act.put, List.getElem_toArray, List.getElem_cons_succ, List.getElem_cons_zero, List.setIfInBounds_toArray, List.set_cons_zero, List.set_cons_succ])
          refine wpAnyH_ready (rs := [6]) (by kernel_rfl) (by simp) ?_
          refine AllReadyH.cons (by simp only [List.getElem?_toArray, List.getElem?_cons_succ, List.getElem?_cons_zero]; rfl) (fun K hK => ?_) AllReadyH.nil
          go_simp
          refine (HFK.out _ HS.out.da HS.out.dr HPI.out).mono ?_
          rintro e V10 ⟨A2, c2, rfl, -, hb⟩
          replace HS := Lib.hid (HS.out.call hb)
          replace HPI := Lib.hid (HPI.out.below hb)
          replace HCI := Lib.hid ((hb.cell (World.block_lt_of_cell? _ _ HCI.out)).trans HCI.out)
          clear hb
          refine hK.out _ _ ⟨HS.out.bq.cell 0, HS.out.bq.cell 1, HS.out.bq.cell 2, HS.out.bq.cell 3, HCI.out⟩ (fun hH1 => ?_)
          clear hK K
          try simp only [List.setIfInBounds_toArray, List.set_cons_zero, List.set_cons_succ]
          refine wpAnyH_take (i := 7 ) (v := ?_) rfl (by kernel_rfl) (by kernel_rfl) (by kernel_rfl) (fun _ _ _ h => h) (Or.inl ⟨by rfl, ?_⟩) (by assumption) ?_; rotate_left; (· (intro w0 hSw; obtain ⟨x0, x1, x2, x3, y0⟩ := hSw; go_simp); first | done | with_reducible rfl); (try simp only [Act.put, List.getElem_toArray, List.getElem_cons_succ, List.getElem_cons_zero, List.setIfInBounds_toArray, List.set_cons_zero, List.set_cons_succ])
          refine wpAnyH_take (i := 8 ) (v := ?_) rfl (by kernel_rfl) (by kernel_rfl) (by kernel_rfl) (fun _ _ _ h => h) (Or.inl ⟨by rfl, ?_⟩) (by assumption) ?_; rotate_left; (· (intro w0 hSw; obtain ⟨x0, x1, x2, x3, y0⟩ := hSw; go_simp); first | done | with_reducible rfl); (try simp only [Act.put, List.getElem_toArray, List.getElem_cons_succ, List.getElem_cons_zero, List.setIfInBounds_toArray, List.set_cons_zero, List.set_cons_succ])
          refine wpAnyH_take (i := 9 ) (v := ?_) rfl (by kernel_rfl) (by kernel_rfl) (by kernel_rfl) (fun _ _ _ h => h) (Or.inl ⟨by rfl, ?_⟩) (by assumption) ?_; rotate_left; (· (intro w0 hSw; obtain ⟨x0, x1, x2, x3, y0⟩ := hSw; go_simp); first | done | with_reducible rfl); (try simp only [Act.put, List.getElem_toArray, List.getElem_cons_succ, List.getElem_cons_zero, List.setIfInBounds_toArray, List.set_cons_zero, List.set_cons_succ])
          refine wpAnyH_take (i := 10 ) (v := ?_) rfl (by kernel_rfl) (by kernel_rfl) (by kernel_rfl) (fun _ _ _ h => h) (Or.inl ⟨by rfl, ?_⟩) (by assumption) ?_; rotate_left; (· (intro w0 hSw; obtain ⟨x0, x1, x2, x3, y0⟩ := hSw; go_simp); first | done | with_reducible rfl); (try simp only [Act.put, List.getElem_toArray, List.getElem_cons_succ, List.getElem_cons_zero, List.setIfInBounds_toArray, List.set_cons_zero, List.set_cons_succ])
          refine wpAnyH_take (i := 11 ) (v := ?_) rfl (by kernel_rfl) (by kernel_rfl) (by kernel_rfl) (fun _ _ _ h => h) (Or.inl ⟨by rfl, ?_⟩) (by assumption) ?_; rotate_left; (· (intro w0 hSw; obtain ⟨x0, x1, x2, x3, y0⟩ := hSw; go_simp); first | done | with_reducible rfl); (try simp only [Act.put, List.getElem_toArray, List.getElem_cons_succ, List.getElem_cons_zero, List.setIfInBounds_toArray, List.set_cons_zero, List.set_cons_succ])
          refine wpAnyH_take (i := 12 ) (v := ?_) rfl (by kernel_rfl) (by kernel_rfl) (by kernel_rfl) (fun _ _ _ h => h) (Or.inl ⟨by rfl, ?_⟩) (by assumption) ?_; rotate_left; (· (intro w0 hSw; obtain ⟨x0, x1, x2, x3, y0⟩ := hSw; go_simp); first | done | with_reducible rfl); (try simp only [Act.put, List.getElem_toArray, List.getElem_cons_succ, List.getElem_cons_zero, List.setIfInBounds_toArray, List.set_cons_zero, List.set_cons_succ])
          refine wpAnyH_take (i := 13 ) (v := ?_) rfl (by kernel_rfl) (by kernel_rfl) (by kernel_rfl) (fun _ _ _ h => h) (Or.inl ⟨by rfl, ?_⟩) (by assumption) ?_; rotate_left; (· (intro w0 hSw; obtain ⟨x0, x1, x2, x3, y0⟩ := hSw; go_simp); first | done | with_reducible rfl); (try simp only [Act.put, List.getElem_toArray, List.getElem_cons_succ, List.getElem_cons_zero, List.setIfInBounds_toArray, List.set_cons_zero, List.set_cons_succ])
          refine wpAnyH_done (by kernel_rfl) ?_ _
          cases hge : goB p l x with
          | false =>
            have hfe : ¬ fr.err = 0 := of_decide_eq_false (by rw [← HGK.out]; exact hge)
            have hfe' : (fr.err == 0) = false := by rw [beq_eq_false_iff_ne]; exact hfe
            have HRL : Hid (BestV O (pickP p l none (O.take (k + 1))) u8) := Lib.hid (by rw [HST.out, hge, if_neg (by simp)]; exact HBV)
            clear hge HBV
            go_upto_region 11 with fail
            replace HS := Lib.hid (HS.out.call (Below.refl _ _).drew)
            replace HPI := Lib.hid (HPI.out.below (Below.refl _ _).drew)
            replace HCI := Lib.hid (drew_cell7 HCI.out)
            refine wp_region_held_drew (S := fun W => W.cell? ⟨w.heap.size, 0, none⟩ = some (.slice A p.dies.length c) ∧ W.cell? ⟨w.heap.size, 1, none⟩ = some (.int .i64 p.shrink.lo) ∧ W.cell? ⟨w.heap.size, 2, none⟩ = some (.int .i64 p.shrink.hi) ∧ W.cell? ⟨w.heap.size, 3, none⟩ = some (.int .i64 p.change) ∧ W.cell? ⟨g, k, none⟩ = some (.slice Ai x.length ci)) (by kernel_rfl) ⟨HS.out.bq.cell 0, HS.out.bq.cell 1, HS.out.bq.cell 2, HS.out.bq.cell 3, HCI.out⟩ (fun hH0 => ?_)
            generalize World.drew _ = V0 at *
            simp only [List.size_toArray, List.length_cons, List.length_nil, Nat.reduceAdd, Array.replicate_succ, Array.replicate_zero, List.push_toArray, List.nil_append, List.cons_append]
            refine wpAnyH_take (i := 0 ) (v := ?_) rfl (by kernel_rfl) (by kernel_rfl) (by kernel_rfl) (fun _ _ _ h => h) (Or.inl ⟨by rfl, ?_⟩) (by assumption) ?_; rotate_left; (· (intro w0 hSw; obtain ⟨x0, x1, x2, x3, y0⟩ := hSw; go_simp); first | done | with_reducible rfl); (try simp only [Act.put, List.getElem_toArray, List.getElem_cons_zero, List.setIfInBounds_toArray, List.set_cons_zero, List.set_cons_succ])
            refine wpAnyH_take (i := 1 ) (v := ?_) rfl (by kernel_rfl) (by kernel_rfl) (by kernel_rfl) (fun _ _ _ h => h) (Or.inl ⟨by rfl, ?_⟩) (by assumption) ?_; rotate_left; (· (intro w0 hSw; obtain ⟨x0, x1, x2, x3, y0⟩ := hSw; go_simp); first | done | with_reducible rfl); (try simp only [Act.put, List.getElem_toArray, List.getElem_cons_succ, List.getElem_cons_zero, List.setIfInBounds_toArray, List.set_cons_zero, List.set_cons_succ])
            refine wpAnyH_take (i := 2 ) (v := ?_) rfl (by kernel_rfl) (by kernel_rfl) (by kernel_rfl) (fun _ _ _ h => h) (Or.inl ⟨by rfl, ?_⟩) (by assumption) ?_; rotate_left; (· (intro w0 hSw; obtain ⟨x0, x1, x2, x3, y0⟩ := hSw; go_simp); first | done | with_reducible rfl); (try simp only [Act.put, List.getElem_toArray, List.getElem_cons_succ, List.getElem_cons_zero, List.setIfInBounds_toArray, List.set_cons_zero, List.set_cons_succ])
            refine wpAnyH_take (i := 3) (v := undef) rfl (by kernel_rfl) (by kernel_rfl) (by kernel_rfl) (fun _ _ _ h => h) (Or.inr ⟨by rfl, rfl⟩) (by assumption) ?_; (try simp only [Act.put, List.getElem_toArray, List.getElem_cons_succ, List.getElem_cons_zero, List.setIfInBounds_toArray, List.set_cons_zero, List.set_cons_succ])
            refine wpAnyH_take (i := 4) (v := undef) rfl (by kernel_rfl) (by kernel_rfl) (by kernel_rfl) (fun _ _ _ h => h) (Or.inr ⟨by rfl, rfl⟩) (by assumption) ?_; (try simp only [Act.put, List.getElem_toArray, List.getElem_cons_succ, List.getElem_cons_zero, List.setIfInBounds_toArray, List.set_cons_zero, List.set_cons_succ])
            refine wpAnyH_take (i := 5) (v := undef) rfl (by kernel_rfl) (by kernel_rfl) (by kernel_rfl) (fun _ _ _ h => h) (Or.inr ⟨by rfl, rfl⟩) (by assumption) ?_; (try simp only [Act.put, List.getElem_toArray, List.getElem_cons_succ, List.getElem_cons_zero, List.setIfInBounds_toArray, List.set_cons_zero, List.set_cons_succ])
            refine wpAnyH_take (i := 6) (v := undef) rfl (by kernel_rfl) (by kernel_rfl) (by kernel_rfl) (fun _ _ _ h => h) (Or.inr ⟨by rfl, rfl⟩) (by assumption) ?_; (try simp only [Act.put, List.getElem_toArray, List.getElem_cons_succ, List.getElem_cons_zero, List.setIfInBounds_toArray, List.set_cons_zero, List.set_cons_succ])
            refine wpAnyH_take (i := 7) (v := undef) rfl (by kernel_rfl) (by kernel_rfl) (by kernel_rfl) (fun _ _ _ h => h) (Or.inr ⟨by rfl, rfl⟩) (by assumption) ?_; (try simp only [Act.put, List.getElem_toArray, List.getElem_cons_succ, List.getElem_cons_zero, List.setIfInBounds_toArray, List.set_cons_zero, List.set_cons_succ])
            refine wpAnyH_take (i := 8) (v := undef) rfl (by kernel_rfl) (by kernel_rfl) (by kernel_rfl) (fun _ _ _ h => h) (Or.inr ⟨by rfl, rfl⟩) (by assumption) ?_; (try simp only [Act.put, List.getElem_toArray, List.getElem_cons_succ, List.getElem_cons_zero, List.setIfInBounds_toArray, List.set_cons_zero, List.set_cons_succ])
            refine wpAnyH_take (i := 9) (v := undef) rfl (by kernel_rfl) (by kernel_rfl) (by kernel_rfl) (fun _ _ _ h => h) (Or.inr ⟨by rfl, rfl⟩) (by assumption) ?_; (try simp only [Act.put, List.getElem_toArray, List.getElem_cons_succ, List.getElem_cons_zero, List.setIfInBounds_toArray, List.set_cons_zero, List.set_cons_succ])
            refine wpAnyH_take (i := 10) (v := undef) rfl (by kernel_rfl) (by kernel_rfl) (by kernel_rfl) (fun _ _ _ h => h) (Or.inr ⟨by rfl, rfl⟩) (by assumption) ?_; (try simp only [Act.put, List.getElem_toArray, List.getElem_cons_succ, List.getElem_cons_zero, List.setIfInBounds_toArray, List.set_cons_zero, List.set_cons_succ])
            refine wpAnyH_take (i := 11) (v := undef) rfl (by kernel_rfl) (by kernel_rfl) (by kernel_rfl) (fun _ _ _ h => h) (Or.inr ⟨by rfl, rfl⟩) (by assumption) ?_; (try simp only [Act.put, List.getElem_toArray, List.getElem_cons_succ, List.getElem_cons_zero, List.setIfInBounds_toArray, List.set_cons_zero, List.set_cons_succ])
            refine wpAnyH_take (i := 12) (v := undef) rfl (by kernel_rfl) (by kernel_rfl) (by kernel_rfl) (fun _ _ _ h => h) (Or.inr ⟨by rfl, rfl⟩) (by assumption) ?_; (try simp only [Act.put, List.getElem_toArray, List.getElem_cons_succ, List.getElem_cons_zero, List.setIfInBounds_toArray, List.set_cons_zero, List.set_cons_succ])
            refine wpAnyH_take (i := 13) (v := undef) rfl (by kernel_rfl) (by kernel_rfl) (by kernel_rfl) (fun _ _ _ h => h) (Or.inr ⟨by rfl, rfl⟩) (by assumption) ?_; (try simp only [Act.put, List.getElem_toArray, List.getElem_cons_succ, List.getElem_cons_zero, List.setIfInBounds_toArray, List.set_cons_zero, List.set_cons_succ])
            refine wpAnyH_take (i := 14) (v := undef) rfl (by kernel_rfl) (by kernel_rfl) (by kernel_rfl) (fun _ _ _ h => h) (Or.inr ⟨by rfl, rfl⟩) (by assumption) ?_; (try simp only [Act.put, List.getElem_toArray, List.getElem_cons_succ, List.getElem_cons_zero, List.setIfInBounds_toArray, List.set_cons_zero, List.set_cons_succ])
            refine wpAnyH_take (i := 15) (v := undef) rfl (by kernel_rfl) (by kernel_rfl) (by kernel_rfl) (fun _ _ _ h => h) (Or.inr ⟨by rfl, rfl⟩) (by assumption) ?_; (try simp only [Act.put, List.getElem_toArray, List.getElem_cons_succ, List.getElem_cons_zero, List.setIfInBounds_toArray, List.set_cons_zero, List.set_cons_succ])
            refine wpAnyH_take (i := 16) (v := undef) rfl (by kernel_rfl) (by kernel_rfl) (by kernel_rfl) (fun _ _ _ h => h) (Or.inr ⟨by rfl, rfl⟩) (by assumption) ?_; (try simp only [Act.put, List.getElem_toArray, List.getElem_cons_succ, List.getElem_cons_zero, List.setIfInBounds_toArray, List.set_cons_zero, List.set_cons_succ])
            refine wpAnyH_take (i := 17) (v := undef) rfl (by kernel_rfl) (by kernel_rfl) (by kernel_rfl) (fun _ _ _ h => h) (Or.inr ⟨by rfl, rfl⟩) (by assumption) ?_; (try simp only [Act.put, List.getElem_toArray, List.getElem_cons_succ, List.getElem_cons_zero, List.setIfInBounds_toArray, List.set_cons_zero, List.set_cons_succ])
            refine wpAnyH_take (i := 18) (v := undef) rfl (by kernel_rfl) (by kernel_rfl) (by kernel_rfl) (fun _ _ _ h => h) (Or.inr ⟨by rfl, rfl⟩) (by assumption) ?_; (try simp only [Act.put, List.getElem_toArray, List.getElem_cons_succ, List.getElem_cons_zero, List.setIfInBounds_toArray, List.set_cons_zero, List.set_cons_succ])
            refine wpAnyH_take (i := 19) (v := undef) rfl (by kernel_rfl) (by kernel_rfl) (by kernel_rfl) (fun _ _ _ h => h) (Or.inr ⟨by rfl, rfl⟩) (by assumption) ?_; (try simp only [Act.put, List.getElem_toArray, List.getElem_cons_succ, List.getElem_cons_zero, List.setIfInBounds_toArray, List.set_cons_zero, List.set_cons_succ])
            refine wpAnyH_take (i := 20 ) (v := ?_) rfl (by kernel_rfl) (by kernel_rfl) (by kernel_rfl) (fun _ _ _ h => h) (Or.inl ⟨by rfl, ?_⟩) (by assumption) ?_; rotate_left; (· (intro w0 hSw; obtain ⟨x0, x1, x2, x3, y0⟩ := hSw; go_simp); first | done | with_reducible rfl); (try simp only [Act.put, List.getElem_toArray, List.getElem_cons_succ, List.getElem_cons_zero, List.setIfInBounds_toArray, List.set_cons_zero, List.set_cons_succ])
            refine wpAnyH_done (by kernel_rfl) ?_ _
            go_wp2_with fail
            go_roundw
            case rel => exact ⟨k + 1, by omega, by go_num, HRL.out, HS⟩
            case measure => simp [intOf]; omega
          | true =>
            have hfe : fr.err = 0 := of_decide_eq_true (by rw [← HGK.out]; exact hge)
            have hfe' : (fr.err == 0) = true := by rw [beq_iff_eq]; exact hfe
            rcases HBV with ⟨hac, rfl⟩ | ⟨q, hq, hac, rfl⟩
            · have HRL : Hid (BestV O (pickP p l none (O.take (k + 1))) (.int .i64 (k : Int))) := Lib.hid (.inr ⟨k, hlt, by rw [HST.out, hge, if_pos ⟨rfl, fun y hy => by rw [hac] at hy; cases hy⟩, HX.out], rfl⟩)
              clear hge hac
              go_upto_region 11 with fail
              replace HS := Lib.hid (HS.out.call (Below.refl _ _).drew)
              replace HPI := Lib.hid (HPI.out.below (Below.refl _ _).drew)
              replace HCI := Lib.hid (drew_cell7 HCI.out)
              refine wp_region_held_drew (S := fun W => W.cell? ⟨w.heap.size, 0, none⟩ = some (.slice A p.dies.length c) ∧ W.cell? ⟨w.heap.size, 1, none⟩ = some (.int .i64 p.shrink.lo) ∧ W.cell? ⟨w.heap.size, 2, none⟩ = some (.int .i64 p.shrink.hi) ∧ W.cell? ⟨w.heap.size, 3, none⟩ = some (.int .i64 p.change) ∧ W.cell? ⟨g, k, none⟩ = some (.slice Ai x.length ci)) (by kernel_rfl) ⟨HS.out.bq.cell 0, HS.out.bq.cell 1, HS.out.bq.cell 2, HS.out.bq.cell 3, HCI.out⟩ (fun hH0 => ?_)
              generalize World.drew _ = V0 at *
              simp only [List.size_toArray, List.length_cons, List.length_nil, Nat.reduceAdd, Array.replicate_succ, Array.replicate_zero, List.push_toArray, List.nil_append, List.cons_append]
              refine wpAnyH_take (i := 0 ) (v := ?_) rfl (by kernel_rfl) (by kernel_rfl) (by kernel_rfl) (fun _ _ _ h => h) (Or.inl ⟨by rfl, ?_⟩) (by assumption) ?_; rotate_left; (· (intro w0 hSw; obtain ⟨x0, x1, x2, x3, y0⟩ := hSw; go_simp); first | done | with_reducible rfl); (try simp only [Act.put, List.getElem_toArray, List.getElem_cons_zero, List.setIfInBounds_toArray, List.set_cons_zero, List.set_cons_succ])
              refine wpAnyH_take (i := 1 ) (v := ?_) rfl (by kernel_rfl) (by kernel_rfl) (by kernel_rfl) (fun _ _ _ h => h) (Or.inl ⟨by rfl, ?_⟩) (by assumption) ?_; rotate_left; (· (intro w0 hSw; obtain ⟨x0, x1, x2, x3, y0⟩ := hSw; go_simp); first | done | with_reducible rfl); (try simp only [Act.put, List.getElem_toArray, List.getElem_cons_succ, List.getElem_cons_zero, List.setIfInBounds_toArray, List.set_cons_zero, List.set_cons_succ])
              refine wpAnyH_take (i := 2 ) (v := ?_) rfl (by kernel_rfl) (by kernel_rfl) (by kernel_rfl) (fun _ _ _ h => h) (Or.inl ⟨by rfl, ?_⟩) (by assumption) ?_; rotate_left; (· (intro w0 hSw; obtain ⟨x0, x1, x2, x3, y0⟩ := hSw; go_simp); first | done | with_reducible rfl); (try simp only [Act.put, List.getElem_toArray, List.getElem_cons_succ, List.getElem_cons_zero, List.setIfInBounds_toArray, List.set_cons_zero, List.set_cons_succ])
              refine wpAnyH_take (i := 3 ) (v := ?_) rfl (by kernel_rfl) (by kernel_rfl) (by kernel_rfl) (fun _ _ _ h => h) (Or.inl ⟨by rfl, ?_⟩) (by assumption) ?_; rotate_left; (· (intro w0 hSw; obtain ⟨x0, x1, x2, x3, y0⟩ := hSw; go_simp); first | done | with_reducible rfl); (try simp only [Act.put, List.getElem_toArray, List.getElem_cons_succ, List.getElem_cons_zero, List.setIfInBounds_toArray, List.set_cons_zero, List.set_cons_succ])
              refine wpAnyH_take (i := 4 ) (v := ?_) rfl (by kernel_rfl) (by kernel_rfl) (by kernel_rfl) (fun _ _ _ h => h) (Or.inl ⟨by rfl, ?_⟩) (by assumption) ?_; rotate_left; (· (intro w0 hSw; obtain ⟨x0, x1, x2, x3, y0⟩ := hSw; go_simp); first | done | with_reducible rfl); (try simp only [Act.put, List.getElem_toArray, List.getElem_cons_succ, List.getElem_cons_zero, List.setIfInBounds_toArray, List.set_cons_zero, List.set_cons_succ])
              refine wpAnyH_take (i := 5 ) (v := ?_) rfl (by kernel_rfl) (by kernel_rfl) (by kernel_rfl) (fun _ _ _ h => h) (Or.inl ⟨by rfl, ?_⟩) (by assumption) ?_; rotate_left; (· (intro w0 hSw; obtain ⟨x0, x1, x2, x3, y0⟩ := hSw; go_simp); first | done | with_reducible rfl); (try simp only [Act.put, List.getElem_toArray, List.getElem_cons_succ, List.getElem_cons_zero, List.setIfInBounds_toArray, List.set_cons_zero, List.set_cons_succ])
              refine wpAnyH_take (i := 6) (v := undef) rfl (by kernel_rfl) (by kernel_rfl) (by kernel_rfl) (fun _ _ _ h => h) (Or.inr ⟨by rfl, rfl⟩) (by assumption) ?_; (try simp only [Act.put, List.getElem_toArray, List.getElem_cons_succ, List.getElem_cons_zero, List.setIfInBounds_toArray, List.set_cons_zero, List.set_cons_succ])
              refine wpAnyH_take (i := 7) (v := undef) rfl (by kernel_rfl) (by kernel_rfl) (by kernel_rfl) (fun _ _ _ h => h) (Or.inr ⟨by rfl, rfl⟩) (by assumption) ?_; (try simp only [Act.put, List.getElem_toArray, List.getElem_cons_succ, List.getElem_cons_zero, List.setIfInBounds_toArray, List.set_cons_zero, List.set_cons_succ])
              refine wpAnyH_take (i := 8) (v := undef) rfl (by kernel_rfl) (by kernel_rfl) (by kernel_rfl) (fun _ _ _ h => h) (Or.inr ⟨by rfl, rfl⟩) (by assumption) ?_; (try simp only [Act.put, List.getElem_toArray, List.getElem_cons_succ, List.getElem_cons_zero, List.setIfInBounds_toArray, List.set_cons_zero, List.set_cons_succ])
              refine wpAnyH_take (i := 9) (v := undef) rfl (by kernel_rfl) (by kernel_rfl) (by kernel_rfl) (fun _ _ _ h => h) (Or.inr ⟨by rfl, rfl⟩) (by assumption) ?_; (try simp only [Act.put, List.getElem_toArray, List.getElem_cons_succ, List.getElem_cons_zero, List.setIfInBounds_toArray, List.set_cons_zero, List.set_cons_succ])
              refine wpAnyH_take (i := 10) (v := undef) rfl (by kernel_rfl) (by kernel_rfl) (by kernel_rfl) (fun _ _ _ h => h) (Or.inr ⟨by rfl, rfl⟩) (by assumption) ?_; (try simp only [Act.put, List.getElem_toArray, List.getElem_cons_succ, List.getElem_cons_zero, List.setIfInBounds_toArray, List.set_cons_zero, List.set_cons_succ])
              refine wpAnyH_take (i := 11) (v := undef) rfl (by kernel_rfl) (by kernel_rfl) (by kernel_rfl) (fun _ _ _ h => h) (Or.inr ⟨by rfl, rfl⟩) (by assumption) ?_; (try simp only [Act.put, List.getElem_toArray, List.getElem_cons_succ, List.getElem_cons_zero, List.setIfInBounds_toArray, List.set_cons_zero, List.set_cons_succ])
              refine wpAnyH_take (i := 12) (v := undef) rfl (by kernel_rfl) (by kernel_rfl) (by kernel_rfl) (fun _ _ _ h => h) (Or.inr ⟨by rfl, rfl⟩) (by assumption) ?_; (try simp only [Act.put, List.getElem_toArray, List.getElem_cons_succ, List.getElem_cons_zero, List.setIfInBounds_toArray, List.set_cons_zero, List.set_cons_succ])
              refine wpAnyH_take (i := 13) (v := undef) rfl (by kernel_rfl) (by kernel_rfl) (by kernel_rfl) (fun _ _ _ h => h) (Or.inr ⟨by rfl, rfl⟩) (by assumption) ?_; (try simp only [Act.put, List.getElem_toArray, List.getElem_cons_succ, List.getElem_cons_zero, List.setIfInBounds_toArray, List.set_cons_zero, List.set_cons_succ])
              refine wpAnyH_take (i := 14) (v := undef) rfl (by kernel_rfl) (by kernel_rfl) (by kernel_rfl) (fun _ _ _ h => h) (Or.inr ⟨by rfl, rfl⟩) (by assumption) ?_; (try simp only [Act.put, List.getElem_toArray, List.getElem_cons_succ, List.getElem_cons_zero, List.setIfInBounds_toArray, List.set_cons_zero, List.set_cons_succ])
              refine wpAnyH_take (i := 15) (v := undef) rfl (by kernel_rfl) (by kernel_rfl) (by kernel_rfl) (fun _ _ _ h => h) (Or.inr ⟨by rfl, rfl⟩) (by assumption) ?_; (try simp only [Act.put, List.getElem_toArray, List.getElem_cons_succ, List.getElem_cons_zero, List.setIfInBounds_toArray, List.set_cons_zero, List.set_cons_succ])
              refine wpAnyH_take (i := 16) (v := undef) rfl (by kernel_rfl) (by kernel_rfl) (by kernel_rfl) (fun _ _ _ h => h) (Or.inr ⟨by rfl, rfl⟩) (by assumption) ?_; (try simp only [Act.put, List.getElem_toArray, List.getElem_cons_succ, List.getElem_cons_zero, List.setIfInBounds_toArray, List.set_cons_zero, List.set_cons_succ])
              refine wpAnyH_take (i := 17) (v := undef) rfl (by kernel_rfl) (by kernel_rfl) (by kernel_rfl) (fun _ _ _ h => h) (Or.inr ⟨by rfl, rfl⟩) (by assumption) ?_; (try simp only [Act.put, List.getElem_toArray, List.getElem_cons_succ, List.getElem_cons_zero, List.setIfInBounds_toArray, List.set_cons_zero, List.set_cons_succ])
              refine wpAnyH_take (i := 18) (v := undef) rfl (by kernel_rfl) (by kernel_rfl) (by kernel_rfl) (fun _ _ _ h => h) (Or.inr ⟨by rfl, rfl⟩) (by assumption) ?_; (try simp only [Act.put, List.getElem_toArray, List.getElem_cons_succ, List.getElem_cons_zero, List.setIfInBounds_toArray, List.set_cons_zero, List.set_cons_succ])
              refine wpAnyH_take (i := 19 ) (v := ?_) rfl (by kernel_rfl) (by kernel_rfl) (by kernel_rfl) (fun _ _ _ h => h) (Or.inl ⟨by rfl, ?_⟩) (by assumption) ?_; rotate_left; (· (intro w0 hSw; obtain ⟨x0, x1, x2, x3, y0⟩ := hSw; go_simp); first | done | with_reducible rfl); (try simp only [Act.put, List.getElem_toArray, List.getElem_cons_succ, List.getElem_cons_zero, List.setIfInBounds_toArray, List.set_cons_zero, List.set_cons_succ])
              refine wpAnyH_take (i := 20 ) (v := ?_) rfl (by kernel_rfl) (by kernel_rfl) (by kernel_rfl) (fun _ _ _ h => h) (Or.inl ⟨by rfl, ?_⟩) (by assumption) ?_; rotate_left; (· (intro w0 hSw; obtain ⟨x0, x1, x2, x3, y0⟩ := hSw; go_simp); first | done | with_reducible rfl); (try simp only [Act.put, List.getElem_toArray, List.getElem_cons_succ, List.getElem_cons_zero, List.setIfInBounds_toArray, List.set_cons_zero, List.set_cons_succ])
              refine wpAnyH_done (by kernel_rfl) ?_ _
              go_wp2_with fail
              go_roundw
              case rel => exact ⟨k + 1, by omega, by go_num, HRL.out, HS⟩
              case measure => simp [intOf]; omega
            · have hq0 : (0 : Int) ≤ q := by omega
              have hq1 : (q : Int) < O.length := by omega
              have hq2 : decide ((q : Int) < 0) = false := decide_eq_false (by omega)
              obtain ⟨Aj, cj, g', hAq, hpj, hcj⟩ := HS.out.one hq
              obtain rfl : g = g' := by cases hAq; rfl
              have HCQ := Lib.hid fun W => HCO.out W O[q] Aj cj (List.getElem_mem hq)
              have HRL : Hid (∀ v, v = (if costG p.change none x < costG p.change none O[q] then Value.int .i64 (k : Int) else .int .i64 (q : Int)) → BestV O (pickP p l none (O.take (k + 1))) v) := Lib.hid fun v hv => by
                rw [HST.out, hge, hac]
                by_cases hc : costG p.change none x < costG p.change none O[q]
                · rw [if_pos hc] at hv
                  rw [if_pos ⟨rfl, fun y hy => by cases hy; exact hc⟩]
                  exact .inr ⟨k, hlt, by rw [HX.out], hv⟩
                · rw [if_neg hc] at hv
                  rw [if_neg (fun h => hc (h.2 _ rfl))]
                  exact .inr ⟨q, hq, rfl, hv⟩
              have HPJ := Lib.hid hpj
              have HCJ := Lib.hid hcj
              generalize O[q] = y at HCQ HRL HPJ HCJ
              generalize costG p.change none x = cx at HCK HRL
              generalize costG p.change none y = cy at HCQ HRL
              clear hge hac hpj hcj hAq
              go_upto_region 11 with fail
              replace HS := Lib.hid (HS.out.call (Below.refl _ _).drew)
              replace HPI := Lib.hid (HPI.out.below (Below.refl _ _).drew)
              replace HCI := Lib.hid (drew_cell7 HCI.out)
              replace HPJ := Lib.hid (HPJ.out.below (Below.refl _ _).drew)
              replace HCJ := Lib.hid (drew_cell7 HCJ.out)
              refine wp_region_held_drew (S := fun W => W.cell? ⟨w.heap.size, 0, none⟩ = some (.slice A p.dies.length c) ∧ W.cell? ⟨w.heap.size, 1, none⟩ = some (.int .i64 p.shrink.lo) ∧ W.cell? ⟨w.heap.size, 2, none⟩ = some (.int .i64 p.shrink.hi) ∧ W.cell? ⟨w.heap.size, 3, none⟩ = some (.int .i64 p.change) ∧ W.cell? ⟨g, k, none⟩ = some (.slice Ai x.length ci) ∧ W.cell? ⟨g, q, none⟩ = some (.slice Aj y.length cj)) (by kernel_rfl) ⟨HS.out.bq.cell 0, HS.out.bq.cell 1, HS.out.bq.cell 2, HS.out.bq.cell 3, HCI.out, HCJ.out⟩ (fun hH0 => ?_)
              generalize World.drew _ = V0 at *
              simp only [List.size_toArray, List.length_cons, List.length_nil, Nat.reduceAdd, Array.replicate_succ, Array.replicate_zero, List.push_toArray, List.nil_append, List.cons_append]
              refine wpAnyH_take (i := 0 ) (v := ?_) rfl (by kernel_rfl) (by kernel_rfl) (by kernel_rfl) (fun _ _ _ h => h) (Or.inl ⟨by rfl, ?_⟩) (by assumption) ?_; rotate_left; (· (intro w0 hSw; obtain ⟨x0, x1, x2, x3, y0, z0⟩ := hSw; go_simp); first | done | with_reducible rfl); (try simp only [Act.put, List.getElem_toArray, List.getElem_cons_zero, List.setIfInBounds_toArray, List.set_cons_zero, List.set_cons_succ])
              refine wpAnyH_take (i := 1 ) (v := ?_) rfl (by kernel_rfl) (by kernel_rfl) (by kernel_rfl) (fun _ _ _ h => h) (Or.inl ⟨by rfl, ?_⟩) (by assumption) ?_; rotate_left; (· (intro w0 hSw; obtain ⟨x0, x1, x2, x3, y0, z0⟩ := hSw; go_simp); first | done | with_reducible rfl); (try simp only [Act.put, List.getElem_toArray, List.getElem_cons_succ, List.getElem_cons_zero, List.setIfInBounds_toArray, List.set_cons_zero, List.set_cons_succ])
              refine wpAnyH_take (i := 2 ) (v := ?_) rfl (by kernel_rfl) (by kernel_rfl) (by kernel_rfl) (fun _ _ _ h => h) (Or.inl ⟨by rfl, ?_⟩) (by assumption) ?_; rotate_left; (· (intro w0 hSw; obtain ⟨x0, x1, x2, x3, y0, z0⟩ := hSw; go_simp); first | done | with_reducible rfl); (try simp only [Act.put, List.getElem_toArray, List.getElem_cons_succ, List.getElem_cons_zero, List.setIfInBounds_toArray, List.set_cons_zero, List.set_cons_succ])
              refine wpAnyH_take (i := 3 ) (v := ?_) rfl (by kernel_rfl) (by kernel_rfl) (by kernel_rfl) (fun _ _ _ h => h) (Or.inl ⟨by rfl, ?_⟩) (by assumption) ?_; rotate_left; (· (intro w0 hSw; obtain ⟨x0, x1, x2, x3, y0, z0⟩ := hSw; go_simp); first | done | with_reducible rfl); (try simp only [Act.put, List.getElem_toArray, List.getElem_cons_succ, List.getElem_cons_zero, List.setIfInBounds_toArray, List.set_cons_zero, List.set_cons_succ])
              refine wpAnyH_take (i := 4 ) (v := ?_) rfl (by kernel_rfl) (by kernel_rfl) (by kernel_rfl) (fun _ _ _ h => h) (Or.inl ⟨by rfl, ?_⟩) (by assumption) ?_; rotate_left; (· (intro w0 hSw; obtain ⟨x0, x1, x2, x3, y0, z0⟩ := hSw; go_simp); first | done | with_reducible rfl); (try simp only [Act.put, List.getElem_toArray, List.getElem_cons_succ, List.getElem_cons_zero, List.setIfInBounds_toArray, List.set_cons_zero, List.set_cons_succ])
              refine wpAnyH_take (i := 5 ) (v := ?_) rfl (by kernel_rfl) (by kernel_rfl) (by kernel_rfl) (fun _ _ _ h => h) (Or.inl ⟨by rfl, ?_⟩) (by assumption) ?_; rotate_left; (· (intro w0 hSw; obtain ⟨x0, x1, x2, x3, y0, z0⟩ := hSw; go_simp); first | done | with_reducible rfl); (try simp only [Act.put, List.getElem_toArray, List.getElem_cons_succ, List.getElem_cons_zero, List.setIfInBounds_toArray, List.set_cons_zero, List.set_cons_succ])
              refine wpAnyH_take (i := 6 ) (v := ?_) rfl (by kernel_rfl) (by kernel_rfl) (by kernel_rfl) (fun _ _ _ h => h) (Or.inl ⟨by rfl, ?_⟩) (by assumption) ?_; rotate_left; (· (intro w0 hSw; obtain ⟨x0, x1, x2, x3, y0, z0⟩ := hSw; go_simp); first | done | with_reducible rfl); (try simp only [Act.put, List.getElem_toArray, List.getElem_cons_succ, List.getElem_cons_zero, List.setIfInBounds_toArray, List.set_cons_zero, List.set_cons_succ])
              refine wpAnyH_take (i := 7 ) (v := ?_) rfl (by kernel_rfl) (by kernel_rfl) (by kernel_rfl) (fun _ _ _ h => h) (Or.inl ⟨by rfl, ?_⟩) (by assumption) ?_; rotate_left; (· (intro w0 hSw; obtain ⟨x0, x1, x2, x3, y0, z0⟩ := hSw; go_simp); first | done | with_reducible rfl); (try simp only [Act.put, List.getElem_toArray, List.getElem_cons_succ, List.getElem_cons_zero, List.setIfInBounds_toArray, List.set_cons_zero, List.set_cons_succ])
              refine wpAnyH_take (i := 8 ) (v := ?_) rfl (by kernel_rfl) (by kernel_rfl) (by kernel_rfl) (fun _ _ _ h => h) (Or.inl ⟨by rfl, ?_⟩) (by assumption) ?_; rotate_left; (· (intro w0 hSw; obtain ⟨x0, x1, x2, x3, y0, z0⟩ := hSw; go_simp); first | done | with_reducible rfl); (try simp only [Act.put, List.getElem_toArray, List.getElem_cons_succ, List.getElem_cons_zero, List.setIfInBounds_toArray, List.set_cons_zero, List.set_cons_succ])
              refine wpAnyH_take (i := 9 ) (v := ?_) rfl (by kernel_rfl) (by kernel_rfl) (by kernel_rfl) (fun _ _ _ h => h) (Or.inl ⟨by rfl, ?_⟩) (by assumption) ?_; rotate_left; (· (intro w0 hSw; obtain ⟨x0, x1, x2, x3, y0, z0⟩ := hSw; go_simp); first | done | with_reducible rfl); (try simp only [Act.put, List.getElem_toArray, List.getElem_cons_succ, List.getElem_cons_zero, List.setIfInBounds_toArray, List.set_cons_zero, List.set_cons_succ])
              refine wpAnyH_take (i := 10 ) (v := ?_) rfl (by kernel_rfl) (by kernel_rfl) (by kernel_rfl) (fun _ _ _ h => h) (Or.inl ⟨by rfl, ?_⟩) (by assumption) ?_; rotate_left; (· (intro w0 hSw; obtain ⟨x0, x1, x2, x3, y0, z0⟩ := hSw; go_simp); first | done | with_reducible rfl); (try simp only [Act.put, List.getElem_toArray, List.getElem_cons_succ, List.getElem_cons_zero, List.setIfInBounds_toArray, List.set_cons_zero, List.set_cons_succ])
              refine wpAnyH_take (i := 12 ) (v := ?_) rfl (by kernel_rfl) (by kernel_rfl) (by kernel_rfl) (fun _ _ _ h => h) (Or.inl ⟨by rfl, ?_⟩) (by assumption) ?_; rotate_left; (· (intro w0 hSw; obtain ⟨x0, x1, x2, x3, y0, z0⟩ := hSw; go_simp); first | done | with_reducible rfl); (try simp only [Act.put, List.getElem_toArray, List.getElem_cons_succ, List.getElem_cons_zero, List.setIfInBounds_toArray, List.set_cons_zero, List.set_cons_succ])
              refine wpAnyH_take (i := 13 ) (v := ?_) rfl (by kernel_rfl) (by kernel_rfl) (by kernel_rfl) (fun _ _ _ h => h) (Or.inl ⟨by rfl, ?_⟩) (by assumption) ?_; rotate_left; (· (intro w0 hSw; obtain ⟨x0, x1, x2, x3, y0, z0⟩ := hSw; go_simp); first | done | with_reducible rfl); (try simp only [Act.put, List.getElem_toArray, List.getElem_cons_succ, List.getElem_cons_zero, List.setIfInBounds_toArray, List.set_cons_zero, List.set_cons_succ])
              refine wpAnyH_take (i := 14 ) (v := ?_) rfl (by kernel_rfl) (by kernel_rfl) (by kernel_rfl) (fun _ _ _ h => h) (Or.inl ⟨by rfl, ?_⟩) (by assumption) ?_; rotate_left; (· (intro w0 hSw; obtain ⟨x0, x1, x2, x3, y0, z0⟩ := hSw; go_simp); first | done | with_reducible rfl); (try simp only [Act.put, List.getElem_toArray, List.getElem_cons_succ, List.getElem_cons_zero, List.setIfInBounds_toArray, List.set_cons_zero, List.set_cons_succ])
              refine wpAnyH_take (i := 15 ) (v := ?_) rfl (by kernel_rfl) (by kernel_rfl) (by kernel_rfl) (fun _ _ _ h => h) (Or.inl ⟨by rfl, ?_⟩) (by assumption) ?_; rotate_left; (· (intro w0 hSw; obtain ⟨x0, x1, x2, x3, y0, z0⟩ := hSw; go_simp); first | done | with_reducible rfl); (try simp only [Act.put, List.getElem_toArray, List.getElem_cons_succ, List.getElem_cons_zero, List.setIfInBounds_toArray, List.set_cons_zero, List.set_cons_succ])
              refine wpAnyH_take (i := 16 ) (v := ?_) rfl (by kernel_rfl) (by kernel_rfl) (by kernel_rfl) (fun _ _ _ h => h) (Or.inl ⟨by rfl, ?_⟩) (by assumption) ?_; rotate_left; (· (intro w0 hSw; obtain ⟨x0, x1, x2, x3, y0, z0⟩ := hSw; go_simp); first | done | with_reducible rfl); (try simp only [Act.put, List.getElem_toArray, List.getElem_cons_succ, List.getElem_cons_zero, List.setIfInBounds_toArray, List.set_cons_zero, List.set_cons_succ])
              refine wpAnyH_ready (rs := [11]) (by kernel_rfl) (by simp) ?_
              refine AllReadyH.cons (by simp only [List.getElem?_toArray, List.getElem?_cons_succ, List.getElem?_cons_zero]; rfl) (fun K hK => ?_) ?_
              · go_simp
                refine (HCK.out _ HPI.out).mono ?_
                rintro e V20 ⟨rfl, hb⟩
                replace HS := Lib.hid (HS.out.call hb)
                replace HPI := Lib.hid (HPI.out.below hb)
                replace HPJ := Lib.hid (HPJ.out.below hb)
                replace HCI := Lib.hid ((hb.cell (World.block_lt_of_cell? _ _ HCI.out)).trans HCI.out)
                replace HCJ := Lib.hid ((hb.cell (World.block_lt_of_cell? _ _ HCJ.out)).trans HCJ.out)
                clear hb
                refine hK.out _ _ ⟨HS.out.bq.cell 0, HS.out.bq.cell 1, HS.out.bq.cell 2, HS.out.bq.cell 3, HCI.out, HCJ.out⟩ (fun hH1 => ?_)
                clear hK K
                try simp only [List.setIfInBounds_toArray, List.set_cons_zero, List.set_cons_succ]
                refine wpAnyH_ready (rs := [17]) (by kernel_rfl) (by simp) ?_
                refine AllReadyH.cons (by simp only [List.getElem?_toArray, List.getElem?_cons_succ, List.getElem?_cons_zero]; rfl) (fun K hK => ?_) ?_
                · go_simp
                  refine (HCQ.out _ HPJ.out).mono ?_
                  rintro e V21 ⟨rfl, hb⟩
                  replace HS := Lib.hid (HS.out.call hb)
                  replace HPI := Lib.hid (HPI.out.below hb)
                  replace HPJ := Lib.hid (HPJ.out.below hb)
                  replace HCI := Lib.hid ((hb.cell (World.block_lt_of_cell? _ _ HCI.out)).trans HCI.out)
                  replace HCJ := Lib.hid ((hb.cell (World.block_lt_of_cell? _ _ HCJ.out)).trans HCJ.out)
                  clear hb
                  refine hK.out _ _ ⟨HS.out.bq.cell 0, HS.out.bq.cell 1, HS.out.bq.cell 2, HS.out.bq.cell 3, HCI.out, HCJ.out⟩ (fun hH2 => ?_)
                  clear hK K
                  try simp only [List.setIfInBounds_toArray, List.set_cons_zero, List.set_cons_succ]
                  refine wpAnyH_take (i := 18 ) (v := ?_) rfl (by kernel_rfl) (by kernel_rfl) (by kernel_rfl) (fun _ _ _ h => h) (Or.inl ⟨by rfl, ?_⟩) (by assumption) ?_; rotate_left; (· (intro w0 hSw; obtain ⟨x0, x1, x2, x3, y0, z0⟩ := hSw; go_simp); first | done | with_reducible rfl); (try simp only [Act.put, List.getElem_toArray, List.getElem_cons_succ, List.getElem_cons_zero, List.setIfInBounds_toArray, List.set_cons_zero, List.set_cons_succ])
                  refine wpAnyH_take (i := 19 ) (v := ?_) rfl (by kernel_rfl) (by kernel_rfl) (by kernel_rfl) (fun _ _ _ h => h) (Or.inl ⟨by rfl, ?_⟩) (by assumption) ?_; rotate_left; (· (intro w0 hSw; obtain ⟨x0, x1, x2, x3, y0, z0⟩ := hSw; go_simp); first | done | with_reducible rfl); (try simp only [Act.put, List.getElem_toArray, List.getElem_cons_succ, List.getElem_cons_zero, List.setIfInBounds_toArray, List.set_cons_zero, List.set_cons_succ])
                  refine wpAnyH_take (i := 20 ) (v := ?_) rfl (by kernel_rfl) (by kernel_rfl) (by kernel_rfl) (fun _ _ _ h => h) (Or.inl ⟨by rfl, ?_⟩) (by assumption) ?_; rotate_left; (· (intro w0 hSw; obtain ⟨x0, x1, x2, x3, y0, z0⟩ := hSw; go_simp); first | done | with_reducible rfl); (try simp only [Act.put, List.getElem_toArray, List.getElem_cons_succ, List.getElem_cons_zero, List.setIfInBounds_toArray, List.set_cons_zero, List.set_cons_succ])
                  refine wpAnyH_done (by kernel_rfl) ?_ _
                  by_cases hcc : cx < cy
                  · go_wp2_with fail
                    go_roundw
                    case rel => exact ⟨k + 1, by omega, by go_num, HRL.out _ (by rw [if_pos hcc]), HS⟩
                    case measure => simp [intOf]; omega
                  · go_wp2_with fail
                    go_roundw
                    case rel => exact ⟨k + 1, by omega, by go_num, HRL.out _ (by rw [if_neg hcc]), HS⟩
                    case measure => simp [intOf]; omega
                exact AllReadyH.nil
              exact AllReadyH.nil
        · obtain rfl : O.length = k := by omega
          have hlt' : ¬ (O.length : Int) < O.length := by omega
          have HT := Lib.hid HPK.out
          rw [List.take_length] at HBV
          rw [HPK.out.1] at HBV
          cases hg : (bestOf p l s0).good with
          | false =>
            rw [hg] at HBV HR
            obtain ⟨rfl, rfl, rfl⟩ := HR.out
            rcases HBV with ⟨-, rfl⟩ | ⟨q, hq, hac, -⟩
            · have HB := Lib.hid HS.out.hb
              clear HR HS HT HPK hg
              go_wp2_with fail
              exact bodyPost_ret (v := .tuple #[.slice none 0 0, .int .i64 0, .int .i64 4]) (by simp [results, Try.results28, go_sem]) rfl ⟨none, 0, rfl, World.ownsRow_nil _ _ _ _, HB.out⟩
            · simp at hac
          | true =>
            have HR2 : o1 = (bestOf p l s0).plan ∧ o2 = (bestOf p l s0).cost ∧ o3 = 0 := by
              have h9 := HR.out
              rw [hg] at h9
              exact h9
            rw [hg] at HBV
            obtain ⟨rfl, rfl, rfl⟩ := HR2
            rcases HBV with ⟨hac, -⟩ | ⟨q, hq, hac, rfl⟩
            · simp at hac
            · simp only [if_true, Option.some.injEq] at hac
              have hq0 : (0 : Int) ≤ q := by omega
              have hq1 : (q : Int) < O.length := by omega
              have hq2 : decide ((q : Int) < 0) = false := decide_eq_false (by omega)
              obtain ⟨Aj, cj, g, hAq, hpj, hcj⟩ := HS.out.one hq
              have HCQ := Lib.hid fun W => HCO.out W O[q] Aj cj (List.getElem_mem hq)
              have HCC := Lib.hid (HPK.out.2 hg)
              rw [hac] at HCC
              have HAC := Lib.hid hac
              have HPJ := Lib.hid hpj
              have HCJ := Lib.hid hcj
              generalize O[q] = y at HCQ HPJ HCJ HAC HCC
              generalize costG p.change none y = cy at HCQ HCC
              subst hAq
              clear hac hpj hcj HR HT HPK hg hlt hlt'
              have x0 := HS.out.bq.cell 0; have x1 := HS.out.bq.cell 1; have x2 := HS.out.bq.cell 2; have x3 := HS.out.bq.cell 3
              go_upto_region 15 with fail
              clear x0 x1 x2 x3
              replace HS := Lib.hid (HS.out.call (Below.refl _ _).drew)
              replace HPJ := Lib.hid (HPJ.out.below (Below.refl _ _).drew)
              replace HCJ := Lib.hid (drew_cell7 HCJ.out)
              refine wp_region_held_drew (S := fun W => W.cell? ⟨w.heap.size, 0, none⟩ = some (.slice A p.dies.length c) ∧ W.cell? ⟨w.heap.size, 1, none⟩ = some (.int .i64 p.shrink.lo) ∧ W.cell? ⟨w.heap.size, 2, none⟩ = some (.int .i64 p.shrink.hi) ∧ W.cell? ⟨w.heap.size, 3, none⟩ = some (.int .i64 p.change) ∧ W.cell? ⟨g, q, none⟩ = some (.slice Aj y.length cj)) (by kernel_rfl) ⟨HS.out.bq.cell 0, HS.out.bq.cell 1, HS.out.bq.cell 2, HS.out.bq.cell 3, HCJ.out⟩ (fun hH0 => ?_)
              generalize World.drew _ = V0 at *
              simp only [List.size_toArray, List.length_cons, List.length_nil, Nat.reduceAdd, Array.replicate_succ, Array.replicate_zero, List.push_toArray, List.nil_append, List.cons_append]
              refine wpAnyH_take (i := 0 ) (v := ?_) rfl (by kernel_rfl) (by kernel_rfl) (by kernel_rfl) (fun _ _ _ h => h) (Or.inl ⟨by rfl, ?_⟩) (by assumption) ?_; rotate_left; (· (intro w0 hSw; obtain ⟨x0, x1, x2, x3, y0⟩ := hSw; go_simp); first | done | with_reducible rfl); (try simp only [Act.put, List.getElem_toArray, List.getElem_cons_zero, List.setIfInBounds_toArray, List.set_cons_zero, List.set_cons_succ])
              refine wpAnyH_take (i := 1 ) (v := ?_) rfl (by kernel_rfl) (by kernel_rfl) (by kernel_rfl) (fun _ _ _ h => h) (Or.inl ⟨by rfl, ?_⟩) (by assumption) ?_; rotate_left; (· (intro w0 hSw; obtain ⟨x0, x1, x2, x3, y0⟩ := hSw; go_simp); first | done | with_reducible rfl); (try simp only [Act.put, List.getElem_toArray, List.getElem_cons_succ, List.getElem_cons_zero, List.setIfInBounds_toArray, List.set_cons_zero, List.set_cons_succ])
              refine wpAnyH_take (i := 2 ) (v := ?_) rfl (by kernel_rfl) (by kernel_rfl) (by kernel_rfl) (fun _ _ _ h => h) (Or.inl ⟨by rfl, ?_⟩) (by assumption) ?_; rotate_left; (· (intro w0 hSw; obtain ⟨x0, x1, x2, x3, y0⟩ := hSw; go_simp); first | done | with_reducible rfl); (try simp only [Act.put, List.getElem_toArray, List.getElem_cons_succ, List.getElem_cons_zero, List.setIfInBounds_toArray, List.set_cons_zero, List.set_cons_succ])
              refine wpAnyH_take (i := 3 ) (v := ?_) rfl (by kernel_rfl) (by kernel_rfl) (by kernel_rfl) (fun _ _ _ h => h) (Or.inl ⟨by rfl, ?_⟩) (by assumption) ?_; rotate_left; (· (intro w0 hSw; obtain ⟨x0, x1, x2, x3, y0⟩ := hSw; go_simp); first | done | with_reducible rfl); (try simp only [Act.put, List.getElem_toArray, List.getElem_cons_succ, List.getElem_cons_zero, List.setIfInBounds_toArray, List.set_cons_zero, List.set_cons_succ])
              refine wpAnyH_take (i := 4 ) (v := ?_) rfl (by kernel_rfl) (by kernel_rfl) (by kernel_rfl) (fun _ _ _ h => h) (Or.inl ⟨by rfl, ?_⟩) (by assumption) ?_; rotate_left; (· (intro w0 hSw; obtain ⟨x0, x1, x2, x3, y0⟩ := hSw; go_simp); first | done | with_reducible rfl); (try simp only [Act.put, List.getElem_toArray, List.getElem_cons_succ, List.getElem_cons_zero, List.setIfInBounds_toArray, List.set_cons_zero, List.set_cons_succ])
              refine wpAnyH_take (i := 5 ) (v := ?_) rfl (by kernel_rfl) (by kernel_rfl) (by kernel_rfl) (fun _ _ _ h => h) (Or.inl ⟨by rfl, ?_⟩) (by assumption) ?_; rotate_left; (· (intro w0 hSw; obtain ⟨x0, x1, x2, x3, y0⟩ := hSw; go_simp); first | done | with_reducible rfl); (try simp only [Act.put, List.getElem_toArray, List.getElem_cons_succ, List.getElem_cons_zero, List.setIfInBounds_toArray, List.set_cons_zero, List.set_cons_succ])
              refine wpAnyH_take (i := 6 ) (v := ?_) rfl (by kernel_rfl) (by kernel_rfl) (by kernel_rfl) (fun _ _ _ h => h) (Or.inl ⟨by rfl, ?_⟩) (by assumption) ?_; rotate_left; (· (intro w0 hSw; obtain ⟨x0, x1, x2, x3, y0⟩ := hSw; go_simp); first | done | with_reducible rfl); (try simp only [Act.put, List.getElem_toArray, List.getElem_cons_succ, List.getElem_cons_zero, List.setIfInBounds_toArray, List.set_cons_zero, List.set_cons_succ])
              refine wpAnyH_take (i := 7 ) (v := ?_) rfl (by kernel_rfl) (by kernel_rfl) (by kernel_rfl) (fun _ _ _ h => h) (Or.inl ⟨by rfl, ?_⟩) (by assumption) ?_; rotate_left; (· (intro w0 hSw; obtain ⟨x0, x1, x2, x3, y0⟩ := hSw; go_simp); first | done | with_reducible rfl); (try simp only [Act.put, List.getElem_toArray, List.getElem_cons_succ, List.getElem_cons_zero, List.setIfInBounds_toArray, List.set_cons_zero, List.set_cons_succ])
              refine wpAnyH_take (i := 8 ) (v := ?_) rfl (by kernel_rfl) (by kernel_rfl) (by kernel_rfl) (fun _ _ _ h => h) (Or.inl ⟨by rfl, ?_⟩) (by assumption) ?_; rotate_left; (· (intro w0 hSw; obtain ⟨x0, x1, x2, x3, y0⟩ := hSw; go_simp); first | done | with_reducible rfl); (try simp only [Act.put, List.getElem_toArray, List.getElem_cons_succ, List.getElem_cons_zero, List.setIfInBounds_toArray, List.set_cons_zero, List.set_cons_succ])
              refine wpAnyH_ready (rs := [9]) (by kernel_rfl) (by simp) ?_
              refine AllReadyH.cons (by simp only [List.getElem?_toArray, List.getElem?_cons_succ, List.getElem?_cons_zero]; rfl) (fun K hK => ?_) AllReadyH.nil
              go_simp
              refine (HCQ.out _ HPJ.out).mono ?_
              rintro e V10 ⟨rfl, hb⟩
              replace HS := Lib.hid (HS.out.call hb)
              replace HPJ := Lib.hid (HPJ.out.below hb)
              replace HCJ := Lib.hid ((hb.cell (World.block_lt_of_cell? _ _ HCJ.out)).trans HCJ.out)
              clear hb
              refine hK.out _ _ ⟨HS.out.bq.cell 0, HS.out.bq.cell 1, HS.out.bq.cell 2, HS.out.bq.cell 3, HCJ.out⟩ (fun hH1 => ?_)
              clear hK K
              try simp only [List.setIfInBounds_toArray, List.set_cons_zero, List.set_cons_succ]
              refine wpAnyH_take (i := 10 ) (v := ?_) rfl (by kernel_rfl) (by kernel_rfl) (by kernel_rfl) (fun _ _ _ h => h) (Or.inl ⟨by rfl, ?_⟩) (by assumption) ?_; rotate_left; (· (intro w0 hSw; obtain ⟨x0, x1, x2, x3, y0⟩ := hSw; go_simp); first | done | with_reducible rfl); (try simp only [Act.put, List.getElem_toArray, List.getElem_cons_succ, List.getElem_cons_zero, List.setIfInBounds_toArray, List.set_cons_zero, List.set_cons_succ])
              refine wpAnyH_take (i := 11 ) (v := ?_) rfl (by kernel_rfl) (by kernel_rfl) (by kernel_rfl) (fun _ _ _ h => h) (Or.inl ⟨by rfl, ?_⟩) (by assumption) ?_; rotate_left; (· (intro w0 hSw; obtain ⟨x0, x1, x2, x3, y0⟩ := hSw; go_simp); first | done | with_reducible rfl); (try simp only [Act.put, List.getElem_toArray, List.getElem_cons_succ, List.getElem_cons_zero, List.setIfInBounds_toArray, List.set_cons_zero, List.set_cons_succ])
              refine wpAnyH_take (i := 12 ) (v := ?_) rfl (by kernel_rfl) (by kernel_rfl) (by kernel_rfl) (fun _ _ _ h => h) (Or.inl ⟨by rfl, ?_⟩) (by assumption) ?_; rotate_left; (· (intro w0 hSw; obtain ⟨x0, x1, x2, x3, y0⟩ := hSw; go_simp); first | done | with_reducible rfl); (try simp only [Act.put, List.getElem_toArray, List.getElem_cons_succ, List.getElem_cons_zero, List.setIfInBounds_toArray, List.set_cons_zero, List.set_cons_succ])
              refine wpAnyH_done (by kernel_rfl) ?_ _
              go_wp2_with fail
              refine bodyPost_ret (v := .tuple #[.slice Aj y.length cj, .int .i64 cy, .int .i64 0]) (by simp [results, Try.results28, go_sem]) rfl ?_
              rw [HAC.out, ← HCC.out]
              exact ⟨Aj, cj, rfl, HPJ.out, HS.out.hb⟩
end Go.Proofs.Ytdadgljllnkppaa