/- Walks: assign. -/
import Derived.Test.YtngoagfkcjkeoaaAc
import Derived.Test.YtngoagfkcjkeoaaLv
namespace Go.Proofs.Ytngoagfkcjkeoaa
open Go.RowKit Go.Shelf

structure AsW (w : World) (r m gt : Nat) (cf : Nat → Int × Int) (L : List Int) (W : World) : Prop where
  hb : Below w.heap.size w W
  k4 : Blk W w.heap.size 89 (intsV9 L).toArray
  k5 : Blk W gt 73 #[.int .i64 (m : Int), .map (some r)]
  tab : TabAt W r m cf
section
variable {w : World} {r m gt : Nat} {cf cf' : Nat → Int × Int} {L : List Int} {W W' : World}
theorem AsW.call (h : AsW w r m gt cf L W) (hb : Below W.heap.size W W') : AsW w r m gt cf L W' := ⟨h.hb.trans (hb.mono h.hb.size), h.k4.below hb h.k4.lt, h.k5.below hb h.k5.lt, h.tab.below hb h.tab.lt⟩
theorem AsW.sell (h : AsW w r m gt cf L W) (hg : W.grownBy W' (some r)) (hT : TabAt W' r m cf') (hr : w.heap.size < r) (hr2 : r < gt) : AsW w r m gt cf' L W' :=
  ⟨⟨hg.os.trans h.hb.os, hg.tape.trans h.hb.tape, hg.output.trans h.hb.output, Nat.le_trans h.hb.size hg.size, fun i hi => (hg.block i (Nat.lt_of_lt_of_le hi h.hb.size) (fun e => by have := Option.some.inj e; omega)).trans (h.hb.block i hi)⟩,
    h.k4.kept hg (fun e => by have := Option.some.inj e; omega), h.k5.kept hg (fun e => by have := Option.some.inj e; omega), hT⟩
theorem intsV9_set (L : List Int) (k : Nat) (x : Int) : (intsV9 L).toArray.setIfInBounds k (.int .i64 x) = (intsV9 (L.set k x)).toArray := by
  unfold intsV9
  rw [List.setIfInBounds_toArray, List.map_set]
theorem AsW.put (h : AsW w r m gt cf L W) (k : Nat) (x : Int) (hr : w.heap.size < r) (hr2 : r < gt) : AsW w r m gt cf (L.set k x) (W.setCell ⟨w.heap.size, k, none⟩ (.int .i64 x)) :=
  ⟨h.hb.setCell (p := ⟨w.heap.size, k, none⟩) (Nat.le_refl _) _, by have := h.k4.set_ k (.int .i64 x); rwa [intsV9_set] at this, h.k5.far (by simp only []; omega) _, MapI.set h.tab _ _ (by simp only []; omega)⟩
theorem AsW.far (h : AsW w r m gt cf L W) {g : Nat} (hg : gt < g) (hr : w.heap.size < r) (hr2 : r < gt) (o : Nat) (v : Value) : AsW w r m gt cf L (W.setCell ⟨g, o, none⟩ v) :=
  ⟨h.hb.setCell (p := ⟨g, o, none⟩) (by simp only []; omega) _, h.k4.far (by simp only []; omega) _, h.k5.far (by simp only []; omega) _, MapI.set h.tab _ _ (by simp only []; omega)⟩
theorem AsW.zero (h : AsW w r m gt cf L W) (hl : L.length = 64) {k : Nat} (hk : k < 64) : W.cell? ⟨w.heap.size, k, none⟩ = some (.int .i64 (L[k]'(by omega))) := by
  rw [h.k4.cell]
  unfold intsV9
  simp [hl, hk]
end
def begL : List Int := List.replicate 64 0
/-- The whole assignment. -/
def asgT (need : List Int) (l : List Pile) : AsSt := pileQ need.length l 0 ⟨cfOf need l, 0, begL⟩
def RetAs (need : List Int) (l : List Pile) (w : World) (e : Ending) (w' : World) : Prop := e = .returned (.agg (intsV9 (asgT need l).L).toArray) ∧ Below w.heap.size w w'
theorem beg_as {need : List Int} {l : List Pile} (hn : ∀ n ∈ need, 0 ≤ n ∧ n ≤ 50331648) (h8 : need.length ≤ 8) (hl : PilesIn l) : AsIn need.length 0 ⟨cfOf need l, 0, begL⟩ := by
  refine ⟨fun s => ?_, fun q hq => ?_, ⟨Int.le_refl _, by show (0 : Int) ≤ 1048576; omega⟩, by simp [begL]⟩
  · have h1 := has_bd9 hl s
    have h2 := needF_bdM 50331648 need s 0 hn
    simp only [cfOf, needS] at *
    omega
  · exact (needF_bdM 50331648 need (2 ^ q) 0 hn).1
set_option maxRecDepth 100000 in
set_option maxHeartbeats 8000000 in
theorem assign_any (w : World) (A B : Option Addr) (c d : Nat) (need : List Int) (l : List Pile) (h8 : need.length ≤ 8) (hn : ∀ n ∈ need, 0 ≤ n ∧ n ≤ 50331648) (hl : PilesIn l) (hA : IntSl w w.heap.size A need) (hB : PileSl w w.heap.size B l) :
    Calls Try.prog 47 #[.slice A need.length c, .slice B l.length d] w (RetAs need l w) := by
  have HBEG := Lib.hid (beg_as hn h8 hl)
  have hb0 : Below w.heap.size w (w.alloc (.cells (intsV9 begL).toArray 89)) := (Below.refl _ _).alloc (Nat.le_refl _) _
  have HK0 := Lib.hid (And.intro hb0 (Blk.new w 89 (intsV9 begL).toArray))
  have HTA := Lib.hid (tallyOfR_any _ A B c d need l ⟨h8, fun n h => ⟨(hn n h).1, by have := (hn n h).2; omega⟩⟩ hl (hA.on hb0 (Nat.le_refl _)) (hB.on hb0 (Nat.le_refl _)))
  have HB := Lib.hid hB
  have HPI := Lib.hid hl
  have hl8 := hl.1
  have hm0 : (0 : Int) ≤ need.length := by omega
  have hm1 : (need.length : Int) ≤ 8 := by omega
  have hll : (l.length : Int) ≤ 8 := by omega
  obtain ⟨stK, hstK⟩ : ∃ f : Nat → AsSt, ∀ k, f k = pileQ need.length (l.take k) 0 ⟨cfOf need l, 0, begL⟩ := ⟨_, fun _ => rfl⟩
  have HIN : Hid (∀ k ≤ l.length, AsIn need.length (8 * k) (stK k)) := Lib.hid fun k hk => by
    have := pile_in h8 (l.take k) 0 0 _ (fun p hp => (hl.2 p (List.mem_of_mem_take hp)).2) HBEG.out
    rw [List.length_take, Nat.min_eq_left hk, Nat.zero_add] at this
    rw [hstK]; exact this
  have HNX : Hid (∀ k (h : k < l.length), stK (k + 1) = rowQ need.length k l[k].shades.toNat need.length (begQ l[k] (stK k))) := Lib.hid fun k h => by rw [hstK, hstK, pileQ_next _ _ _ _ h]
  have HK00 : Hid (stK 0 = ⟨cfOf need l, 0, begL⟩) := Lib.hid (hstK 0)
  have HKE : Hid (stK l.length = asgT need l) := Lib.hid (by rw [hstK, List.take_length]; rfl)
  clear hA hB hb0 hn hl hstK
  obtain ⟨w0, hw0⟩ : ∃ w0, w0 = w.alloc (.cells (intsV9 begL).toArray 89) := ⟨_, rfl⟩
  have hz0 : w0.heap.size = w.heap.size + 1 := by rw [hw0]; simp
  rw [← hw0] at HK0 HTA
  go_enter Try.func47, Try.ntmps47
  go_upto_region 1 with fail
  generalize hw9 : World.alloc w _ = w9
  obtain rfl : w9 = w0 := by rw [← hw9, hw0]; rfl
  clear hw9 hw0
  go_wp2_with fail
  refine HTA.out.mono ?_
  rintro e w1 ⟨r, rfl, hT, hb1, hr⟩
  have hb2 : Below w1.heap.size w1 (w1.alloc (.cells #[.int .i64 (need.length : Int), .map (some r)] 73)) := (Below.refl _ _).alloc (Nat.le_refl _) _
  have HS0 : Hid (AsW w r need.length w1.heap.size (stK 0).cf (stK 0).L (w1.alloc (.cells #[.int .i64 (need.length : Int), .map (some r)] 73))) := Lib.hid (by
    rw [HK00.out]
    exact ⟨(HK0.out.1.trans (hb1.mono HK0.out.1.size)).trans (hb2.mono (Nat.le_trans HK0.out.1.size hb1.size)), (HK0.out.2.below hb1 HK0.out.2.lt).alloc _, Blk.new _ _ _, hT.below hb2 hT.lt⟩)
  have hrg := hT.lt
  have hwr : w.heap.size < r := by omega
  clear hT hb1 hb2 HTA HK0 hr HK00
  go_wp2_with fail
  generalize World.alloc w1 _ = w2 at *
  generalize w1.heap.size = gt at *
  go_loopw [16] (fun i wr => ∃ k : Nat, k ≤ l.length ∧ i = .int .i64 k ∧ Hid (AsW w r need.length gt (stK k).cf (stK k).L wr)) (fun i _ => l.length - (intOf i).toNat)
  case atStart => exact ⟨0, by omega, rfl, HS0⟩
  case round =>
    obtain ⟨k, hk, rfl, HS⟩ := hrel
    by_cases hlt : k < l.length
    · obtain ⟨g, off, rfl, hg, hat⟩ := HB.out (by intro e; rw [e] at hlt; simp at hlt)
      obtain ⟨x0, x1⟩ := hat k hlt
      rw [← HS.out.hb.cell (p := ⟨g, _, none⟩) hg] at x0 x1
      obtain ⟨⟨q0, q1⟩, q2, q3⟩ := HPI.out.2 l[k] (List.getElem_mem hlt)
      obtain ⟨o, ho⟩ : ∃ o : Nat, l[k].shades = (o : Int) := ⟨l[k].shades.toNat, by omega⟩
      have ho8 : o < 256 := by omega
      obtain ⟨stR, hstR⟩ : ∃ f : Nat → AsSt, ∀ j, f j = rowQ need.length k o j (begQ l[k] (stK k)) := ⟨_, fun _ => rfl⟩
      have HJI : Hid (∀ j ≤ need.length, AsIn need.length (8 * k + j) (stR j)) := Lib.hid fun j hj => by
        rw [hstR]; exact row_in (beg_in (HIN.out k hk) ⟨q2, q3⟩) j hj
      have HJN : Hid (∀ j, stR (j + 1) = stepQ need.length k o (stR j) j) := Lib.hid fun j => by rw [hstR, hstR, rowQ_next]
      have HJ0 : Hid (stR 0 = ⟨(stK k).cf, l[k].many, (stK k).L⟩) := Lib.hid (hstR 0)
      have HJE : Hid (stR need.length = stK (k + 1)) := Lib.hid (by rw [hstR, HNX.out k hlt, ho, Int.toNat_natCast])
      rw [ho] at x0
      generalize l[k].many = mn at *
      clear hstR ho q0 q1 hat
      have hki : (k : Int) < l.length := by omega
      have hk0 : (0 : Int) ≤ k := by omega
      have hk8 : k < 8 := by omega
      have hb3 : Below wr.heap.size wr (wr.alloc (.cells #[.int .i64 (o : Int), .int .i64 mn] 46)) := (Below.refl _ _).alloc (Nat.le_refl _) _
      have hgt := HS.out.k5.lt
      have HW0 : Hid (AsW w r need.length gt (stR 0).cf (stR 0).L (wr.alloc (.cells #[.int .i64 (o : Int), .int .i64 mn] 46)) ∧ Blk (wr.alloc (.cells #[.int .i64 (o : Int), .int .i64 mn] 46)) wr.heap.size 46 #[.int .i64 (o : Int), .int .i64 (stR 0).many]) := Lib.hid (by
        rw [HJ0.out]
        exact ⟨HS.out.call hb3, Blk.new _ _ _⟩)
      clear hb3 HS HJ0
      go_wp2_with fail
      generalize World.alloc wr _ = w3 at *
      generalize wr.heap.size = g7 at *
      have HWS : Hid (∀ (U : World) (q : Nat), AsW w r need.length gt (stR q).cf (stR q).L U → Blk U g7 46 #[.int .i64 (o : Int), .int .i64 (stR q).many] → True) := Lib.hid fun _ _ _ _ => trivial
      clear HWS x0 x1 q2 q3 hg
      go_loopw [23] (fun i U => ∃ q : Nat, q ≤ need.length ∧ i = .int .i64 q ∧ Hid (AsW w r need.length gt (stR q).cf (stR q).L U ∧ Blk U g7 46 #[.int .i64 (o : Int), .int .i64 (stR q).many])) (fun i _ => need.length - (intOf i).toNat)
      case atStart => exact ⟨0, by omega, rfl, HW0⟩
      case round =>
        obtain ⟨q, hq, rfl, HW⟩ := hrel
        by_cases hq1 : q < need.length
        · have hqi : (q : Int) < need.length := by omega
          have hq0 : (0 : Int) ≤ q := by omega
          have hq8 : q < 8 := by omega
          have hq9 : (q : Int) < 8 := by omega
          have c70 := HW.out.2.cell 0
          have hb7 : Below wr.heap.size wr ((wr.alloc (.cells #[.int .i64 (q : Int)] 3)).alloc (.cells #[.int .i64 (o : Int), .int .i64 (q : Int), .int .i64 0] 114)) := by repeat (first | exact Below.refl _ _ | assumption | refine Below.drew ?_ | refine Below.alloc ?_ (by first | omega | (simp only [World.size_alloc]; omega) | simp) _ | refine Below.setCell ?_ (by first | omega | (simp only [World.size_alloc]; omega) | simp) _)
          have hg7 := HW.out.2.lt
          have K8 : Blk ((wr.alloc (.cells #[.int .i64 (q : Int)] 3)).alloc (.cells #[.int .i64 (o : Int), .int .i64 (q : Int), .int .i64 0] 114)) wr.heap.size 3 #[.int .i64 (q : Int)] := (Blk.new _ _ _).alloc _
          have K9 : Blk ((wr.alloc (.cells #[.int .i64 (q : Int)] 3)).alloc (.cells #[.int .i64 (o : Int), .int .i64 (q : Int), .int .i64 0] 114)) (wr.heap.size + 1) 114 #[.int .i64 (o : Int), .int .i64 (q : Int), .int .i64 0] := blk9 _ _ (by simp)
          have HW1 := Lib.hid (And.intro (HW.out.1.call hb7) (And.intro (HW.out.2.below hb7 hg7) (And.intro K8 K9)))
          clear hb7 K8 K9 HW
          go_wp2_with fail
          refine (holds_any o q _ ho8 hq8).mono ?_
          rintro e U1 ⟨rfl, rfl⟩
          generalize World.alloc (World.alloc wr _) _ = U1 at *
          generalize wr.heap.size = gs at *
          clear c70
          cases hb : o.testBit q with
          | false =>
            have HE : Hid (stR (q + 1) = stR q) := Lib.hid (by rw [HJN.out]; unfold stepQ; rw [if_neg (by rw [hb]; simp)])
            clear hb
            go_wp2_with fail
            go_roundw
            case rel => exact ⟨q + 1, by omega, by go_num, Lib.hid (by rw [HE.out]; exact ⟨HW1.out.1, HW1.out.2.1⟩)⟩
            case measure => exact meas9 hq1
          | true =>
            have HIq := HJI.out q (by omega)
            obtain ⟨m0, m1, hG⟩ := take_in (o := o) HIq hq1
            have hEQ := HJN.out q
            have hmany := HIq.many
            have hlen := HIq.len
            have hcm := HIq.bd
            unfold stepQ at hEQ
            rw [if_pos hb] at hEQ
            obtain ⟨⟨p0, p1⟩, -, -⟩ := hG
            have hcap : (if ((stR q).cf (2 ^ q)).2 < (stR q).many then ((stR q).cf (2 ^ q)).2 else (stR q).many) = capQ q (stR q) := by unfold capQ; split <;> omega
            have hle : capQ q (stR q) ≤ (stR q).many := Int.min_le_left _ _
            have HPQ := Lib.hid (fun r h => great_uniq (r := r) h (take_in (o := o) HIq hq1).2.2)
            have HANT : Hid (∀ i j : Int, 0 ≤ i → i ≤ j → j ≤ capQ q (stR q) → canSellC (stR q).cf need.length o q j = true → canSellC (stR q).cf need.length o q i = true) := Lib.hid fun i j _ hij _ h => sell_anti _ _ _ _ hij h
            have HEQ := Lib.hid hEQ
            have HCM : Hid (CountIn (stR q).cf ∧ CountM 500000000 (stR q).cf) := Lib.hid ⟨fun s => by have := hcm s; omega, fun s => by have := hcm s; omega⟩
            clear hEQ HIq hcm
            generalize takeQ need.length o q (stR q) = p at *
            generalize capQ q (stR q) = cap at *
            generalize hst : stR q = st at *
            obtain ⟨cf, mn', L⟩ := st
            dsimp only at *
            clear hst
            have hkq : k * 8 + q < 64 := by omega
            have hk9 : (k : Int) < 8 := by omega
            have h1q : 1 ≤ 2 ^ q := Nat.one_le_two_pow
            have h2q : 2 ^ q < 2 ^ need.length := Nat.pow_lt_pow_right (by omega) hq1
            have hg9 := HW1.out.2.2.2.lt
            have HRD : Hid (∀ W9 : World, Below U1.heap.size U1 W9 → W9.cell? ⟨gt, 1, none⟩ = some (.map (some r)) ∧ W9.cell? ⟨gs, 0, none⟩ = some (.int .i64 (q : Int)) ∧ (Instr.lookup 71 (.map (some r)) (.int .i64 ((2 : Int) ^ q)) false).run Try.prog W9 = .ok (.agg #[.int .i64 (cf (2 ^ q)).1, .int .i64 (cf (2 ^ q)).2]) W9) := Lib.hid fun W9 h9 => by
              have hA := HW1.out.1.call h9
              have hlk := hA.tab.look h1q h2q
              rw [show ((2 ^ q : Nat) : Int) = (2 : Int) ^ q by simp] at hlk
              exact ⟨hA.k5.cell 1, (HW1.out.2.2.1.below h9 HW1.out.2.2.1.lt).cell 0, hlk⟩
            have HD := Lib.hid ((Below.refl U1.heap.size U1).drew)
            generalize (cf (2 ^ q)).2 = op at *
            have hfd : ∀ (a b : Int) (w0 : World), (Instr.field 112 (.agg #[.int .i64 a, .int .i64 b]) 1).run Try.prog w0 = .ok (.int .i64 b) w0 := fun a b w0 => by kernel_rfl
            go_upto_region 10 with fail
            refine wp_region_held_drew (S := fun W9 => Below U1.heap.size U1 W9) (by kernel_rfl) HD.out (fun hH0 => ?_)
            generalize World.drew _ = V0 at *
            simp only [List.size_toArray, List.length_cons, List.length_nil, Nat.reduceAdd, Array.replicate_succ, Array.replicate_zero, List.push_toArray, List.nil_append, List.cons_append]
            refine wpAnyH_take (i := 0 ) (v := ?_) rfl (by kernel_rfl) (by kernel_rfl) (by kernel_rfl) (fun _ _ _ h => h) (Or.inl ⟨by rfl, ?_⟩) (by assumption) ?_; rotate_left; (· (intro w0 hSw; obtain ⟨y0, y1, y2⟩ := HRD.out _ hSw; clear hSw; go_simp); first | done | with_reducible rfl); (try simp only [Act.put, List.getElem_toArray, List.getElem_cons_zero, List.setIfInBounds_toArray, List.set_cons_zero, List.set_cons_succ])
            refine wpAnyH_take (i := 1 ) (v := ?_) rfl (by kernel_rfl) (by kernel_rfl) (by kernel_rfl) (fun _ _ _ h => h) (Or.inl ⟨by rfl, ?_⟩) (by assumption) ?_; rotate_left; (· (intro w0 hSw; obtain ⟨y0, y1, y2⟩ := HRD.out _ hSw; clear hSw; go_simp); first | done | with_reducible rfl); (try simp only [Act.put, List.getElem_toArray, List.getElem_cons_succ, List.getElem_cons_zero, List.setIfInBounds_toArray, List.set_cons_zero, List.set_cons_succ])
            refine wpAnyH_take (i := 2 ) (v := ?_) rfl (by kernel_rfl) (by kernel_rfl) (by kernel_rfl) (fun _ _ _ h => h) (Or.inl ⟨by rfl, ?_⟩) (by assumption) ?_; rotate_left; (· (intro w0 hSw; obtain ⟨y0, y1, y2⟩ := HRD.out _ hSw; clear hSw; go_simp); first | done | with_reducible rfl); (try simp only [Act.put, List.getElem_toArray, List.getElem_cons_succ, List.getElem_cons_zero, List.setIfInBounds_toArray, List.set_cons_zero, List.set_cons_succ])
            refine wpAnyH_ready (rs := [3]) (by kernel_rfl) (by simp) ?_
            refine AllReadyH.cons (by simp only [List.getElem?_toArray, List.getElem?_cons_succ, List.getElem?_cons_zero]; rfl) (fun K hK => ?_) AllReadyH.nil
            go_simp
            refine (only_any q _ hq8).mono ?_
            rintro e X9 ⟨rfl, rfl⟩
            refine hK.out _ _ HD.out (fun hH1 => ?_)
            clear hK K
            try simp only [List.setIfInBounds_toArray, List.set_cons_zero, List.set_cons_succ]
            refine wpAnyH_take (i := 4 ) (v := ?_) rfl (by kernel_rfl) (by kernel_rfl) (by kernel_rfl) (fun _ _ _ h => h) (Or.inl ⟨by rfl, ?_⟩) (by assumption) ?_; rotate_left; (· (intro w0 hSw; obtain ⟨y0, y1, y2⟩ := HRD.out _ hSw; clear hSw; go_simp); first | done | with_reducible rfl); (try simp only [Act.put, List.getElem_toArray, List.getElem_cons_succ, List.getElem_cons_zero, List.setIfInBounds_toArray, List.set_cons_zero, List.set_cons_succ])
            refine wpAnyH_take (i := 5 ) (v := ?_) rfl (by kernel_rfl) (by kernel_rfl) (by kernel_rfl) (fun _ _ _ h => h) (Or.inl ⟨by rfl, ?_⟩) (by assumption) ?_; rotate_left; (· (intro w0 hSw; obtain ⟨y0, y1, y2⟩ := HRD.out _ hSw; clear hSw; go_simp); first | done | with_reducible rfl); (try simp only [Act.put, List.getElem_toArray, List.getElem_cons_succ, List.getElem_cons_zero, List.setIfInBounds_toArray, List.set_cons_zero, List.set_cons_succ])
            refine wpAnyH_take (i := 6 ) (v := ?_) rfl (by kernel_rfl) (by kernel_rfl) (by kernel_rfl) (fun _ _ _ h => h) (Or.inl ⟨by rfl, ?_⟩) (by assumption) ?_; rotate_left; (· (intro w0 hSw; obtain ⟨y0, y1, y2⟩ := HRD.out _ hSw; clear hSw; go_simp); first | done | with_reducible rfl); (try simp only [Act.put, List.getElem_toArray, List.getElem_cons_succ, List.getElem_cons_zero, List.setIfInBounds_toArray, List.set_cons_zero, List.set_cons_succ])
            refine wpAnyH_done (by kernel_rfl) ?_ _
            have HW2 := Lib.hid (And.intro (HW1.out.1.call HD.out) (And.intro (HW1.out.2.1.below HD.out HW1.out.2.1.lt) (And.intro (HW1.out.2.2.1.below HD.out HW1.out.2.2.1.lt) (HW1.out.2.2.2.below HD.out HW1.out.2.2.2.lt))))
            clear HRD HW1 hfd
            have c71 := HW2.out.2.1.cell 1
            have HIC : Hid (IsCan V0 V0.heap.size (.func (.func 66) #[] #[.pointer (some ⟨gt, 0, none⟩), .pointer (some ⟨gs + 1, 0, none⟩), .pointer (some ⟨gs, 0, none⟩)]) cap (canSellC cf need.length o q)) := Lib.hid (by
              refine ⟨66, #[], _, rfl, enters_of Try.func66 (by kernel_rfl) rfl, fun W i hW h0 hM => ?_⟩
              have hA := HW2.out.1.call hW
              exact assign1_any W gt (gs + 1) gs r need.length o q cf i h8 ho8 hq8 hA.tab HCM.out.1 ⟨by omega, by omega⟩ hA.k5 (HW2.out.2.2.2.below hW HW2.out.2.2.2.lt) (HW2.out.2.2.1.below hW HW2.out.2.2.1.lt))
            have HGR := Lib.hid (greatest_any V0 _ cap (canSellC cf need.length o q) m0 (by omega) HIC.out HANT.out)
            clear HANT HIC
            go_wp2_with fail
            refine HGR.out.mono ?_
            rintro e V1 ⟨p', rfl, hg', hb'⟩
            obtain rfl : p' = p := HPQ.out _ hg'
            have HW3 := Lib.hid (And.intro (HW2.out.1.call hb') (And.intro (HW2.out.2.1.below hb' HW2.out.2.1.lt) (And.intro (HW2.out.2.2.1.below hb' HW2.out.2.2.1.lt) (HW2.out.2.2.2.below hb' HW2.out.2.2.2.lt))))
            clear HGR hg' hb' HW2 HPQ c71 hcap
            have c92 := HW3.out.2.2.2.cell 2
            have f92 := HW3.out.2.2.2.frozen 2
            go_upto_region 12 with fail
            have HW4 : Hid (AsW w r need.length gt cf L (V1.setCell ⟨gs + 1, 2, none⟩ (.int .i64 p')) ∧ Blk (V1.setCell ⟨gs + 1, 2, none⟩ (.int .i64 p')) g7 46 #[.int .i64 (o : Int), .int .i64 mn'] ∧ Blk (V1.setCell ⟨gs + 1, 2, none⟩ (.int .i64 p')) gs 3 #[.int .i64 (q : Int)] ∧ Blk (V1.setCell ⟨gs + 1, 2, none⟩ (.int .i64 p')) (gs + 1) 114 #[.int .i64 (o : Int), .int .i64 (q : Int), .int .i64 p']) := Lib.hid ⟨HW3.out.1.far (by omega) hwr hrg 2 _, HW3.out.2.1.far (by simp only []; omega) _, HW3.out.2.2.1.far (by simp only []; omega) _, HW3.out.2.2.2.set_ 2 _⟩
            clear c92 f92 HW3
            generalize World.setCell V1 _ _ = V2 at *
            have c50 := HW4.out.1.k5.cell 0
            have c51 := HW4.out.1.k5.cell 1
            have c90 := HW4.out.2.2.2.cell 0
            have c91 := HW4.out.2.2.2.cell 1
            have c92 := HW4.out.2.2.2.cell 2
            have HSE := Lib.hid (sell_any V2 r need.length o q cf p' h8 ho8 hq8 HW4.out.1.tab HCM.out.2 ⟨p0, by omega⟩)
            go_wp2_with fail
            refine HSE.out.mono ?_
            rintro e V3 ⟨⟨v, rfl⟩, hT3, hG3⟩
            have HW5 : Hid (AsW w r need.length gt (soldF cf o q p') L V3 ∧ Blk V3 g7 46 #[.int .i64 (o : Int), .int .i64 mn'] ∧ Blk V3 gs 3 #[.int .i64 (q : Int)] ∧ Blk V3 (gs + 1) 114 #[.int .i64 (o : Int), .int .i64 (q : Int), .int .i64 p']) := Lib.hid ⟨HW4.out.1.sell hG3 hT3 hwr hrg, HW4.out.2.1.kept hG3 (fun e => by have := Option.some.inj e; omega), HW4.out.2.2.1.kept hG3 (fun e => by have := Option.some.inj e; omega), HW4.out.2.2.2.kept hG3 (fun e => by have := Option.some.inj e; omega)⟩
            clear hT3 hG3 HW4 HSE c50 c51 c90 c91 c92
            have c71 := HW5.out.2.1.cell 1
            have f71 := HW5.out.2.1.frozen 1
            have c92 := HW5.out.2.2.2.cell 2
            have hw7 : IntKind.i64.wrap (mn' - p') = mn' - p' := IntWalk.i64_in _ ⟨by omega, by omega⟩
            have HDR := Lib.hid (fun (X : World) => (Below.refl X.heap.size X).drew)
            have HW6 : Hid (AsW w r need.length gt (soldF cf o q p') L ((V3.setCell ⟨g7, 1, none⟩ (.int .i64 (mn' - p'))).drew) ∧ Blk ((V3.setCell ⟨g7, 1, none⟩ (.int .i64 (mn' - p'))).drew) g7 46 #[.int .i64 (o : Int), .int .i64 (mn' - p')] ∧ Blk ((V3.setCell ⟨g7, 1, none⟩ (.int .i64 (mn' - p'))).drew) gs 3 #[.int .i64 (q : Int)] ∧ Blk ((V3.setCell ⟨g7, 1, none⟩ (.int .i64 (mn' - p'))).drew) (gs + 1) 114 #[.int .i64 (o : Int), .int .i64 (q : Int), .int .i64 p']) :=
              Lib.hid ⟨(HW5.out.1.far (by omega) hwr hrg 1 _).call (HDR.out _), (HW5.out.2.1.set_ 1 _).drew, (HW5.out.2.2.1.far (by simp only []; omega) _).drew, (HW5.out.2.2.2.far (by simp only []; omega) _).drew⟩
            clear HDR
            go_upto_region 14 with fail
            clear c71 f71 c92 hw7 HW5
            have HS1 := Lib.hid (And.intro (HW6.out.2.2.1.cell 0) (HW6.out.2.2.2.cell 2))
            have HZ := Lib.hid (And.intro (HW6.out.1.zero hlen hkq) (HW6.out.1.k4.frozen (k * 8 + q)))
            have HPUT : Hid (∀ X : World, (AsW w r need.length gt (soldF cf o q p') L X ∧ Blk X g7 46 #[.int .i64 (o : Int), .int .i64 (mn' - p')] ∧ Blk X gs 3 #[.int .i64 (q : Int)] ∧ Blk X (gs + 1) 114 #[.int .i64 (o : Int), .int .i64 (q : Int), .int .i64 p']) → (AsW w r need.length gt (soldF cf o q p') (L.set (k * 8 + q) p') (X.setCell ⟨w.heap.size, k * 8 + q, none⟩ (.int .i64 p')) ∧ Blk (X.setCell ⟨w.heap.size, k * 8 + q, none⟩ (.int .i64 p')) g7 46 #[.int .i64 (o : Int), .int .i64 (mn' - p')] ∧ Blk (X.setCell ⟨w.heap.size, k * 8 + q, none⟩ (.int .i64 p')) gs 3 #[.int .i64 (q : Int)] ∧ Blk (X.setCell ⟨w.heap.size, k * 8 + q, none⟩ (.int .i64 p')) (gs + 1) 114 #[.int .i64 (o : Int), .int .i64 (q : Int), .int .i64 p'])) :=
              Lib.hid fun X h => ⟨h.1.put _ _ hwr hrg, h.2.1.far (by simp only []; omega) _, h.2.2.1.far (by simp only []; omega) _, h.2.2.2.far (by simp only []; omega) _⟩
            generalize World.setCell V3 _ _ = V4 at *
            refine wp_region_held_drew (S := fun W9 => W9.cell? ⟨gs, 0, none⟩ = some (.int .i64 (q : Int)) ∧ W9.cell? ⟨gs + 1, 2, none⟩ = some (.int .i64 p')) (by kernel_rfl) HS1.out (fun hH0 => ?_)
            generalize World.drew _ = V0 at *
            simp only [List.size_toArray, List.length_cons, List.length_nil, Nat.reduceAdd, Array.replicate_succ, Array.replicate_zero, List.push_toArray, List.nil_append, List.cons_append]
            refine wpAnyH_take (i := 0 ) (v := ?_) rfl (by kernel_rfl) (by kernel_rfl) (by kernel_rfl) (fun _ _ _ h => h) (Or.inl ⟨by rfl, ?_⟩) (by assumption) ?_; rotate_left; (· (intro w0 hSw; obtain ⟨y0, y1⟩ := hSw; go_simp); first | done | with_reducible rfl); (try simp only [Act.put, List.getElem_toArray, List.getElem_cons_zero, List.setIfInBounds_toArray, List.set_cons_zero, List.set_cons_succ])
            refine wpAnyH_take (i := 1 ) (v := ?_) rfl (by kernel_rfl) (by kernel_rfl) (by kernel_rfl) (fun _ _ _ h => h) (Or.inl ⟨by rfl, ?_⟩) (by assumption) ?_; rotate_left; (· (intro w0 hSw; obtain ⟨y0, y1⟩ := hSw; go_simp); first | done | with_reducible rfl); (try simp only [Act.put, List.getElem_toArray, List.getElem_cons_succ, List.getElem_cons_zero, List.setIfInBounds_toArray, List.set_cons_zero, List.set_cons_succ])
            refine wpAnyH_take (i := 2 ) (v := ?_) rfl (by kernel_rfl) (by kernel_rfl) (by kernel_rfl) (fun _ _ _ h => h) (Or.inl ⟨by rfl, ?_⟩) (by assumption) ?_; rotate_left; (· (intro w0 hSw; obtain ⟨y0, y1⟩ := hSw; go_simp); first | done | with_reducible rfl); (try simp only [Act.put, List.getElem_toArray, List.getElem_cons_succ, List.getElem_cons_zero, List.setIfInBounds_toArray, List.set_cons_zero, List.set_cons_succ])
            refine wpAnyH_take (i := 3 ) (v := ?_) rfl (by kernel_rfl) (by kernel_rfl) (by kernel_rfl) (fun _ _ _ h => h) (Or.inl ⟨by rfl, ?_⟩) (by assumption) ?_; rotate_left; (· (intro w0 hSw; obtain ⟨y0, y1⟩ := hSw; go_simp); first | done | with_reducible rfl); (try simp only [Act.put, List.getElem_toArray, List.getElem_cons_succ, List.getElem_cons_zero, List.setIfInBounds_toArray, List.set_cons_zero, List.set_cons_succ])
            refine wpAnyH_take (i := 4 ) (v := ?_) rfl (by kernel_rfl) (by kernel_rfl) (by kernel_rfl) (fun _ _ _ h => h) (Or.inl ⟨by rfl, ?_⟩) (by assumption) ?_; rotate_left; (· (intro w0 hSw; obtain ⟨y0, y1⟩ := hSw; go_simp); first | done | with_reducible rfl); (try simp only [Act.put, List.getElem_toArray, List.getElem_cons_succ, List.getElem_cons_zero, List.setIfInBounds_toArray, List.set_cons_zero, List.set_cons_succ])
            refine wpAnyH_take (i := 5 ) (v := ?_) rfl (by kernel_rfl) (by kernel_rfl) (by kernel_rfl) (fun _ _ _ h => h) (Or.inl ⟨by rfl, ?_⟩) (by assumption) ?_; rotate_left; (· (intro w0 hSw; obtain ⟨y0, y1⟩ := hSw; go_simp); first | done | with_reducible rfl); (try simp only [Act.put, List.getElem_toArray, List.getElem_cons_succ, List.getElem_cons_zero, List.setIfInBounds_toArray, List.set_cons_zero, List.set_cons_succ])
            refine wpAnyH_ready (rs := [6]) (by kernel_rfl) (by simp) ?_
            refine AllReadyH.cons (by simp only [List.getElem?_toArray, List.getElem?_cons_succ, List.getElem?_cons_zero]; rfl) (fun K hK => ?_) AllReadyH.nil
            go_simp
            have z0 := HZ.out.1
            have z1 := HZ.out.2
            go_simp
            have HW7 := Lib.hid (HPUT.out _ HW6.out)
            clear z0 z1
            refine hK.out _ _ ⟨HW7.out.2.2.1.cell 0, HW7.out.2.2.2.cell 2⟩ (fun hH1 => ?_)
            clear hK K
            try simp only [List.setIfInBounds_toArray, List.set_cons_zero, List.set_cons_succ]
            refine wpAnyH_done (by kernel_rfl) ?_ _
            generalize World.setCell V0 _ _ = V5 at *
            have HNX2 : Hid (AsW w r need.length gt (stR (q + 1)).cf (stR (q + 1)).L V5 ∧ Blk V5 g7 46 #[.int .i64 (o : Int), .int .i64 (stR (q + 1)).many]) := Lib.hid (by rw [HEQ.out]; exact ⟨HW7.out.1, HW7.out.2.1⟩)
            clear HW7 HW6 HPUT HS1 HZ
            go_wp2_with fail
            go_roundw
            case rel => exact ⟨q + 1, by omega, by go_num, HNX2⟩
            case measure => exact meas9 hq1
        · obtain rfl : q = need.length := by omega
          have HNX2 : Hid (AsW w r need.length gt (stK (k + 1)).cf (stK (k + 1)).L wr) := Lib.hid (by rw [← HJE.out]; exact HW.out.1)
          clear HW
          go_wp2_with fail
          go_roundw
          case rel => exact ⟨k + 1, by omega, by go_num, HNX2⟩
          case measure => exact meas9 hlt
    · obtain rfl : k = l.length := by omega
      rw [HKE.out] at HS
      have hL64 : (asgT need l).L.length = 64 := by rw [← HKE.out]; exact (HIN.out l.length (Nat.le_refl _)).len
      have HI64 : Hid ((Try.prog.info? 89).map (·.size) = some (intsV9 (asgT need l).L).toArray.size) := Lib.hid (by
        rw [List.size_toArray, intsV9, List.length_map, hL64]; kernel_rfl)
      have HONE : Hid ((intsV9 (asgT need l).L).toArray.all (·.oneCell') = true) := Lib.hid (by
        rw [List.all_toArray, List.all_eq_true]; exact intsV9_one _)
      have HQ : Hid (∀ X : World, Below w.heap.size w X → RetAs need l w (.returned (.agg (intsV9 (asgT need l).L).toArray)) X) := Lib.hid fun X h => ⟨rfl, h⟩
      have HG4 : Hid (wr.heap[w.heap.size]? = some (.cells (intsV9 (asgT need l).L).toArray 89 (0, 0))) := Lib.hid HS.out.k4
      have HB4 := Lib.hid HS.out.hb
      have HK4 := Lib.hid HS.out.k4
      generalize (intsV9 (asgT need l).L).toArray = cs at *
      generalize RetAs need l w = Q at *
      clear HS hL64 HKE HIN HNX HPI HBEG
      go_wp2_with (first | (with_reducible refine wpList_load_row (by with_unfolding_all rfl) 89 _ (by with_unfolding_all rfl) w.heap.size (by with_unfolding_all rfl) 89 cs (0, 0) _ HG4.out (by with_unfolding_all rfl) (by with_unfolding_all rfl) HI64.out ?_) | (with_reducible refine wpList_store_row (by with_unfolding_all rfl) 89 _ _ (by with_unfolding_all rfl) w.heap.size cs (by with_unfolding_all rfl) (by with_unfolding_all rfl) 89 cs HG4.out HI64.out (by with_unfolding_all rfl) HONE.out ?_))
      have HB5 := Lib.hid (below_setRow HB4.out (Nat.le_refl _) cs)
      have HK5 := Lib.hid (HK4.out.row cs)
      generalize World.setRow wr _ _ = W9 at *
      exact bodyPost_ret (results_blk rfl _ rfl HK5.out (by kernel_rfl) HI64.out) rfl (HQ.out _ HB5.out)
end Go.Proofs.Ytngoagfkcjkeoaa
