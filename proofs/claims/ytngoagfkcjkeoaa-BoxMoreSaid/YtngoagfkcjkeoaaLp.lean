/- Most, Lack. -/
import Derived.Test.YtngoagfkcjkeoaaLo
namespace Go.Proofs.Ytngoagfkcjkeoaa
open Go.RowKit Go.Shelf

theorem need_in {need : List Int} (h : needOk need = true) : NeedIn need := by
  obtain ⟨h1, h2, -⟩ := need_parts h
  exact ⟨h1.2, fun n hn => by have := h2 n hn; omega⟩
theorem piles_in {l : List Pile} {n : Nat} (h : pilesOk l n = true) (hn : n ≤ 8) : PilesIn l := by
  obtain ⟨h1, h2⟩ := pile_parts h
  have hp : (2 : Int) ^ n ≤ 256 := by
    have h3 : 2 ^ n ≤ 2 ^ 8 := Nat.pow_le_pow_right (by omega) hn
    have h4 : ((2 ^ n : Nat) : Int) = 2 ^ n := by rw [Int.natCast_pow]; rfl
    omega
  exact ⟨h1, fun p hp9 => by have := h2 p hp9; omega⟩
theorem count_in {need : List Int} {l : List Pile} (hn : NeedIn need) (hl : PilesIn l) : CountIn (cfOf need l) := fun s => by
  have h1 := has_bd9 hl s
  have h2 := need_bd hn s
  unfold cfOf
  dsimp only
  omega
theorem lacking_eq (need : List Int) (l : List Pile) (b : Int) : lackingC (cfOf need l) need.length b = lackingS need l b := rfl
theorem lackC_eq (need : List Int) (l : List Pile) (b : Int) : lackC (cfOf need l) b = lackS need l b := rfl
theorem can_anti {need : List Int} {l : List Pile} (hn : NeedIn need) {i j : Int} (hij : i ≤ j) (h : canB need l j = true) : canB need l i = true := by
  rw [can_iff] at *
  intro s h1 h2
  have h3 := h s h1 h2
  have h4 := (need_bd hn s).1
  have h5 := Int.mul_le_mul_of_nonneg_left hij h4
  omega
def RetMo (need : List Int) (l : List Pile) (w : World) (e : Ending) (w' : World) : Prop :=
  (∃ a b c : Int, e = .returned (.tuple #[.int .i64 a, .int .i64 b, .int .i64 c]) ∧ ((boxOk need l = true ∧ GreatOf (canB need l) 8388608 a ∧ b = (lackingS need l (a + 1) : Int) ∧ c = 0) ∨ (boxOk need l = false ∧ a = 0 ∧ b = 0 ∧ c = 1))) ∧ Below w.heap.size w w'
set_option maxRecDepth 100000 in
set_option maxHeartbeats 4000000 in
theorem most_any (w : World) (A B : Option Addr) (c d : Nat) (need : List Int) (l : List Pile) (hn : need.length ≤ 9223372036854775807) (hl : l.length ≤ 9223372036854775807) (hA : IntSl w w.heap.size A need) (hB : PileSl w w.heap.size B l) :
    Calls Try.prog 13 #[.slice A need.length c, .slice B l.length d] w (RetMo need l w) := by
  have HA := Lib.hid hA
  have HB := Lib.hid hB
  have hn0 : (0 : Int) ≤ need.length := by omega
  have hn1 : (need.length : Int) ≤ 9223372036854775807 := by omega
  have HV := Lib.hid (validNeed_any w A c need hn hA)
  have HE : Hid (boxOk need l = (needOk need && pilesOk l need.length)) := Lib.hid rfl
  clear hA hB
  go_enter Try.func13, Try.ntmps13
  go_wp2_with fail
  refine HV.out.mono ?_
  rintro e w' ⟨rfl, rfl⟩
  cases h1 : needOk need with
  | false =>
    go_wp2_with fail
    exact bodyPost_ret (v := .tuple #[.int .i64 0, .int .i64 0, .int .i64 1]) (by simp [results, Try.results13, go_sem]) rfl (⟨⟨_, _, _, rfl, .inr ⟨by rw [HE.out, h1]; rfl, rfl, rfl, rfl⟩⟩, Below.refl _ _⟩)
  | true =>
    have h8 := need_le8 h1
    have HNI := Lib.hid (need_in h1)
    go_wp2_with fail
    refine (validPiles_any w B d need.length l hl h8 HB.out).mono ?_
    rintro e w1 ⟨rfl, hb⟩
    have HBB := Lib.hid hb
    clear hb
    cases h2 : pilesOk l need.length with
    | false =>
      go_wp2_with fail
      exact bodyPost_ret (v := .tuple #[.int .i64 0, .int .i64 0, .int .i64 1]) (by simp [results, Try.results13, go_sem]) rfl (⟨⟨_, _, _, rfl, .inr ⟨by rw [HE.out, h1, h2]; rfl, rfl, rfl, rfl⟩⟩, HBB.out⟩)
    | true =>
      have HPI := Lib.hid (piles_in h2 h8)
      have HOK : Hid (boxOk need l = true) := Lib.hid (by rw [HE.out, h1, h2]; rfl)
      have HTA := Lib.hid (tallyOf_any w1 A B c d need l HNI.out HPI.out (HA.out.on HBB.out (Nat.le_refl _)) (HB.out.on HBB.out (Nat.le_refl _)))
      clear h1 h2 HV HE
      go_wp2_with fail
      refine HTA.out.mono ?_
      rintro e w2 ⟨r, rfl, hT, hb2⟩
      have HC := Lib.hid (count_in HNI.out HPI.out)
      have hb3 : Below w2.heap.size w2 (w2.alloc (.cells #[.int .i64 (need.length : Int), .map (some r)] 73)) := (Below.refl _ _).alloc (Nat.le_refl _) _
      have HT := Lib.hid (hT.below hb3 hT.lt)
      have HK := Lib.hid (Blk.new w2 73 #[.int .i64 (need.length : Int), .map (some r)])
      have HB3 := Lib.hid ((HBB.out.trans (hb2.mono HBB.out.size)).trans (hb3.mono (Nat.le_trans HBB.out.size hb2.size)))
      clear hT hb2 hb3 HTA HBB
      go_upto_region 4 with fail
      generalize w2.heap.size = g at *
      generalize World.alloc w2 _ = w3 at *
      have x0 := HK.out.cell 0
      have x1 := HK.out.cell 1
      go_wp2_with fail
      refine (greatest_any w3 _ 8388608 (canB need l) (by omega) (by omega) ⟨39, #[.agg #[.int .i64 (need.length : Int), .map (some r)]], #[], rfl, enters_of Try.func39 (by kernel_rfl) rfl, fun W i hW h0 hM => ?_⟩ (fun i j _ hij _ h => can_anti HNI.out hij h)).mono ?_
      · have h9 := canFill_any W r need.length (cfOf need l) i h8 (HT.out.below hW HT.out.lt) HC.out ⟨by omega, by omega⟩
        rw [lacking_eq] at h9
        exact h9
      rintro e w4 ⟨q, rfl, hq, hb4⟩
      have HQ := Lib.hid hq
      have hq0 := hq.1.1
      have hq1 := hq.1.2
      have hwq : IntKind.i64.wrap (q + 1) = q + 1 := IntWalk.i64_in _ ⟨by omega, by omega⟩
      replace HT := Lib.hid (HT.out.below hb4 HT.out.lt)
      replace HK := Lib.hid (HK.out.below hb4 HK.out.lt)
      replace HB3 := Lib.hid (HB3.out.trans (hb4.mono HB3.out.size))
      clear hb4 hq x0 x1
      have x0 := HK.out.cell 0
      have x1 := HK.out.cell 1
      go_wp2_with fail
      have h9 := lacking_any w4 r need.length (cfOf need l) (q + 1) h8 HT.out HC.out ⟨by omega, by omega⟩
      rw [lacking_eq] at h9
      refine h9.mono ?_
      rintro e w5 ⟨rfl, hb5⟩
      replace HB3 := Lib.hid (HB3.out.trans (hb5.mono HB3.out.size))
      clear hb5 h9
      go_wp2_with fail
      exact bodyPost_ret (v := .tuple #[.int .i64 q, .int .i64 (lackingS need l (q + 1) : Int), .int .i64 0]) (by simp [results, Try.results13, go_sem]) rfl (⟨⟨_, _, _, rfl, .inl ⟨HOK.out, HQ.out, rfl, rfl⟩⟩, HB3.out⟩)
/-- What Lack returns. -/
def lackA (need : List Int) (l : List Pile) (b : Int) : Int × Int × Int :=
  if errE need l b = 0 then (if 0 < (lackR need l b).2 then (((lackR need l b).1 : Int), (lackR need l b).2, 0) else (0, 0, 4)) else (0, 0, errE need l b)
theorem errE_0 {need : List Int} {l : List Pile} {b : Int} (h : errE need l b = 0) : boxOk need l = true ∧ 0 ≤ b ∧ b ≤ 1048576 := by
  unfold errE at h
  split at h
  · split at h
    · rename_i h1 h2; exact ⟨h1, (fromB_iff.1 h2).1, (fromB_iff.1 h2).2⟩
    · cases h
  · cases h
set_option maxRecDepth 100000 in
set_option maxHeartbeats 4000000 in
theorem lack_any (w : World) (A B : Option Addr) (c d : Nat) (need : List Int) (l : List Pile) (b : Int) (hn : need.length ≤ 9223372036854775807) (hl : l.length ≤ 9223372036854775807) (hA : IntSl w w.heap.size A need) (hB : PileSl w w.heap.size B l) :
    Calls Try.prog 15 #[.slice A need.length c, .slice B l.length d, .int .i64 b] w (Ret (.tuple #[.int .i64 (lackA need l b).1, .int .i64 (lackA need l b).2.1, .int .i64 (lackA need l b).2.2]) w) := by
  have HA := Lib.hid hA
  have HB := Lib.hid hB
  have HV := Lib.hid (errorOf_any w A B c d need l b hn hl hA hB)
  have HE : Hid ((errE need l b ≠ 0 → lackA need l b = (0, 0, errE need l b)) ∧ (errE need l b = 0 → (0 < (lackR need l b).2 → lackA need l b = (((lackR need l b).1 : Int), (lackR need l b).2, 0)) ∧ (¬ 0 < (lackR need l b).2 → lackA need l b = (0, 0, 4)))) := Lib.hid ⟨fun h => if_neg h, fun h => ⟨fun h2 => by unfold lackA; rw [if_pos h, if_pos h2], fun h2 => by unfold lackA; rw [if_pos h, if_neg h2]⟩⟩
  have HOK : Hid (errE need l b = 0 → boxOk need l = true ∧ 0 ≤ b ∧ b ≤ 1048576) := Lib.hid errE_0
  generalize lackA need l b = z at *
  clear hA hB
  go_enter Try.func15, Try.ntmps15
  go_wp2_with fail
  refine HV.out.mono ?_
  rintro e w1 ⟨rfl, hb1⟩
  have HBB := Lib.hid hb1
  clear hb1 HV
  generalize errE need l b = ee at *
  by_cases h0 : ee = 0
  · have h0' : (ee != 0) = false := by rw [bne, h0]; rfl
    obtain ⟨hok, hb0, hb1⟩ := HOK.out h0
    obtain ⟨hz1, hz2⟩ := HE.out.2 h0
    have HZ1 := Lib.hid hz1
    have HZ2 := Lib.hid hz2
    have hok2 := hok
    unfold boxOk at hok2
    rw [Bool.and_eq_true] at hok2
    have h8 := need_le8 hok2.1
    have HNI := Lib.hid (need_in hok2.1)
    have HPI := Lib.hid (piles_in hok2.2 h8)
    have HC := Lib.hid (count_in HNI.out HPI.out)
    have HTA := Lib.hid (tallyOf_any w1 A B c d need l HNI.out HPI.out (HA.out.on HBB.out (Nat.le_refl _)) (HB.out.on HBB.out (Nat.le_refl _)))
    clear hok hok2 hz1 hz2 HE HOK
    subst h0
    go_wp2_with fail
    refine HTA.out.mono ?_
    rintro e w2 ⟨r, rfl, hT, hb2⟩
    have HT := Lib.hid hT
    replace HBB := Lib.hid (HBB.out.trans (hb2.mono HBB.out.size))
    clear hT hb2 HTA
    go_wp2_with fail
    refine (lacks_any w2 r need.length (cfOf need l) b h8 HT.out HC.out ⟨by omega, by omega⟩).mono ?_
    rintro e w3 ⟨v, rfl, hrow, hb3⟩
    rw [lackC_eq] at hrow
    obtain ⟨A9, c9, rfl, hat⟩ := lk_cells hrow rfl
    replace HBB := Lib.hid (HBB.out.trans (hb3.mono HBB.out.size))
    have HAT := Lib.hid hat
    have hlen : (setsS need.length).length ≤ 1000 := by
      rw [sets_len]
      have : 2 ^ need.length ≤ 2 ^ 8 := Nat.pow_le_pow_right (by omega) h8
      omega
    clear hrow hb3 hat
    have HW := Lib.hid (worst_any w3 A9 c9 (setsS need.length) (lackS need l b) hlen HAT.out)
    rw [← lackP_eq] at HW
    have HLS := Lib.hid (lack_same need l b)
    generalize lackP need l b = pp at *
    generalize lackR need l b = rr at *
    generalize setsS need.length = ss at *
    go_wp2_with fail
    refine HW.out.mono ?_
    rintro e w4 ⟨rfl, hb4⟩
    have HK := Lib.hid (Blk.new w4 81 #[.int .i64 (pp.1 : Int), .int .i64 pp.2])
    have HB4 := Lib.hid ((HBB.out.trans (hb4.mono HBB.out.size)).alloc (Nat.le_trans HBB.out.size hb4.size) (.cells #[.int .i64 (pp.1 : Int), .int .i64 pp.2] 81))
    clear hb4 HW HBB
    go_upto_region 5 with fail
    generalize w4.heap.size = g at *
    generalize World.alloc w4 _ = w5 at *
    have x0 := HK.out.cell 0
    have x1 := HK.out.cell 1
    by_cases hle : pp.2 ≤ 0
    · have HZ : Hid (z = (0, 0, 4)) := Lib.hid (HZ2.out (by
        rcases HLS.out with ⟨h1, h2⟩ | ⟨h1, h2⟩
        · rw [h1] at hle; omega
        · omega))
      go_wp2_with fail
      exact bodyPost_ret (v := .tuple #[.int .i64 0, .int .i64 0, .int .i64 4]) (by simp [results, Try.results15, go_sem]) rfl (⟨by rw [HZ.out], HB4.out⟩)
    · have HZ : Hid (pp = rr ∧ 0 < rr.2) := Lib.hid (by
        rcases HLS.out with h | ⟨h1, h2⟩
        · exact h
        · omega)
      have HZZ := Lib.hid (HZ1.out HZ.out.2)
      have HPR := Lib.hid HZ.out.1
      clear HLS HZ HZ1 HZ2
      go_upto_region 7 with fail
      replace HB4 := Lib.hid HB4.out.drew
      have HK2 := Lib.hid HK.out.drew
      refine wp_region_held_drew (S := fun W => Blk W g 81 #[.int .i64 (pp.1 : Int), .int .i64 pp.2]) (by kernel_rfl) HK2.out (fun hH0 => ?_)
      generalize World.drew _ = V0 at *
      simp only [List.size_toArray, List.length_cons, List.length_nil, Nat.reduceAdd, Array.replicate_succ, Array.replicate_zero, List.push_toArray, List.nil_append, List.cons_append]
      refine wpAnyH_take (i := 0 ) (v := ?_) rfl (by kernel_rfl) (by kernel_rfl) (by kernel_rfl) (fun _ _ _ h => h) (Or.inl ⟨by rfl, ?_⟩) (by assumption) ?_; rotate_left; (· (intro w0 hSw; have y0 := hSw.cell 0; have y1 := hSw.cell 1; clear hSw; go_simp); first | done | with_reducible rfl); (try simp only [Act.put, List.getElem_toArray, List.getElem_cons_zero, List.setIfInBounds_toArray, List.set_cons_zero, List.set_cons_succ])
      refine wpAnyH_take (i := 1 ) (v := ?_) rfl (by kernel_rfl) (by kernel_rfl) (by kernel_rfl) (fun _ _ _ h => h) (Or.inl ⟨by rfl, ?_⟩) (by assumption) ?_; rotate_left; (· (intro w0 hSw; have y0 := hSw.cell 0; have y1 := hSw.cell 1; clear hSw; go_simp); first | done | with_reducible rfl); (try simp only [Act.put, List.getElem_toArray, List.getElem_cons_succ, List.getElem_cons_zero, List.setIfInBounds_toArray, List.set_cons_zero, List.set_cons_succ])
      refine wpAnyH_take (i := 2 ) (v := ?_) rfl (by kernel_rfl) (by kernel_rfl) (by kernel_rfl) (fun _ _ _ h => h) (Or.inl ⟨by rfl, ?_⟩) (by assumption) ?_; rotate_left; (· (intro w0 hSw; have y0 := hSw.cell 0; have y1 := hSw.cell 1; clear hSw; go_simp); first | done | with_reducible rfl); (try simp only [Act.put, List.getElem_toArray, List.getElem_cons_succ, List.getElem_cons_zero, List.setIfInBounds_toArray, List.set_cons_zero, List.set_cons_succ])
      refine wpAnyH_take (i := 3 ) (v := ?_) rfl (by kernel_rfl) (by kernel_rfl) (by kernel_rfl) (fun _ _ _ h => h) (Or.inl ⟨by rfl, ?_⟩) (by assumption) ?_; rotate_left; (· (intro w0 hSw; have y0 := hSw.cell 0; have y1 := hSw.cell 1; clear hSw; go_simp); first | done | with_reducible rfl); (try simp only [Act.put, List.getElem_toArray, List.getElem_cons_succ, List.getElem_cons_zero, List.setIfInBounds_toArray, List.set_cons_zero, List.set_cons_succ])
      refine wpAnyH_take (i := 4 ) (v := ?_) rfl (by kernel_rfl) (by kernel_rfl) (by kernel_rfl) (fun _ _ _ h => h) (Or.inl ⟨by rfl, ?_⟩) (by assumption) ?_; rotate_left; (· (intro w0 hSw; have y0 := hSw.cell 0; have y1 := hSw.cell 1; clear hSw; go_simp); first | done | with_reducible rfl); (try simp only [Act.put, List.getElem_toArray, List.getElem_cons_succ, List.getElem_cons_zero, List.setIfInBounds_toArray, List.set_cons_zero, List.set_cons_succ])
      refine wpAnyH_take (i := 5 ) (v := ?_) rfl (by kernel_rfl) (by kernel_rfl) (by kernel_rfl) (fun _ _ _ h => h) (Or.inl ⟨by rfl, ?_⟩) (by assumption) ?_; rotate_left; (· (intro w0 hSw; have y0 := hSw.cell 0; have y1 := hSw.cell 1; clear hSw; go_simp); first | done | with_reducible rfl); (try simp only [Act.put, List.getElem_toArray, List.getElem_cons_succ, List.getElem_cons_zero, List.setIfInBounds_toArray, List.set_cons_zero, List.set_cons_succ])
      refine wpAnyH_take (i := 6 ) (v := ?_) rfl (by kernel_rfl) (by kernel_rfl) (by kernel_rfl) (fun _ _ _ h => h) (Or.inl ⟨by rfl, ?_⟩) (by assumption) ?_; rotate_left; (· (intro w0 hSw; have y0 := hSw.cell 0; have y1 := hSw.cell 1; clear hSw; go_simp); first | done | with_reducible rfl); (try simp only [Act.put, List.getElem_toArray, List.getElem_cons_succ, List.getElem_cons_zero, List.setIfInBounds_toArray, List.set_cons_zero, List.set_cons_succ])
      refine wpAnyH_done (by kernel_rfl) ?_ _
      go_wp2_with fail
      exact bodyPost_ret (v := .tuple #[.int .i64 (pp.1 : Int), .int .i64 pp.2, .int .i64 0]) (by simp [results, Try.results15, go_sem]) rfl (⟨by rw [HZZ.out, ← HPR.out], HB4.out⟩)
  · have h0' : (ee != 0) = true := by rw [bne_iff_ne]; exact h0
    have hz := HE.out.1 h0
    have HZ := Lib.hid hz
    clear hz h0
    go_wp2_with fail
    exact bodyPost_ret (v := .tuple #[.int .i64 0, .int .i64 0, .int .i64 ee]) (by simp [results, Try.results15, go_sem]) rfl (⟨by rw [HZ.out], HBB.out⟩)
end Go.Proofs.Ytngoagfkcjkeoaa
