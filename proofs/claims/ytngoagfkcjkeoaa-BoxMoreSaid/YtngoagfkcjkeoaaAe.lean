/- Walks: rows; lists of lists of numbers. -/
import Derived.Test.YtngoagfkcjkeoaaAd
namespace Go.Proofs.Ytngoagfkcjkeoaa
open Go.RowKit Go.Shelf

/-- Lists of numbers that the program has made lie as they lay. -/
def KeepI9 (W W' : World) : Prop := ∀ (g : Nat) (cur : Array Value), W.heap[g]? = some (.cells cur 3 (0, 0)) → W'.heap[g]? = some (.cells cur 3 (0, 0))
theorem KeepI9.refl (W : World) : KeepI9 W W := fun _ _ h => h
theorem KeepI9.trans {A B C : World} (h : KeepI9 A B) (k : KeepI9 B C) : KeepI9 A C := fun g c e => k g c (h g c e)
theorem KeepI9.below {W W' : World} (h : Below W.heap.size W W') : KeepI9 W W' := fun g _ e => (h.block g (Array.getElem?_eq_some_iff.1 e).1).trans e
def ListAt (W : World) (v : Value) (l : List Int) : Prop := W.ownsRow 0 3 1 v l.length (intsV9 l)
theorem ListAt.keep {W W' : World} {v : Value} {l : List Int} (h : ListAt W v l) (hk : KeepI9 W W') : ListAt W' v l := by
  obtain ⟨h1, ⟨h2, h3⟩ | ⟨g, cap, cur, h2, h3, h4, h5⟩⟩ := h
  · exact ⟨h1, .inl ⟨h2, h3⟩⟩
  · exact ⟨h1, .inr ⟨g, cap, cur, h2, h3, hk g cur h4, h5⟩⟩
theorem ListAt.of {W : World} {B k : Nat} {v : Value} {l : List Int} (h : W.ownsRow B 3 1 v k (intsV9 l)) (hk : k = l.length) : ListAt W v l := by
  subst hk
  exact ⟨h.1, h.2.imp id fun ⟨g, cap, cur, h1, h2, h3⟩ => ⟨g, cap, cur, h1, Nat.zero_le _, h3⟩⟩
def ListsAt (W : World) (vs : List Value) (O : List (List Int)) : Prop := vs.length = O.length ∧ ∀ (i : Nat) (h : i < vs.length) (h' : i < O.length), ListAt W vs[i] O[i]
theorem ListsAt.keep {W W' : World} {vs : List Value} {O : List (List Int)} (h : ListsAt W vs O) (hk : KeepI9 W W') : ListsAt W' vs O := ⟨h.1, fun i a b => (h.2 i a b).keep hk⟩
theorem ListsAt.snoc {W : World} {vs : List Value} {O : List (List Int)} {v : Value} {x : List Int} (h : ListsAt W vs O) (hv : ListAt W v x) : ListsAt W (vs ++ [v]) (O ++ [x]) := by
  refine ⟨by simp [h.1], fun i a b => ?_⟩
  by_cases hi : i < vs.length
  · rw [List.getElem_append_left hi, List.getElem_append_left (by rw [← h.1]; exact hi)]
    exact h.2 i hi _
  · have hi' : ¬ i < O.length := by rw [← h.1]; exact hi
    rw [List.getElem_append_right (by omega), List.getElem_append_right (by omega)]
    simpa using hv
theorem keepI9_own {W W' : World} {B : Nat} {e : TypeId} {size : Nat} {v : Value} {k : Nat} {xs : List Value} (hr : W.ownsRow B e size v k xs) (he : e ≠ 3) (hg : W.grownBy W' v.ownBlock) : KeepI9 W W' := fun g cur h => by
  refine (hg.block g (Array.getElem?_eq_some_iff.1 h).1 fun hv => ?_).trans h
  rcases hr.2 with ⟨rfl, -⟩ | ⟨g', cap, cur', rfl, -, h2, -⟩
  · simp [Value.ownBlock] at hv
  · have : g = g' := by simpa [Value.ownBlock] using hv
    subst this
    rw [h] at h2
    cases h2
    exact he rfl
/-- A list of lists, as what a call returns lies. -/
def RowSl (W : World) (A : Option Addr) (O : List (List Int)) : Prop := O ≠ [] → ∃ g, A = some ⟨g, 0, none⟩ ∧ g < W.heap.size ∧ ∀ (i : Nat) (h : i < O.length), ∃ A' c', W.cell? ⟨g, i, none⟩ = some (.slice A' O[i].length c') ∧ IntSl W W.heap.size A' O[i]
theorem RowSl.on {W W' : World} {A : Option Addr} {O : List (List Int)} (h : RowSl W A O) (hb : Below W.heap.size W W') : RowSl W' A O := fun hne => by
  obtain ⟨g, h1, h2, h3⟩ := h hne
  refine ⟨g, h1, Nat.lt_of_lt_of_le h2 hb.size, fun i hi => ?_⟩
  obtain ⟨A', c', h4, h5⟩ := h3 i hi
  exact ⟨A', c', (hb.cell (p := ⟨g, i, none⟩) h2).trans h4, h5.on hb (Nat.le_refl _)⟩
theorem rows_of {W : World} {B : Nat} {v : Value} {vs : List Value} {O : List (List Int)} (h : W.ownsRow B 22 1 v O.length vs) (hO : ListsAt W vs O) : ∃ A c, v = .slice A O.length c ∧ RowSl W A O := by
  have h0 := h
  rcases h.2 with ⟨rfl, h2⟩ | ⟨g, cap, cur, rfl, h1, h2, h3⟩
  · exact ⟨none, 0, by rw [h2], fun hne => absurd (List.eq_nil_of_length_eq_zero h2) hne⟩
  · refine ⟨_, cap, rfl, fun hne => ⟨g, rfl, (h0.lt g rfl).2, fun i hi => ?_⟩⟩
    have hi' : i < vs.length := by rw [hO.1]; exact hi
    obtain ⟨A', c', h4, h5⟩ := own_ints9 (hO.2 i hi' hi) rfl
    refine ⟨A', c', ?_, h5⟩
    rw [h0.cellAt i (by simpa using hi), List.getElem?_eq_getElem hi', h4]
def rowT (L : List Int) (m i : Nat) : List Int := (L.drop (i * 8)).take m
def rowsT (L : List Int) (n m : Nat) : List (List Int) := (List.range n).map (rowT L m)
theorem rowT_len {L : List Int} {m i : Nat} (hL : L.length = 64) (hm : m ≤ 8) (hi : i < 8) : (rowT L m i).length = m := by unfold rowT; rw [List.length_take, List.length_drop, hL]; omega
theorem rowsT_next (L : List Int) (n m : Nat) : rowsT L (n + 1) m = rowsT L n m ++ [rowT L m n] := by unfold rowsT; rw [List.range_succ, List.map_append]; rfl
theorem rowsT_len (L : List Int) (n m : Nat) : (rowsT L n m).length = n := by simp [rowsT]
def RetRo (L : List Int) (n m : Nat) (w : World) (e : Ending) (w' : World) : Prop := ∃ A c, e = .returned (.slice A n c) ∧ RowSl w' A (rowsT L n m) ∧ Below w.heap.size w w'
theorem rowsInfo9 : (Try.prog.info? 22).map (fun i => (i.zero, i.size, i.bytes)) = some (some (.slice none 0 0), 1, 24) := by kernel_rfl
theorem und_rows9 : Try.prog.underlying 31 = some (.slice 22) := by kernel_rfl
set_option maxRecDepth 100000 in
set_option maxHeartbeats 8000000 in
theorem rows_any (w : World) (L : List Int) (n m : Nat) (hL : L.length = 64) (hn : n ≤ 8) (hm : m ≤ 8) :
    Calls Try.prog 49 #[.agg (intsV9 L).toArray, .int .i64 (n : Int), .int .i64 (m : Int)] w (RetRo L n m w) := by
  have hn0 : (0 : Int) ≤ n := by omega
  have hn1 : (n : Int) ≤ 8 := by omega
  have hm0 : (0 : Int) ≤ m := by omega
  have hm1 : (m : Int) ≤ 8 := by omega
  have HL := Lib.hid hL
  obtain ⟨i0, hi, hz0, hz1, hz2⟩ := info9 rowsInfo9
  have HI := Lib.hid (And.intro hi (And.intro hz0 (And.intro hz1 hz2)))
  clear hi hz0 hz1 hz2
  have HK := Lib.hid (Blk.new w 89 (intsV9 L).toArray)
  have HB0 := Lib.hid (show Below w.heap.size w (w.alloc (.cells (intsV9 L).toArray 89)) from (Below.refl _ _).alloc (Nat.le_refl _) _)
  go_enter Try.func49, Try.ntmps49
  go_wp2_with fail
  go_loopw [6, 12] (fun v i wr => ∃ (k : Nat) (s0 : Value) (vs : List Value), k ≤ n ∧ s0 = v ∧ i = .int .i64 k ∧ Hid (wr.ownsRow (w.heap.size + 1) 22 1 s0 k vs) ∧ Hid (ListsAt wr vs (rowsT L k m)) ∧ Hid (Below w.heap.size w wr) ∧ Hid (Blk wr w.heap.size 89 (intsV9 L).toArray)) (fun _ i _ => n - (intOf i).toNat)
  case atStart => exact ⟨0, _, [], by omega, rfl, rfl, Lib.hid (World.ownsRow_nil _ _ _ _), Lib.hid ⟨rfl, fun i h => by simp at h⟩, HB0, HK⟩
  case round =>
    obtain ⟨k, s0, vs, hk, rfl, rfl, HO, HLS, HB, HKB⟩ := hrel
    by_cases hlt : k < n
    · have hki : (k : Int) < n := by omega
      have hk0 : (0 : Int) ≤ k := by omega
      have hk8 : k < 8 := by omega
      obtain ⟨R, hR⟩ : ∃ R, R = (L.drop (k * 8)).take 8 := ⟨_, rfl⟩
      have hR8 : R.length = 8 := by rw [hR, List.length_take, List.length_drop, HL.out]; omega
      have hRm : rowT L m k = R.take m := by rw [hR, rowT, List.take_take, Nat.min_eq_left hm]
      have HRG : Hid (wr.rangeAt w.heap.size (k * 8) (intsV9 R)) := Lib.hid fun j v hj => by
        rw [HKB.out.cell]
        have hj8 : j < 8 := by have := (List.getElem?_eq_some_iff.1 hj).1; rw [intsV9, List.length_map, hR8] at this; exact this
        rw [List.getElem?_toArray, ← hj, hR]
        unfold intsV9
        rw [List.getElem?_map, List.getElem?_map, List.getElem?_take_of_lt hj8, List.getElem?_drop]
      have HCS : Hid ((intsV9 R).toArray.size = 8 ∧ (intsV9 R).toArray.all (·.oneCell') = true) := Lib.hid ⟨by rw [List.size_toArray, intsV9, List.length_map, hR8], by rw [List.all_toArray, List.all_eq_true]; exact intsV9_one _⟩
      have HIN8 : Hid ((Try.prog.info? 87).map (·.size) = some (intsV9 R).toArray.size) := Lib.hid (by rw [HCS.out.1]; kernel_rfl)
      have HIN9 : Hid ((Try.prog.info? 87).map (·.size) = some (intsV9 R).length) := Lib.hid (by rw [intsV9, List.length_map, hR8]; kernel_rfl)
      have HLEN : Hid ((rowT L m k).length = m) := Lib.hid (rowT_len HL.out hm hk8)
      have HCL : Hid (∀ (W : World) (g : Nat), Blk W g 87 (intsV9 R).toArray → Calls Try.prog 69 #[.slice (some ⟨g, 0, none⟩) m 8] W fun e w' => ∃ v, e = .returned v ∧ w'.ownsRow W.heap.size 3 1 v m (intsV9 (rowT L m k)) ∧ Below W.heap.size W w') := Lib.hid fun W g hg => cloneI_any W ⟨g, 0, none⟩ m 8 _ hm (by rw [intsV9, List.length_map, HLEN.out, Nat.mul_one]) (intsV9_one _) hg.lt (fun j u hj => by
        have e0 : (⟨g, 0, none⟩ : Addr).add j = ⟨g, j, none⟩ := by simp [Addr.add]; exact fun h => h.symm
        rw [e0, hg.cell, List.getElem?_toArray, ← hj, hRm]
        have hjm : j < m := by have := (List.getElem?_eq_some_iff.1 hj).1; rw [intsV9, List.length_map, HLEN.out] at this; exact this
        unfold intsV9
        rw [List.getElem?_map, List.getElem?_map, List.getElem?_take_of_lt hjm])
      clear hR hR8 hRm
      generalize hcs : (intsV9 R).toArray = cs at *
      have hcl : intsV9 R = cs.toList := by rw [← hcs]
      rw [hcl] at HRG HIN9
      clear hcs hcl
      have HN1 : Hid (Below wr.heap.size wr ((wr.alloc (.cells #[.int .i64 0, .int .i64 0, .int .i64 0, .int .i64 0, .int .i64 0, .int .i64 0, .int .i64 0, .int .i64 0] 87)).setRow wr.heap.size cs) ∧ Blk ((wr.alloc (.cells #[.int .i64 0, .int .i64 0, .int .i64 0, .int .i64 0, .int .i64 0, .int .i64 0, .int .i64 0, .int .i64 0] 87)).setRow wr.heap.size cs) wr.heap.size 87 cs) := Lib.hid ⟨below_setRow ((Below.refl _ _).alloc (Nat.le_refl _) _) (Nat.le_refl _) cs, (Blk.new _ _ _).row cs⟩
      go_wp2_with (first | (with_reducible refine wpList_load_mid (by with_unfolding_all rfl) 87 _ (by with_unfolding_all rfl) w.heap.size (k * 8) (by with_unfolding_all rfl) cs.toList _ HRG.out (by with_unfolding_all rfl) (by with_unfolding_all rfl) HIN9.out ?_) | (with_reducible refine wpList_store_row (by with_unfolding_all rfl) 87 _ _ (by with_unfolding_all rfl) wr.heap.size cs (by with_unfolding_all rfl) (by with_unfolding_all rfl) 87 _ (World.alloc_heap_new wr _) HIN8.out (by rw [HCS.out.1]; with_unfolding_all rfl) HCS.out.2 ?_))
      generalize World.setRow (World.alloc wr _) _ _ = W1 at *
      refine (HCL.out W1 wr.heap.size HN1.out.2).mono ?_
      rintro e W2 ⟨v2, rfl, hown2, hb2⟩
      have HV2 := Lib.hid (ListAt.of hown2 HLEN.out.symm)
      obtain ⟨A2, c2, rfl, -⟩ := own_ints9 hown2 HLEN.out
      have HB2 := Lib.hid (HN1.out.1.trans (hb2.mono HN1.out.1.size))
      have hz2 : w.heap.size + 1 ≤ wr.heap.size := by have := HKB.out.lt; omega
      have HO2 := Lib.hid (own_low9 HO.out HB2.out)
      have HB3 := Lib.hid ((Below.refl W2.heap.size W2).alloc (Nat.le_refl _) (.cells #[.slice A2 m c2] 22))
      have HO3 := Lib.hid (own_low9 HO2.out HB3.out)
      have HBK := Lib.hid (Blk.new W2 22 #[.slice A2 m c2])
      have hz3 : w.heap.size + 1 ≤ (W2.alloc (.cells #[.slice A2 m c2] 22)).heap.size := Nat.le_trans (Nat.le_trans hz2 HB2.out.size) HB3.out.size
      have hk10 : k ≤ 10 := by omega
      have HNW : Hid (∀ (j : Nat) u, ([.slice A2 m c2] : List Value)[j]? = some u → (W2.alloc (.cells #[.slice A2 m c2] 22)).cell? ((⟨W2.heap.size, 0, none⟩ : Addr).add j) = some u) := Lib.hid (World.news_of_block (cs := #[.slice A2 m c2]) (t := 22) (fr := (0, 0)) (World.alloc_heap_new W2 _))
      clear hown2 hb2 HCL HN1 HRG HCS HIN8 HIN9
      go_wp2_with (at_builtin; refine wpList_append_own _ rfl _ _ 31 rfl (w.heap.size + 1) 22 i0 _ 1 24 und_rows9 HI.out.1 HI.out.2.1 HI.out.2.2.1 HI.out.2.2.2 rfl (by decide) s0 k vs rfl HO3.out ⟨W2.heap.size, 0, none⟩ 1 1 [.slice A2 m c2] rfl rfl HNW.out (by simp [Value.oneCell']) (by unfold maxLen; omega) (by omega) hz3 ?_; intro v' w2 hown hgr hnn; clear hnn; have HO4 := Lib.hid hown; have HG4 := Lib.hid hgr; clear hown hgr)
      go_roundw
      case rel =>
        have hk2 : KeepI9 W2 w2 := (KeepI9.below HB3.out).trans (keepI9_own HO3.out (by decide) HG4.out)
        have hbA : Below w.heap.size w (W2.alloc (.cells #[.slice A2 m c2] 22)) := (HB.out.trans (HB2.out.mono HB.out.size)).trans (HB3.out.mono (Nat.le_trans HB.out.size HB2.out.size))
        refine ⟨k + 1, v', vs ++ [.slice A2 m c2], by omega, rfl, by go_num, HO4, Lib.hid ?_, Lib.hid ?_, Lib.hid ?_⟩
        · rw [rowsT_next]
          exact (HLS.out.keep ((KeepI9.below HB2.out).trans hk2)).snoc (HV2.out.keep hk2)
        · exact Below.grown hbA HG4.out (Nat.le_trans HB.out.size (Nat.le_trans HB2.out.size HB3.out.size)) fun j e => by have := (HO3.out.lt j e).1; omega
        · exact ((HKB.out.below HB2.out HKB.out.lt).alloc _).kept HG4.out fun e => by have := (HO3.out.lt _ e.symm).1; omega
      case measure => exact meas9 hlt
    · obtain rfl : k = n := by omega
      rw [← rowsT_len L k m] at HO
      obtain ⟨A2, c2, rfl, hsl⟩ := rows_of HO.out HLS.out
      rw [rowsT_len] at *
      have HSL := Lib.hid hsl
      clear hsl HO HLS
      go_wp2_with fail
      go_ret
      exact ⟨A2, c2, rfl, HSL.out, HB.out⟩
end Go.Proofs.Ytngoagfkcjkeoaa
