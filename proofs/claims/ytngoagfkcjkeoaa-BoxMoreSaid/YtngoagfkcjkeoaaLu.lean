/- Walks: unused's closure. -/
import Derived.Test.YtngoagfkcjkeoaaLt
namespace Go.Proofs.Ytngoagfkcjkeoaa
open Go.RowKit Go.Shelf

def pileV : List Pile → List Value
  | [] => []
  | p :: l => .int .i64 p.shades :: .int .i64 p.many :: pileV l
theorem pileV_len : ∀ l, (pileV l).length = l.length * 2
  | [] => rfl
  | _ :: l => by simp only [pileV, List.length_cons, pileV_len l]; omega
theorem pileV_one : ∀ (l : List Pile), ∀ u ∈ pileV l, u.oneCell' = true
  | [], u, h => by simp [pileV] at h
  | p :: l, u, h => by
    simp only [pileV, List.mem_cons] at h
    rcases h with rfl | rfl | h
    · rfl
    · rfl
    · exact pileV_one l u h
theorem pileV_at : ∀ (l : List Pile) (i : Nat) (h : i < l.length), (pileV l)[i * 2]? = some (.int .i64 l[i].shades) ∧ (pileV l)[i * 2 + 1]? = some (.int .i64 l[i].many)
  | p :: l, 0, _ => ⟨rfl, rfl⟩
  | p :: l, i + 1, h => by
    have := pileV_at l i (by simpa using h)
    rw [show (i + 1) * 2 = i * 2 + 2 by omega]
    exact this
theorem pileV_set (x : Int) : ∀ (l : List Pile) (i : Nat) (h : i < l.length), (pileV l).set (i * 2 + 1) (.int .i64 x) = pileV (l.set i ⟨l[i].shades, x⟩)
  | p :: l, 0, _ => rfl
  | p :: l, i + 1, h => by
    have := pileV_set x l i (by simpa using h)
    rw [show (i + 1) * 2 + 1 = (i * 2 + 1) + 2 by omega]
    simp only [pileV, List.set_cons_succ, List.getElem_cons_succ, this]
theorem pile_cells9 {w : World} {b off : Nat} {l : List Pile} (h : PilesAt w b off l) : ∀ j u, (pileV l)[j]? = some u → w.cell? ((⟨b, off, none⟩ : Addr).add j) = some u := fun j u hj => by
  have hlt : j < (pileV l).length := (List.getElem?_eq_some_iff.1 hj).1
  rw [pileV_len] at hlt
  have hi : j / 2 < l.length := by omega
  obtain ⟨h1, h2⟩ := pileV_at l (j / 2) hi
  obtain ⟨h3, h4⟩ := h (j / 2) hi
  have e0 : (⟨b, off, none⟩ : Addr).add j = ⟨b, off + j, none⟩ := by simp [Addr.add]
  rw [e0]
  rcases Nat.mod_two_eq_zero_or_one j with c | c
  · have : j / 2 * 2 = j := by omega
    rw [this] at h1 h3
    rw [h3, ← h1, hj]
  · have : j / 2 * 2 + 1 = j := by omega
    rw [this] at h2
    rw [Nat.add_assoc, this] at h4
    rw [h4, ← h2, hj]
theorem own_piles9 {w : World} {B k g cap : Nat} {l : List Pile} (h : w.ownsRow B 46 2 (.slice (some ⟨g, 0, none⟩) k cap) k (pileV l)) (hk : l.length = k) : PileSl w w.heap.size (some ⟨g, 0, none⟩) l := fun _ => ⟨g, 0, rfl, (h.lt g rfl).2, fun i hi => by
    obtain ⟨h1, h2⟩ := pileV_at l i hi
    rw [Nat.zero_add]
    exact ⟨by rw [h.cellAt _ (by omega), h1], by rw [h.cellAt _ (by omega), h2]⟩⟩
theorem own_g9 {w : World} {B k : Nat} {e : TypeId} {size : Nat} {v : Value} {xs : List Value} (h : w.ownsRow B e size v k xs) (hk : 0 < k) : ∃ g cap, v = .slice (some ⟨g, 0, none⟩) k cap ∧ B ≤ g ∧ g < w.heap.size := by
  have h0 := h
  rcases h.2 with ⟨rfl, h2⟩ | ⟨g, cap, cur, rfl, h1, h2, h3⟩
  · omega
  · exact ⟨g, cap, rfl, h0.lt g rfl⟩
set_option maxRecDepth 100000 in
set_option maxHeartbeats 8000000 in
theorem unused1_any (w : World) (gl gp gn gb b0 off0 c d pile : Nat) (A : Option Addr) (need : List Int) (l : List Pile) (n b : Int) (hN : NeedIn need) (hP : PilesIn l) (hp : pile < l.length) (hn : 0 ≤ n ∧ n ≤ l[pile].many) (hb : 0 ≤ b ∧ b ≤ 1048576)
    (k1 : Blk w gl 23 #[.slice (some ⟨b0, off0, none⟩) l.length c]) (k2 : Blk w gp 3 #[.int .i64 (pile : Int)]) (k3 : Blk w gn 22 #[.slice A need.length d]) (k4 : Blk w gb 3 #[.int .i64 b])
    (hb0 : b0 < w.heap.size) (hat : PilesAt w b0 off0 l) (hA : IntSl w w.heap.size A need) :
    Calls Try.prog 70 #[.int .i64 n, .pointer (some ⟨gl, 0, none⟩), .pointer (some ⟨gp, 0, none⟩), .pointer (some ⟨gn, 0, none⟩), .pointer (some ⟨gb, 0, none⟩)] w (Ret (.bool (canB need (l.set pile ⟨l[pile].shades, l[pile].many - n⟩) b)) w) := by
  have hp8 : l.length ≤ 8 := hP.1
  have HCL := Lib.hid (cloneP_any w ⟨b0, off0, none⟩ l.length c (pileV l) hp8 (pileV_len l) (pileV_one l) hb0 (pile_cells9 hat))
  obtain ⟨q0, q1, q2⟩ := hP.2 l[pile] (List.getElem_mem hp)
  have HAT := Lib.hid (pileV_at l pile hp)
  have HSE := Lib.hid (pileV_set (l[pile].many - n) l pile hp)
  have hPN : PilesIn (l.set pile ⟨l[pile].shades, l[pile].many - n⟩) := ⟨by rw [List.length_set]; exact hp8, fun p h => by
    rcases List.mem_or_eq_of_mem_set h with h | rfl
    · exact hP.2 p h
    · exact ⟨q0, by show 0 ≤ l[pile].many - n; omega, by show l[pile].many - n ≤ 1048576; omega⟩⟩
  have hln : (l.set pile ⟨l[pile].shades, l[pile].many - n⟩).length = l.length := List.length_set
  generalize l.set pile ⟨l[pile].shades, l[pile].many - n⟩ = l9 at *
  generalize l[pile].shades = sh at *
  generalize l[pile].many = mn at *
  have hw : IntKind.i64.wrap (mn - n) = mn - n := IntWalk.i64_in _ ⟨by omega, by omega⟩
  have hpi : (pile : Int) < l.length := by omega
  have hp0 : (0 : Int) ≤ pile := by omega
  have hl0 : 0 < l.length := by omega
  have hlL : (l.length : Int) ≤ 8 := by omega
  have HK := Lib.hid (And.intro k1 (And.intro k2 (And.intro k3 k4)))
  have HIA := Lib.hid hA
  have HC := Lib.hid (count_in hN hPN)
  have h8 := hN.1
  have HTA : Hid (∀ (W : World) (g cap : Nat), IntSl W W.heap.size A need → PileSl W W.heap.size (some ⟨g, 0, none⟩) l9 → Calls Try.prog 37 #[.slice A need.length d, .slice (some ⟨g, 0, none⟩) l.length cap] W (RetTy need l9 W)) := Lib.hid fun W g cap ha hp => by
    have := tallyOf_any W A (some ⟨g, 0, none⟩) d cap need l9 hN hPN ha hp
    rwa [hln] at this
  have HCF : Hid (∀ (W : World) (r : Nat), TabAt W r need.length (cfOf need l9) → Calls Try.prog 39 #[.agg #[.int .i64 (need.length : Int), .map (some r)], .int .i64 b] W (Ret (.bool (canB need l9 b)) W)) := Lib.hid fun W r hT => by
    have h9 := canFill_any W r need.length (cfOf need l9) b h8 hT HC.out ⟨by omega, by omega⟩
    rw [lacking_eq] at h9
    exact h9
  have HLN := Lib.hid hln
  have x0 := k1.cell 0
  clear hN hP hPN hat hA k1 k2 k3 k4 q0 hln
  go_enter Try.func70, Try.ntmps70
  go_wp2_with fail
  refine HCL.out.mono ?_
  rintro e w1 ⟨v, rfl, hrow, hb1⟩
  obtain ⟨g, cap, rfl, hg1, hg2⟩ := own_g9 hrow hl0
  have HB := Lib.hid hb1
  have HR := Lib.hid hrow
  have c2 := (HK.out.2.1.below HB.out HK.out.2.1.lt).cell 0
  have c5 : w1.cell? ⟨g, pile * 2 + 1, none⟩ = some (.int .i64 mn) := by rw [hrow.cellAt _ (by omega), HAT.out.2]
  have c6 := hrow.frozenAt (pile * 2 + 1)
  have hst := hrow.stored (pile * 2 + 1) (.int .i64 (mn - n))
  rw [HSE.out] at hst
  have HST := Lib.hid hst
  have HB2 := Lib.hid (HB.out.setCell (p := ⟨g, pile * 2 + 1, none⟩) hg1 (.int .i64 (mn - n)))
  clear hb1 hrow HCL x0 hst HSE
  go_upto_region 3 with fail
  clear c2 c5 c6
  generalize World.setCell w1 _ _ = w2 at *
  have HPS := Lib.hid (own_piles9 HST.out.1 HLN.out)
  have HAS := Lib.hid (HIA.out.on HB2.out (Nat.le_refl _))
  have HRD : Hid (∀ W9 : World, Below w2.heap.size w2 W9 → W9.cell? ⟨gn, 0, none⟩ = some (.slice A need.length d) ∧ W9.cell? ⟨gb, 0, none⟩ = some (.int .i64 b)) := Lib.hid fun W9 h9 => ⟨((HK.out.2.2.1.below HB2.out HK.out.2.2.1.lt).below h9 (HK.out.2.2.1.below HB2.out HK.out.2.2.1.lt).lt).cell 0, ((HK.out.2.2.2.below HB2.out HK.out.2.2.2.lt).below h9 (HK.out.2.2.2.below HB2.out HK.out.2.2.2.lt).lt).cell 0⟩
  have HD := Lib.hid ((Below.refl w2.heap.size w2).drew)
  refine wp_region_held_drew (S := fun W9 => Below w2.heap.size w2 W9) (by kernel_rfl) HD.out (fun hH0 => ?_)
  generalize World.drew _ = V0 at *
  simp only [List.size_toArray, List.length_cons, List.length_nil, Nat.reduceAdd, Array.replicate_succ, Array.replicate_zero, List.push_toArray, List.nil_append, List.cons_append]
  refine wpAnyH_take (i := 0 ) (v := ?_) rfl (by kernel_rfl) (by kernel_rfl) (by kernel_rfl) (fun _ _ _ h => h) (Or.inl ⟨by rfl, ?_⟩) (by assumption) ?_; rotate_left; (· (intro w0 hSw; obtain ⟨y0, y1⟩ := HRD.out _ hSw; clear hSw; go_simp); first | done | with_reducible rfl); (try simp only [Act.put, List.getElem_toArray, List.getElem_cons_zero, List.setIfInBounds_toArray, List.set_cons_zero, List.set_cons_succ])
  refine wpAnyH_take (i := 1 ) (v := ?_) rfl (by kernel_rfl) (by kernel_rfl) (by kernel_rfl) (fun _ _ _ h => h) (Or.inl ⟨by rfl, ?_⟩) (by assumption) ?_; rotate_left; (· (intro w0 hSw; obtain ⟨y0, y1⟩ := HRD.out _ hSw; clear hSw; go_simp); first | done | with_reducible rfl); (try simp only [Act.put, List.getElem_toArray, List.getElem_cons_succ, List.getElem_cons_zero, List.setIfInBounds_toArray, List.set_cons_zero, List.set_cons_succ])
  refine wpAnyH_take (i := 3 ) (v := ?_) rfl (by kernel_rfl) (by kernel_rfl) (by kernel_rfl) (fun _ _ _ h => h) (Or.inl ⟨by rfl, ?_⟩) (by assumption) ?_; rotate_left; (· (intro w0 hSw; obtain ⟨y0, y1⟩ := HRD.out _ hSw; clear hSw; go_simp); first | done | with_reducible rfl); (try simp only [Act.put, List.getElem_toArray, List.getElem_cons_succ, List.getElem_cons_zero, List.setIfInBounds_toArray, List.set_cons_zero, List.set_cons_succ])
  refine wpAnyH_ready (rs := [2]) (by kernel_rfl) (by simp) ?_
  refine AllReadyH.cons (by simp only [List.getElem?_toArray, List.getElem?_cons_succ, List.getElem?_cons_zero]; rfl) (fun K hK => ?_) AllReadyH.nil
  go_simp
  refine (HTA.out _ _ _ (HAS.out.on HD.out (Nat.le_refl _)) (HPS.out.on HD.out (Nat.le_refl _))).mono ?_
  rintro e X9 ⟨r, rfl, hT, hb2⟩
  have HT := Lib.hid hT
  have HDX := Lib.hid (HD.out.trans (hb2.mono HD.out.size))
  clear hT hb2
  refine hK.out _ _ HDX.out (fun hH1 => ?_)
  clear hK K
  try simp only [List.setIfInBounds_toArray, List.set_cons_zero, List.set_cons_succ]
  refine wpAnyH_ready (rs := [4]) (by kernel_rfl) (by simp) ?_
  refine AllReadyH.cons (by simp only [List.getElem?_toArray, List.getElem?_cons_succ, List.getElem?_cons_zero]; rfl) (fun K hK => ?_) AllReadyH.nil
  go_simp
  refine (HCF.out _ _ HT.out).mono ?_
  rintro e Y9 ⟨rfl, hb2⟩
  have HDY := Lib.hid (HDX.out.trans (hb2.mono HDX.out.size))
  clear hb2
  refine hK.out _ _ HDY.out (fun hH2 => ?_)
  clear hK K
  try simp only [List.setIfInBounds_toArray, List.set_cons_zero, List.set_cons_succ]
  refine wpAnyH_take (i := 5 ) (v := ?_) rfl (by kernel_rfl) (by kernel_rfl) (by kernel_rfl) (fun _ _ _ h => h) (Or.inl ⟨by rfl, ?_⟩) (by assumption) ?_; rotate_left; (· (intro w0 hSw; obtain ⟨y0, y1⟩ := HRD.out _ hSw; clear hSw; go_simp); first | done | with_reducible rfl); (try simp only [Act.put, List.getElem_toArray, List.getElem_cons_succ, List.getElem_cons_zero, List.setIfInBounds_toArray, List.set_cons_zero, List.set_cons_succ])
  refine wpAnyH_done (by kernel_rfl) ?_ _
  go_wp2_with fail
  go_ret
  exact ⟨rfl, HB2.out.trans (HDY.out.mono HB2.out.size)⟩
end Go.Proofs.Ytngoagfkcjkeoaa
