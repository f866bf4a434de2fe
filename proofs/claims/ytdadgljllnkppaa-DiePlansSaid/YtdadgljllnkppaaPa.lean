/- Walk of the document's own plans: all plans in order. -/
import Derived.Test.YtdadgljllnkppaaPs
import Derived.Test.YtdadgljllnkppaaBs
import Derived.Test.YtdadgljllnkppaaIn
import Derived.Deep.AppendLies
import Derived.Laws.AppendOwnNone
namespace Go.Proofs.Ytdadgljllnkppaa
open Go.RowKit Go.Shelf

theorem rowsInfo : (Try.prog.info? 28).map (fun i => (i.zero, i.size, i.bytes)) = some (some (.slice none 0 0), 1, 24) := by kernel_rfl
theorem und_rows : Try.prog.underlying 98 = some (.slice 28) := by kernel_rfl
/-- Lists of numbers, each in a row of its own. -/
def RowsAt (W : World) (vs : List Value) (O : List (List Int)) : Prop := vs.length = O.length ∧ ∀ (i : Nat) (h : i < vs.length) (h' : i < O.length), PlanAt W vs[i] O[i]
theorem RowsAt.keep {W W' : World} {vs : List Value} {O : List (List Int)} (h : RowsAt W vs O) (hk : KeepI W W') : RowsAt W' vs O := ⟨h.1, fun i a b => (h.2 i a b).keep hk⟩
theorem RowsAt.snoc {W : World} {vs : List Value} {O : List (List Int)} {v : Value} {x : List Int} (h : RowsAt W vs O) (hv : PlanAt W v x) : RowsAt W (vs ++ [v]) (O ++ [x]) := by
  refine ⟨by simp [h.1], fun i a b => ?_⟩
  by_cases hi : i < vs.length
  · rw [List.getElem_append_left hi, List.getElem_append_left (by rw [← h.1]; exact hi)]
    exact h.2 i hi _
  · have hi' : ¬ i < O.length := by rw [← h.1]; exact hi
    rw [List.getElem_append_right (by omega), List.getElem_append_right (by omega)]
    simpa using hv
theorem own_call7 {w w' : World} {B : Nat} {e : TypeId} {size : Nat} {v : Value} {k : Nat} {xs : List Value} (hr : w.ownsRow B e size v k xs) (hb : Below w.heap.size w w') : w'.ownsRow B e size v k xs := by
  refine ⟨hr.1, ?_⟩
  rcases hr.2 with h | ⟨g, cap, cur, rfl, h1, h2, h3⟩
  · exact .inl h
  · refine .inr ⟨g, cap, cur, rfl, h1, ?_, h3⟩
    rw [hb.block g (Array.getElem?_eq_some_iff.1 h2).1]
    exact h2
theorem own_far7 {w w' : World} {B : Nat} {e : TypeId} {size : Nat} {v : Value} {k : Nat} {xs : List Value} (hr : w.ownsRow B e size v k xs) {row : Option Nat} (hg : w.grownBy w' row) (hne : ∀ j, row = some j → w.heap.size ≤ j) : w'.ownsRow B e size v k xs :=
  hr.kept hg (by
    cases hv : v.ownBlock with
    | none => exact .inl rfl
    | some j =>
      refine .inr fun h => ?_
      have := (hr.lt j hv).2
      have := hne j h.symm
      omega)
theorem keepI_own {W W' : World} {B : Nat} {e : TypeId} {size : Nat} {v : Value} {k : Nat} {xs : List Value} (hr : W.ownsRow B e size v k xs) (he : e ≠ 3) (hg : W.grownBy W' v.ownBlock) : KeepI W W' := fun g cur h => by
  refine (hg.block g (Array.getElem?_eq_some_iff.1 h).1 fun hv => ?_).trans h
  rcases hr.2 with ⟨rfl, -⟩ | ⟨g', cap, cur', rfl, -, h2, -⟩
  · simp [Value.ownBlock] at hv
  · have : g = g' := by simpa [Value.ownBlock] using hv
    subst this
    rw [h] at h2
    cases h2
    exact he rfl
theorem below_own7 {W W' : World} {B : Nat} {e : TypeId} {size : Nat} {v : Value} {k : Nat} {xs : List Value} (hr : W.ownsRow B e size v k xs) (hB : B ≤ W.heap.size) (hg : W.grownBy W' v.ownBlock) : Below B W W' :=
  ⟨hg.os, hg.tape, hg.output, hg.size, fun i hi => hg.block i (Nat.lt_of_lt_of_le hi hB) fun hv => by have := (hr.lt i hv.symm).1; omega⟩
/-- A row of this call's own is written. -/
theorem below_new7 {W0 W W' : World} {e : TypeId} {size : Nat} {v : Value} {k : Nat} {xs : List Value} (hb : Below W0.heap.size W0 W) (hr : W.ownsRow W0.heap.size e size v k xs) (hg : W.grownBy W' v.ownBlock) : Below W0.heap.size W0 W' :=
  hb.trans (below_own7 hr hb.size hg)
theorem own_zero7 {t : TypeId} (w : World) (B : Nat) (h : B ≤ w.heap.size) (size : Nat) : (w.alloc (.cells #[] t)).ownsRow B t size (.slice (some ⟨w.heap.size, 0, none⟩) 0 0) 0 [] :=
  ⟨by simp, .inr ⟨w.heap.size, 0, #[], rfl, h, World.alloc_heap_new w _, Nat.le_refl _, by unfold maxLen; omega, by simp, by simp⟩⟩
theorem news_at7 {w : World} {n : Nat} {cs : Array Value} {t : TypeId} (h : n = w.heap.size) : (w.alloc (.cells cs t)).heap[n]? = some (.cells cs t (0, 0)) := by subst h; exact World.alloc_heap_new w _
theorem plan_own7 {W : World} {B k : Nat} {v : Value} {xs : List Value} {l : List Int} (h : W.ownsRow B 3 1 v k xs) (hx : xs = intsV l) (hk : k = l.length) : PlanAt W v l := by
  subst hx hk
  exact ⟨h.1, h.2.imp id fun ⟨g, cap, cur, h1, h2, h3⟩ => ⟨g, cap, cur, h1, Nat.zero_le _, h3⟩⟩
theorem wr' {x : Int} (h : -9223372036854775808 ≤ x) (h' : x ≤ 9223372036854775807) : IntKind.i64.wrap x = x := IntWalk.i64_in x ⟨h, h'⟩
def RetPs (B : Nat) (O : List (List Int)) (W : World) (e : Ending) (W' : World) : Prop := ∃ A c vs, e = .returned (.slice A O.length c) ∧ W'.ownsRow B 28 1 (.slice A O.length c) O.length vs ∧ RowsAt W' vs O ∧ KeepI W W' ∧ Below B W W'
theorem plans_cnt (D k : Nat) (b : List Int) : (plansL D k b).length = D ^ k := by simp [plansL, tails_len]
/-- All plans that begin with some, and then a number less than one. -/
def doneL (D k : Nat) (b : List Int) (d : Nat) : List (List Int) := (List.range d).flatMap fun (e : Nat) => plansL D k (b ++ [(e : Int)])
theorem done_succ (D k : Nat) (b : List Int) (d : Nat) : doneL D k b (d + 1) = doneL D k b d ++ plansL D k (b ++ [(d : Int)]) := by
  unfold doneL
  rw [List.range_succ, List.flatMap_append]
  simp
theorem done_len (D k : Nat) (b : List Int) : ∀ d, (doneL D k b d).length = d * D ^ k
  | 0 => by simp [doneL]
  | d + 1 => by rw [done_succ, List.length_append, done_len D k b d, plans_cnt, Nat.add_mul]; omega
theorem plan_form {W : World} {v : Value} {l : List Int} (h : PlanAt W v l) : ∃ A c, v = .slice A l.length c := by
  rcases h.2 with ⟨h1, h2⟩ | ⟨g, cap, cur, h1, -⟩
  · exact ⟨none, 0, by rw [h1, h2]⟩
  · exact ⟨_, _, h1⟩
set_option maxRecDepth 100000 in
set_option maxHeartbeats 2000000 in
theorem plans_zero_any (B D m : Nat) (b : List Int) (A A' : Option Addr) (c c' : Nat) (vs : List Value) (O : List (List Int)) (W : World) (hbm : b.length = m) (hm : m ≤ 8) (hP : PlanAt W (.slice A' b.length c') b) (hO : W.ownsRow B 28 1 (.slice A O.length c) O.length vs) (hR : RowsAt W vs O) (hB : B ≤ W.heap.size) (hn : O.length ≤ 100000) :
    Calls Try.prog 76 #[.int .i64 (m : Int), .int .i64 (D : Int), .slice A' b.length c', .slice A O.length c] W (RetPs B (O ++ [b]) W) := by
  obtain ⟨i0, hi, hz0, hz1, hz2⟩ := info_parts rowsInfo
  subst hbm
  have hl0 : (0 : Int) ≤ b.length := by omega
  have hl1 : (b.length : Int) ≤ 8 := by omega
  have HO := Lib.hid hO
  have HR := Lib.hid hR
  have HP := Lib.hid hP
  have hb1 : Below W.heap.size W (W.alloc (.cells #[.slice A' b.length c'] 28)) := (Below.refl _ _).alloc (Nat.le_refl _) _
  have HB1 := Lib.hid hb1
  have HBZ := Lib.hid hB
  clear hO hR hP hb1
  go_enter Try.func76, Try.ntmps76
  go_wp2_with (at_builtin; refine wpList_append_lies _ (by rfl) _ _ 98 (by rfl) B 28 i0 _ 1 24 und_rows hi hz0 hz1 hz2 rfl (by decide) (.slice A O.length c) O.length vs (by rfl) (own_call7 HO.out HB1.out) ⟨W.heap.size, 0, none⟩ 1 1 [.slice A' b.length c'] (by rfl) (by rfl) (World.news_of_block (cs := #[.slice A' b.length c']) (t := 28) (fr := (0, 0)) (World.alloc_heap_new W _)) (by simp [Value.oneCell']) (by omega) (by unfold maxLen; omega) (by omega) (by simp; omega) (W.heap.size + 1) (by simp) ?_; intro g cap w2 hown hgr hat hlt; have HW := Lib.hid hown; have HG := Lib.hid hgr; clear hown hgr hat hlt)
  go_ret
  have hk : KeepI W w2 := (KeepI.below HB1.out).trans (keepI_own (own_call7 HO.out HB1.out) (by decide) HG.out)
  refine ⟨some ⟨g, 0, none⟩, cap, vs ++ [.slice A' b.length c'], ?_, ?_, (HR.out.keep hk).snoc (HP.out.keep hk), hk, (HB1.out.mono HBZ.out).trans (below_own7 (own_call7 HO.out HB1.out) (by simp; omega) HG.out)⟩
  · rw [show (O ++ [b]).length = O.length + 1 by simp]; rfl
  · rw [show (O ++ [b]).length = O.length + 1 by simp]
    exact HW.out
set_option maxRecDepth 100000 in
set_option maxHeartbeats 2000000 in
theorem plans_any (B D : Nat) (hD : D ≤ 4) : ∀ (k m : Nat) (b : List Int) (A A' : Option Addr) (c c' : Nat) (vs : List Value) (O : List (List Int)) (W : World), b.length + k = m → m ≤ 8 → PlanAt W (.slice A' b.length c') b → W.ownsRow B 28 1 (.slice A O.length c) O.length vs → RowsAt W vs O → B ≤ W.heap.size → O.length + D ^ k ≤ 100000 →
    Calls Try.prog 76 #[.int .i64 (m : Int), .int .i64 (D : Int), .slice A' b.length c', .slice A O.length c] W (RetPs B (O ++ plansL D k b) W)
  | 0, m, b, A, A', c, c', vs, O, W, hbm, hm, hP, hO, hR, hB, hn => by
    rw [plans_zero]
    exact plans_zero_any B D m b A A' c c' vs O W (by omega) hm hP hO hR hB (by omega)
  | k + 1, m, b, A, A', c, c', vs, O, W, hbm, hm, hP, hO, hR, hB, hn => by
    rcases hP.2 with ⟨hv, hbl⟩ | ⟨g0, cap0, cur0, hv, hg0, hcell0, -⟩
    · obtain ⟨rfl, rfl⟩ : A' = none ∧ c' = 0 := by rw [Value.slice.injEq] at hv; exact ⟨hv.1, hv.2.2⟩
      have hbn := List.eq_nil_of_length_eq_zero hbl
      clear hv hbl
      subst hbn
      simp only [List.length_nil] at hP ⊢
      have IH := fun m b A A' c c' vs O W => plans_any B D hD k m b A A' c c' vs O W
      have HIH := Lib.hid IH
      obtain ⟨i0, hi, hz0, hz1, hz2⟩ := info_parts planInfo
      have ht : (0 == m) = false := by rw [beq_eq_false_iff_ne]; omega
      have ht2 : ¬ 0 = m := by omega
      have ht3 : ((0 : Int) == m) = false := by rw [beq_eq_false_iff_ne]; simp at hbm; omega
      have hl0 : (0 : Int) ≤ 0 := by omega
      have hl1 : (0 : Int) ≤ 8 := by omega
      have HST : Hid (W.ownsRow B 28 1 (.slice A (O ++ doneL D k [] 0).length c) (O ++ doneL D k [] 0).length vs ∧ RowsAt W vs (O ++ doneL D k [] 0)) := Lib.hid (by simp only [doneL, List.range_zero, List.flatMap_nil, List.append_nil]; exact ⟨hO, hR⟩)
      have hs0 : Value.slice A O.length c = .slice A (O ++ doneL D k [] 0).length c := by simp [doneL]
      have HP := Lib.hid hP
      have HBM := Lib.hid hbm
      have HBZ := Lib.hid hB
      have HN := Lib.hid hn
      have HD := Lib.hid hD
      have HM := Lib.hid hm
      have HE : Hid (plansL D (k + 1) [] = doneL D k [] D) := Lib.hid (plans_succ D k [])
      rw [hs0]
      clear hO hR hP hbm IH hn hs0
      go_enter Try.func76, Try.ntmps76
      go_wp2_with fail
      go_loopw [9, 3] (fun d o wr => ∃ j : Nat, j ≤ D ∧ d = .int .i64 j ∧ ∃ A2 c2 vs2 N, o = .slice A2 N c2 ∧ Hid (N = (O ++ doneL D k [] j).length) ∧ Hid (wr.ownsRow B 28 1 (.slice A2 (O ++ doneL D k [] j).length c2) (O ++ doneL D k [] j).length vs2) ∧ Hid (RowsAt wr vs2 (O ++ doneL D k [] j)) ∧ Hid (KeepI W wr) ∧ Hid (Below B W wr)) (fun d _ _ => D - (intOf d).toNat)
      case atStart => exact ⟨0, Nat.zero_le _, rfl, A, c, vs, _, rfl, Lib.hid (by simp), Lib.hid HST.out.1, Lib.hid HST.out.2, Lib.hid (KeepI.refl _), Lib.hid (Below.refl _ _)⟩
      case round =>
        clear HST
        obtain ⟨j, hj, rfl, A2, c2, vs2, N, rfl, HNN, HO, HR, HK, HB⟩ := hrel
        by_cases hlt : j < D
        · have hlt' : (j : Int) < D := by omega
          have hz : B ≤ wr.heap.size := Nat.le_trans HBZ.out HB.out.size
          have HX : Hid (O ++ doneL D k [] (j + 1) = O ++ doneL D k [] j ++ plansL D k ([] ++ [(j : Int)])) := Lib.hid (by rw [done_succ, List.append_assoc])
          have hcnt : (O ++ doneL D k [] j).length + D ^ k ≤ 100000 := by
            rw [List.length_append, done_len]
            have h1 := HN.out
            rw [Nat.pow_succ, Nat.mul_comm] at h1
            have h2 : (j + 1) * D ^ k ≤ D * D ^ k := Nat.mul_le_mul_right _ hlt
            rw [Nat.add_mul] at h2
            omega
          have HCN := Lib.hid hcnt
          generalize O ++ doneL D k [] j = P at *
          clear hcnt
          obtain rfl := HNN.out
          clear HNN
          have hwj : IntKind.i64.wrap ((j : Int) + 1) = (j : Int) + 1 := wr' (by omega) (by omega)
          have HCALL : Hid (∀ (g cap : Nat) (A2 : Option Addr) (c2 : Nat) (vs : List Value) (W : World), PlanAt W (.slice (some ⟨g, 0, none⟩) 1 cap) ([] ++ [(j : Int)]) → W.ownsRow B 28 1 (.slice A2 P.length c2) P.length vs → RowsAt W vs P → B ≤ W.heap.size → Calls Try.prog 76 #[.int .i64 (m : Int), .int .i64 (D : Int), .slice (some ⟨g, 0, none⟩) 1 cap, .slice A2 P.length c2] W (RetPs B (P ++ plansL D k ([] ++ [(j : Int)])) W)) := Lib.hid fun g cap A2 c2 vs W h1 h2 h3 h4 => by
            have h9 := HIH.out m ([] ++ [(j : Int)]) A2 (some ⟨g, 0, none⟩) c2 cap vs P W (by have := HBM.out; simp at this ⊢; omega) HM.out (by simpa using h1) h2 h3 h4 HCN.out
            simpa using h9
          have HB0 : Hid (Below wr.heap.size wr (wr.alloc (.cells #[] 3))) := Lib.hid ((Below.refl _ _).alloc (Nat.le_refl _) _)
          have HD7 : Hid (D ≤ 4) := HD
          clear HCN HIH HN HE HM HBM HD
          have hj9 : j ≤ 4 := by have := HD7.out; omega
          go_wp2_with (first | (at_builtin; refine wpList_append_own_none (by rfl) (.tmp 25) (.tmp 26) 28 (by rfl) wr.heap.size 3 i0 1 und_ints hi (.slice (some ⟨wr.heap.size, 0, none⟩) 0 0) 0 [] (by rfl) (own_zero7 wr wr.heap.size (Nat.le_refl _) 1) (by rfl) ?_) | (at_builtin; refine wpList_append_lies _ (by rfl) (.tmp 27) (.tmp 29) 28 (by rfl) wr.heap.size 3 i0 _ 1 8 und_ints hi hz0 hz1 hz2 rfl (by decide) (.slice (some ⟨wr.heap.size, 0, none⟩) 0 0) 0 [] (by rfl) ((own_zero7 wr wr.heap.size (Nat.le_refl _) 1).alloc _) ⟨wr.heap.size + 1, 0, none⟩ 1 1 [.int .i64 (j : Int)] (by rfl) (by rfl) (World.news_of_block (cs := #[.int .i64 (j : Int)]) (t := 3) (fr := (0, 0)) (news_at7 (by simp))) (by simp [Value.oneCell']) (by omega) (by unfold maxLen; omega) (by omega) (by simp; omega) (wr.heap.size + 1 + 1) (by simp) ?_; intro g4 cap4 w4 hown hgr hat hlt4; have HO4 := Lib.hid hown; have HG4 := Lib.hid hgr; clear hown hgr hat hlt4))
          have HB4 : Hid (Below wr.heap.size wr w4) := Lib.hid (below_new7 (HB0.out.alloc HB0.out.size _) ((own_zero7 wr wr.heap.size (Nat.le_refl _) 1).alloc _) HG4.out)
          have HP4 : Hid (PlanAt w4 (.slice (some ⟨g4, 0, none⟩) 1 cap4) ([] ++ [(j : Int)])) := Lib.hid (plan_own7 (l := [] ++ [(j : Int)]) (k := 0 + 1) HO4.out rfl rfl)
          clear HG4 HO4
          refine (HCALL.out g4 cap4 A2 c2 vs2 w4 HP4.out (own_call7 HO.out HB4.out) (HR.out.keep (.below HB4.out)) (Nat.le_trans hz HB4.out.size)).mono ?_
          rintro e w5 ⟨A5, c5, vs5, rfl, hO5, hR5, hK5, hB5⟩
          have HS5 := Lib.hid (And.intro hO5 (And.intro hR5 (And.intro ((HK.out.trans (.below HB4.out)).trans hK5) ((HB.out.trans (HB4.out.mono hz)).trans hB5))))
          clear hO5 hR5 hK5 hB5 HO HR HK HB HB4 HP4 HCALL
          go_wp2_with fail
          go_roundw
          case rel =>
            obtain ⟨k1, k2, k3, k4⟩ := HS5.out
            rw [← HX.out] at k1 k2
            exact ⟨j + 1, by omega, by go_num, A5, c5, vs5, _, rfl, Lib.hid (by rw [HX.out, List.length_append]; rfl), Lib.hid k1, Lib.hid k2, Lib.hid k3, Lib.hid k4⟩
          case measure => simp [intOf]; omega
        · obtain rfl : j = D := by omega
          have hlt' : ¬ (j : Int) < j := by omega
          clear hlt
          go_wp2_with fail
          go_ret
          rw [HE.out]
          exact ⟨A2, c2, vs2, by rw [← HNN.out]; rfl, HO.out, HR.out, HK.out, HB.out⟩
    · obtain ⟨rfl, rfl⟩ : A' = some ⟨g0, 0, none⟩ ∧ c' = cap0 := by cases hv; exact ⟨rfl, rfl⟩
      clear hv hcell0 hg0 cur0
      have IH := fun m b A A' c c' vs O W => plans_any B D hD k m b A A' c c' vs O W
      have HIH := Lib.hid IH
      obtain ⟨i0, hi, hz0, hz1, hz2⟩ := info_parts planInfo
      have ht : (b.length == m) = false := by rw [beq_eq_false_iff_ne]; omega
      have ht2 : ¬ b.length = m := by omega
      have ht3 : ((b.length : Int) == m) = false := by rw [beq_eq_false_iff_ne]; omega
      have hl0 : (0 : Int) ≤ b.length := by omega
      have hl1 : (b.length : Int) ≤ 8 := by omega
      have HST : Hid (W.ownsRow B 28 1 (.slice A (O ++ doneL D k b 0).length c) (O ++ doneL D k b 0).length vs ∧ RowsAt W vs (O ++ doneL D k b 0)) := Lib.hid (by simp only [doneL, List.range_zero, List.flatMap_nil, List.append_nil]; exact ⟨hO, hR⟩)
      have hs0 : Value.slice A O.length c = .slice A (O ++ doneL D k b 0).length c := by simp [doneL]
      have HP := Lib.hid hP
      have HBM := Lib.hid hbm
      have HBZ := Lib.hid hB
      have HN := Lib.hid hn
      have HD := Lib.hid hD
      have HM := Lib.hid hm
      have HE : Hid (plansL D (k + 1) b = doneL D k b D) := Lib.hid (plans_succ D k b)
      rw [hs0]
      clear hO hR hP hbm IH hn hs0
      go_enter Try.func76, Try.ntmps76
      go_wp2_with fail
      go_loopw [9, 3] (fun d o wr => ∃ j : Nat, j ≤ D ∧ d = .int .i64 j ∧ ∃ A2 c2 vs2 N, o = .slice A2 N c2 ∧ Hid (N = (O ++ doneL D k b j).length) ∧ Hid (wr.ownsRow B 28 1 (.slice A2 (O ++ doneL D k b j).length c2) (O ++ doneL D k b j).length vs2) ∧ Hid (RowsAt wr vs2 (O ++ doneL D k b j)) ∧ Hid (KeepI W wr) ∧ Hid (Below B W wr)) (fun d _ _ => D - (intOf d).toNat)
      case atStart => exact ⟨0, Nat.zero_le _, rfl, A, c, vs, _, rfl, Lib.hid (by simp), Lib.hid HST.out.1, Lib.hid HST.out.2, Lib.hid (KeepI.refl _), Lib.hid (Below.refl _ _)⟩
      case round =>
        clear HST
        obtain ⟨j, hj, rfl, A2, c2, vs2, N, rfl, HNN, HO, HR, HK, HB⟩ := hrel
        by_cases hlt : j < D
        · have hlt' : (j : Int) < D := by omega
          have hz : B ≤ wr.heap.size := Nat.le_trans HBZ.out HB.out.size
          have HX : Hid (O ++ doneL D k b (j + 1) = O ++ doneL D k b j ++ plansL D k (b ++ [(j : Int)])) := Lib.hid (by rw [done_succ, List.append_assoc])
          have hcnt : (O ++ doneL D k b j).length + D ^ k ≤ 100000 := by
            rw [List.length_append, done_len]
            have h1 := HN.out
            rw [Nat.pow_succ, Nat.mul_comm] at h1
            have h2 : (j + 1) * D ^ k ≤ D * D ^ k := Nat.mul_le_mul_right _ hlt
            rw [Nat.add_mul] at h2
            omega
          have HCN := Lib.hid hcnt
          generalize O ++ doneL D k b j = P at *
          clear hcnt
          obtain rfl := HNN.out
          clear HNN
          have hwj : IntKind.i64.wrap ((j : Int) + 1) = (j : Int) + 1 := wr' (by omega) (by omega)
          have HCALL : Hid (∀ (g cap : Nat) (A2 : Option Addr) (c2 : Nat) (vs : List Value) (W : World), PlanAt W (.slice (some ⟨g, 0, none⟩) (b.length + 1) cap) (b ++ [(j : Int)]) → W.ownsRow B 28 1 (.slice A2 P.length c2) P.length vs → RowsAt W vs P → B ≤ W.heap.size → Calls Try.prog 76 #[.int .i64 (m : Int), .int .i64 (D : Int), .slice (some ⟨g, 0, none⟩) (b.length + 1) cap, .slice A2 P.length c2] W (RetPs B (P ++ plansL D k (b ++ [(j : Int)])) W)) := Lib.hid fun g cap A2 c2 vs W h1 h2 h3 h4 => by
            have h9 := HIH.out m (b ++ [(j : Int)]) A2 (some ⟨g, 0, none⟩) c2 cap vs P W (by have := HBM.out; simp; omega) HM.out (by simpa using h1) h2 h3 h4 HCN.out
            simpa using h9
          have HB0 : Hid (Below wr.heap.size wr (wr.alloc (.cells #[] 3))) := Lib.hid ((Below.refl _ _).alloc (Nat.le_refl _) _)
          have HD7 : Hid (D ≤ 4) := HD
          clear HCN HIH HN HE HM HBM HD
          have hj9 : j ≤ 4 := by have := HD7.out; omega
          have HPW : Hid (PlanAt wr (.slice (some ⟨g0, 0, none⟩) b.length c') b) := Lib.hid (HP.out.keep HK.out)
          have HNW : Hid (∀ (i : Nat) u, (intsV b)[i]? = some u → (wr.alloc (.cells #[] 3)).cell? ((⟨g0, 0, none⟩ : Addr).add i) = some u) := Lib.hid (plan_news (HPW.out.below HB0.out))
          have hlb : (intsV b).length = b.length * 1 := by simp [intsV]
          have HLB := Lib.hid hlb
          have HL8 : Hid (b.length ≤ 8) := Lib.hid (by omega)
          clear hlb
          go_wp2_with (first | (at_builtin; refine wpList_append_own _ (by rfl) (.tmp 25) (.tmp 26) 28 (by rfl) wr.heap.size 3 i0 _ 1 8 und_ints hi hz0 hz1 hz2 rfl (by decide) (.slice (some ⟨wr.heap.size, 0, none⟩) 0 0) 0 [] (by rfl) (own_zero7 wr wr.heap.size (Nat.le_refl _) 1) ⟨g0, 0, none⟩ b.length c' (intsV b) (by rfl) HLB.out HNW.out (intsV_one _) (by have := HL8.out; unfold maxLen; omega) (by have := HL8.out; omega) (by simp) ?_; intro v3 w3 hown hgr hnn; have HO3 := Lib.hid hown; have HG3 := Lib.hid hgr; clear hown hgr hnn) | (at_builtin; refine wpList_append_lies _ (by rfl) (.tmp 27) (.tmp 29) 28 (by rfl) wr.heap.size 3 i0 _ 1 8 und_ints hi hz0 hz1 hz2 rfl (by decide) v3 (0 + b.length) ([] ++ intsV b) (by rfl) (HO3.out.alloc _) ⟨w3.heap.size, 0, none⟩ 1 1 [.int .i64 (j : Int)] (by rfl) (by rfl) (World.news_of_block (cs := #[.int .i64 (j : Int)]) (t := 3) (fr := (0, 0)) (World.alloc_heap_new w3 _)) (by simp [Value.oneCell']) (by omega) (by have := HL8.out; unfold maxLen; omega) (by have := HL8.out; omega) (by have := HG3.out.size; simp at this; simp; omega) (w3.heap.size + 1) (by simp) ?_; intro g4 cap4 w4 hown hgr hat hlt4; have HO4 := Lib.hid hown; have HG4 := Lib.hid hgr; clear hown hgr hat hlt4))
          have HB3 := Lib.hid (below_new7 HB0.out (own_zero7 wr wr.heap.size (Nat.le_refl _) 1) HG3.out)
          have HB4 : Hid (Below wr.heap.size wr w4) := Lib.hid (below_new7 (HB3.out.alloc HB3.out.size _) (HO3.out.alloc _) HG4.out)
          have HP4 : Hid (PlanAt w4 (.slice (some ⟨g4, 0, none⟩) (b.length + 1) cap4) (b ++ [(j : Int)])) := Lib.hid (by have h := HO4.out; simp only [Nat.zero_add, List.nil_append] at h; exact plan_own7 h (by simp [intsV]) (by simp))
          clear HG4 HO4
          refine (HCALL.out g4 cap4 A2 c2 vs2 w4 HP4.out (own_call7 HO.out HB4.out) (HR.out.keep (.below HB4.out)) (Nat.le_trans hz HB4.out.size)).mono ?_
          rintro e w5 ⟨A5, c5, vs5, rfl, hO5, hR5, hK5, hB5⟩
          have HS5 := Lib.hid (And.intro hO5 (And.intro hR5 (And.intro ((HK.out.trans (.below HB4.out)).trans hK5) ((HB.out.trans (HB4.out.mono hz)).trans hB5))))
          clear hO5 hR5 hK5 hB5 HO HR HK HB HB4 HP4 HCALL
          go_wp2_with fail
          go_roundw
          case rel =>
            obtain ⟨k1, k2, k3, k4⟩ := HS5.out
            rw [← HX.out] at k1 k2
            exact ⟨j + 1, by omega, by go_num, A5, c5, vs5, _, rfl, Lib.hid (by rw [HX.out, List.length_append]), Lib.hid k1, Lib.hid k2, Lib.hid k3, Lib.hid k4⟩
          case measure => simp [intOf]; omega
        · obtain rfl : j = D := by omega
          have hlt' : ¬ (j : Int) < j := by omega
          clear hlt
          go_wp2_with fail
          go_ret
          rw [HE.out]
          exact ⟨A2, c2, vs2, by rw [← HNN.out]; rfl, HO.out, HR.out, HK.out, HB.out⟩
end Go.Proofs.Ytdadgljllnkppaa
