/- Walks: the numbers next to a number; the settings next to a setting. -/
import Derived.Test.YtfpfafijockfnaaXk
import Derived.Deep.AppendLies
import Derived.Laws.AppendOwnNone
namespace Go.Proofs.Ytfpfafijockfnaa
open Go.RowKit Go.Shelf

def RetOut (l : List Int) (w : World) (e : Ending) (w' : World) : Prop := ∃ A c, e = .returned (.slice A l.length c) ∧ PlanAt w' (.slice A l.length c) l ∧ Below w.heap.size w w'
set_option maxRecDepth 100000 in
set_option maxHeartbeats 2000000 in
theorem outward5_any (n : Int) (w : World) (h0 : -40 ≤ n) (h1 : n ≤ 40) : Calls Try.prog 104 #[.int .i64 n] w (RetOut (outL n) w) := by
  obtain ⟨i0, hi, hz0, hz1, hz2⟩ := info_parts planInfo
  have hb1 : ∀ x, Below w.heap.size w (w.alloc (.cells #[.int .i64 x] 3)) := fun x => (Below.refl _ _).alloc (Nat.le_refl _) _
  have e1 : IntKind.i64.wrap (n - 1) = n - 1 := IntWalk.i64_in _ ⟨by omega, by omega⟩
  have e2 : IntKind.i64.wrap (n + 1) = n + 1 := IntWalk.i64_in _ ⟨by omega, by omega⟩
  have HB1 := Lib.hid hb1
  clear hb1
  by_cases c1 : -40 < n ∧ n ≤ 0
  · obtain ⟨d1, d2⟩ := c1
    by_cases c2 : 0 ≤ n
    · obtain rfl : n = 0 := by omega
      have HL : Hid (outL 0 = [-1, 1]) := Lib.hid (by decide)
      rw [HL.out]
      go_enter Try.func104, Try.ntmps104
      go_wp2_with (first | (at_builtin; refine wpList_append_lies _ (by rfl) (.tmp 10) (.tmp 13) 27 (by rfl) w.heap.size 3 i0 _ 1 8 und_ints hi hz0 hz1 hz2 rfl (by decide) (.slice none 0 0) 0 [] (by rfl) (World.ownsRow_nil _ _ _ _) ⟨w.heap.size, 0, none⟩ 1 1 [.int .i64 (-1)] (by rfl) (by rfl) (World.news_of_block (cs := #[.int .i64 (-1)]) (t := 3) (fr := (0, 0)) (World.alloc_heap_new w _)) (by simp [Value.oneCell']) (by omega) (by unfold maxLen; omega) (by omega) (by simp) (w.heap.size + 1) (by simp) ?_; intro g cap w2 hown hgr hat hlt; have HO := Lib.hid hown; have HG := Lib.hid hgr; clear hown hgr hat hlt) | (at_builtin; refine wpList_append_lies _ (by rfl) (.tmp 21) (.tmp 24) 27 (by rfl) w.heap.size 3 i0 _ 1 8 und_ints hi hz0 hz1 hz2 rfl (by decide) (.slice (some ⟨g, 0, none⟩) (0 + 1) cap) (0 + 1) ([] ++ [.int .i64 (-1)]) (by rfl) (HO.out.alloc _) ⟨w2.heap.size, 0, none⟩ 1 1 [.int .i64 1] (by rfl) (by rfl) (World.news_of_block (cs := #[.int .i64 1]) (t := 3) (fr := (0, 0)) (World.alloc_heap_new w2 _)) (by simp [Value.oneCell']) (by omega) (by unfold maxLen; omega) (by omega) (by have := HG.out.size; simp at this; simp; omega) (w2.heap.size + 1) (by simp) ?_; intro g3 cap3 w3 hown hgr hat hlt; have HO3 := Lib.hid hown; have HG3 := Lib.hid hgr; clear hown hgr hat hlt))
      go_ret
      have hB2 := below_own8 (World.ownsRow_nil (w.alloc (.cells #[.int .i64 (-1)] 3)) w.heap.size 3 1) (by simp) HG.out
      have hB3 := (HB1.out (-1)).trans hB2
      exact ⟨some ⟨g3, 0, none⟩, cap3, rfl, plan_of_own8 HO3.out rfl rfl, (hB3.alloc hB3.size _).trans (below_own8 (HO.out.alloc _) (by have := hB3.size; simp; omega) HG3.out)⟩
    · have d3 : ¬ 0 ≤ n := c2
      have HL : Hid (outL n = [n - 1]) := Lib.hid (by unfold outL; rw [if_pos ⟨d1, d2⟩, if_neg (by omega)]; rfl)
      rw [HL.out]
      go_enter Try.func104, Try.ntmps104
      go_wp2_with (at_builtin; refine wpList_append_lies _ (by rfl) (.tmp 10) (.tmp 13) 27 (by rfl) w.heap.size 3 i0 _ 1 8 und_ints hi hz0 hz1 hz2 rfl (by decide) (.slice none 0 0) 0 [] (by rfl) (World.ownsRow_nil _ _ _ _) ⟨w.heap.size, 0, none⟩ 1 1 [.int .i64 (n - 1)] (by rfl) (by rfl) (World.news_of_block (cs := #[.int .i64 (n - 1)]) (t := 3) (fr := (0, 0)) (World.alloc_heap_new w _)) (by simp [Value.oneCell']) (by omega) (by unfold maxLen; omega) (by omega) (by simp) (w.heap.size + 1) (by simp) ?_; intro g cap w2 hown hgr hat hlt; have HO := Lib.hid hown; have HG := Lib.hid hgr; clear hown hgr hat hlt)
      go_ret
      exact ⟨some ⟨g, 0, none⟩, cap, rfl, plan_of_own8 HO.out rfl rfl, (HB1.out _).trans (below_own8 (World.ownsRow_nil (w.alloc (.cells #[.int .i64 (n - 1)] 3)) w.heap.size 3 1) (by simp) HG.out)⟩
  · have hc1 : decide (-40 < n) = true ∧ decide (n ≤ 0) = false ∨ decide (-40 < n) = false := by
      by_cases h : -40 < n
      · exact .inl ⟨decide_eq_true h, decide_eq_false (by omega)⟩
      · exact .inr (decide_eq_false h)
    by_cases c2 : 0 ≤ n ∧ n < 40
    · obtain ⟨d1, d2⟩ := c2
      have d3 : -40 < n := by omega
      have d4 : ¬ n ≤ 0 := by omega
      have d5 : decide (n ≤ 0) = false := decide_eq_false d4
      have HL : Hid (outL n = [n + 1]) := Lib.hid (by unfold outL; rw [if_neg c1, if_pos ⟨d1, d2⟩]; rfl)
      rw [HL.out]
      clear c1 hc1
      go_enter Try.func104, Try.ntmps104
      go_wp2_with (at_builtin; refine wpList_append_lies _ (by rfl) (.tmp 21) (.tmp 24) 27 (by rfl) w.heap.size 3 i0 _ 1 8 und_ints hi hz0 hz1 hz2 rfl (by decide) (.slice none 0 0) 0 [] (by rfl) (World.ownsRow_nil _ _ _ _) ⟨w.heap.size, 0, none⟩ 1 1 [.int .i64 (n + 1)] (by rfl) (by rfl) (World.news_of_block (cs := #[.int .i64 (n + 1)]) (t := 3) (fr := (0, 0)) (World.alloc_heap_new w _)) (by simp [Value.oneCell']) (by omega) (by unfold maxLen; omega) (by omega) (by simp) (w.heap.size + 1) (by simp) ?_; intro g cap w2 hown hgr hat hlt; have HO := Lib.hid hown; have HG := Lib.hid hgr; clear hown hgr hat hlt)
      go_ret
      exact ⟨some ⟨g, 0, none⟩, cap, rfl, plan_of_own8 HO.out rfl rfl, (HB1.out _).trans (below_own8 (World.ownsRow_nil (w.alloc (.cells #[.int .i64 (n + 1)] 3)) w.heap.size 3 1) (by simp) HG.out)⟩
    · have HL : Hid (outL n = []) := Lib.hid (by unfold outL; rw [if_neg c1, if_neg c2]; rfl)
      rw [HL.out]
      have hn : n = -40 ∨ n = 40 := by omega
      clear c1 c2 hc1 e1 e2 h0 h1 HL
      rcases hn with rfl | rfl
      all_goals
        go_enter Try.func104, Try.ntmps104
        go_wp2_with fail
        go_ret
        exact ⟨none, 0, rfl, World.ownsRow_nil _ _ _ _, Below.refl _ _⟩
def RetSets (l : List Setg) (w : World) (e : Ending) (w' : World) : Prop := ∃ A c, e = .returned (.slice A l.length c) ∧ SetsAt w.heap.size w' (.slice A l.length c) l ∧ Below w.heap.size w w'
/-- While the settings are gathered. -/
structure FuS (w : World) (s : Setg) (A : Option Addr) (c : Nat) (l : List Setg) (W : World) : Prop where
  hb : Below w.heap.size w W
  k1 : Blk W w.heap.size 102 #[.int .i64 s.side, .int .i64 s.height]
  row : SetsAt (w.heap.size + 1) W (.slice A l.length c) l
theorem FuS.call {w : World} {s : Setg} {A : Option Addr} {c : Nat} {l : List Setg} {W W' : World} (h : FuS w s A c l W) (hb : Below W.heap.size W W') : FuS w s A c l W' :=
  ⟨h.hb.trans (hb.mono h.hb.size), h.k1.below hb h.k1.lt, own_call8 h.row hb⟩
theorem FuS.push {w : World} {s : Setg} {A : Option Addr} {c : Nat} {l : List Setg} {W W' : World} (h : FuS w s A c l W) (x : Setg) {g cap : Nat} (hown : W'.ownsRow (w.heap.size + 1) 102 2 (.slice (some ⟨g, 0, none⟩) (l.length + 1) cap) (l.length + 1) (setsV l ++ [.int .i64 x.side, .int .i64 x.height])) (hg : (W.alloc (.cells #[.int .i64 x.side, .int .i64 x.height] 102)).grownBy W' (Value.slice A l.length c).ownBlock) :
    FuS w s (some ⟨g, 0, none⟩) cap (l ++ [x]) W' ∧ KeepT 3 W W' := by
  have h1 := h.call ((Below.refl _ _).alloc (Nat.le_refl _) (.cells #[.int .i64 x.side, .int .i64 x.height] 102))
  have hb := below_own8 h1.row h1.k1.lt hg
  refine ⟨⟨h1.hb.trans (hb.mono (by omega)), h1.k1.below hb (by omega), ?_⟩, (KeepT.below ((Below.refl _ _).alloc (Nat.le_refl _) _)).trans (KeepT.own h1.row (by decide) hg)⟩
  unfold SetsAt
  rw [setsV_append, List.length_append]
  exact hown
theorem ints_at8 {W : World} {A : Option Addr} {c : Nat} {l : List Int} (h : PlanAt W (.slice A l.length c) l) {k : Nat} (hk : k < l.length) : ∃ g, A = some ⟨g, 0, none⟩ ∧ W.cell? ⟨g, k, none⟩ = some (.int .i64 l[k]) := by
  obtain ⟨g, cap, he, -, hc⟩ := plan_cells h (by intro e; rw [e] at hk; simp at hk)
  refine ⟨g, by cases he; rfl, ?_⟩
  have := hc k (.int .i64 l[k]) (by simp [intsV, hk])
  have ha : (⟨g, 0, none⟩ : Addr).add k = ⟨g, k, none⟩ := by
    unfold Addr.add
    by_cases e : k = 0 <;> simp [e]
  rw [ha] at this
  exact this
set_option maxRecDepth 100000 in
set_option maxHeartbeats 2000000 in
theorem further5_any (s : Setg) (w : World) (hs : InSet s) : Calls Try.prog 84 #[.agg #[.int .i64 s.side, .int .i64 s.height]] w (RetSets (furL s) w) := by
  obtain ⟨i0, hi, hz0, hz1, hz2⟩ := info_parts setInfo
  have HF0 : Hid (FuS w s none 0 [] (w.alloc (.cells #[.int .i64 s.side, .int .i64 s.height] 102))) := Lib.hid ⟨by repeat (first | exact Below.refl _ _ | assumption | refine Below.drew ?_ | refine Below.alloc ?_ (by first | omega | (simp only [World.size_alloc]; omega) | simp) _ | refine Below.setCell ?_ (by first | omega | (simp only [World.size_alloc]; omega) | simp) _), Blk.new _ _ _, World.ownsRow_nil _ _ _ _⟩
  have HSD := Lib.hid hs
  have HW1 := Lib.hid fun W => outward5_any s.side W hs.1.1 hs.1.2
  have HW2 := Lib.hid fun W => outward5_any s.height W hs.2.1 hs.2.2
  have HL1 := Lib.hid (outL_len s.side)
  have HL2 := Lib.hid (outL_len s.height)
  have HFU : Hid (furL s = (if s.height = 0 then (outL s.side).map (⟨·, 0⟩) else []) ++ (outL s.height).map (⟨s.side, ·⟩)) := Lib.hid rfl
  generalize furL s = R at HFU ⊢
  generalize outL s.side = L1 at HW1 HL1 HFU
  generalize outL s.height = L2 at HW2 HL2 HFU
  have x1 := HF0.out.k1.cell 1
  have x0 := HF0.out.k1.cell 0
  clear hs
  go_enter Try.func84, Try.ntmps84
  obtain ⟨Q, hQ⟩ : ∃ Q, (if s.height = 0 then L1.map (fun z => (⟨z, 0⟩ : Setg)) else []) = Q := ⟨_, rfl⟩
  have HQL : Hid (Q.length ≤ 2) := Lib.hid (by rw [← hQ]; have := HL1.out; split <;> simp; omega)
  have HPQ0 := Lib.hid hQ
  rw [hQ] at HFU
  clear hQ
  go_upto_if 10 with fail
  generalize World.alloc w _ = V at HF0 x0 x1 ⊢
  go_cut [3] (fun v W => ∃ A c N, v = .slice A N c ∧ Hid (N = Q.length) ∧ Hid (FuS w s A c Q W))
  case first =>
    by_cases hz : s.height = 0
    · have hz' : (s.height == 0) = true := by rw [beq_iff_eq]; exact hz
      have HPQ : Hid (L1.map (fun z => (⟨z, 0⟩ : Setg)) = Q) := Lib.hid (by have := HPQ0.out; rw [if_pos hz] at this; exact this)
      clear hz
      go_wp2_with fail
      refine (HW1.out _).mono ?_
      rintro e W1 ⟨A1, c1, rfl, hp1, hb⟩
      have HF1 := Lib.hid (HF0.out.call hb)
      have HP1 := Lib.hid hp1
      clear hb hp1 HF0
      go_wp2_with fail
      go_loopw [15, 3] (fun i v wr => ∃ k : Nat, k ≤ L1.length ∧ i = .int .i64 k ∧ ∃ A c N, v = .slice A N c ∧ Hid (N = ((L1.take k).map (fun z => (⟨z, 0⟩ : Setg))).length) ∧ Hid (FuS w s A c ((L1.take k).map (fun z => (⟨z, 0⟩ : Setg))) wr) ∧ Hid (PlanAt wr (.slice A1 L1.length c1) L1)) (fun i _ _ => L1.length - (intOf i).toNat)
      case atStart => exact ⟨0, Nat.zero_le _, rfl, none, 0, 0, rfl, Lib.hid (by simp), HF1, HP1⟩
      case round =>
        clear HF1 HP1 x0 x1
        obtain ⟨k, hk, rfl, A2, c2, N, rfl, HN, HF, HP⟩ := hrel
        by_cases hlt : k < L1.length
        · obtain ⟨g0, hA1, hc0⟩ := ints_at8 HP.out hlt
          subst hA1
          have HX : Hid ((L1.take (k + 1)).map (fun z => (⟨z, 0⟩ : Setg)) = (L1.take k).map (fun z => (⟨z, 0⟩ : Setg)) ++ [⟨L1[k], 0⟩]) := Lib.hid (by rw [List.take_succ_eq_append_getElem hlt]; simp only [List.map_append, List.map_cons, List.map_nil])
          have HPL : Hid (((L1.take k).map (fun z => (⟨z, 0⟩ : Setg))).length ≤ 10) := Lib.hid (by have := HL1.out; simp; omega)
          have hk0 : (0 : Int) ≤ k := by omega
          have hk1 : (k : Int) < L1.length := by omega
          have hk2 : (L1.length : Int) ≤ 2 := by have := HL1.out; omega
          generalize L1[k] = z at *
          generalize (L1.take k).map (fun z => (⟨z, 0⟩ : Setg)) = P at *
          obtain rfl := HN.out
          clear HN hlt
          have tok : True := trivial
          clear tok
          go_wp2_with (at_builtin; refine wpList_append_lies _ (by rfl) _ _ 152 (by rfl) (w.heap.size + 1) 102 i0 _ 2 16 und_sets hi hz0 hz1 hz2 rfl (by decide) (.slice A2 P.length c2) P.length (setsV P) (by rfl) (World.ownsRow.alloc HF.out.row _) ⟨wr.heap.size, 0, none⟩ 1 1 [.int .i64 z, .int .i64 0] (by rfl) (by rfl) (World.news_of_block (cs := #[.int .i64 z, .int .i64 0]) (t := 102) (fr := (0, 0)) (World.alloc_heap_new wr _)) (by simp [Value.oneCell']) (by omega) (by have := HPL.out; unfold maxLen; omega) (by have := HPL.out; omega) (by have := HF.out.k1.lt; simp; omega) (wr.heap.size + 1) (by simp) ?_; intro g4 cap4 w4 hown hgr hat hlt4; have HF4 := Lib.hid (HF.out.push ⟨z, 0⟩ hown hgr); clear hown hgr hat hlt4)
          go_roundw
          case rel => exact ⟨k + 1, by omega, by go_num, _, _, _, rfl, Lib.hid (by rw [HX.out, List.length_append]; rfl), Lib.hid (by rw [HX.out]; exact HF4.out.1), Lib.hid (plan_keepT HP.out HF4.out.2)⟩
          case measure => simp [intOf]; omega
        · obtain rfl : L1.length = k := by omega
          have hlt' : ¬ (L1.length : Int) < L1.length := by omega
          rw [List.take_length] at HN HF
          clear hlt
          go_wp2_with fail
          go_meet
          exact ⟨A2, c2, N, rfl, Lib.hid (by rw [← HPQ.out]; exact HN.out), Lib.hid (by rw [← HPQ.out]; exact HF.out)⟩
    · have hz' : (s.height == 0) = false := by rw [beq_eq_false_iff_ne]; exact hz
      have HPQ : Hid (Q = []) := Lib.hid (by have := HPQ0.out; rw [if_neg hz] at this; exact this.symm)
      clear hz
      go_wp2_with fail
      go_meet
      exact ⟨none, 0, 0, rfl, Lib.hid (by rw [HPQ.out]; rfl), Lib.hid (by rw [HPQ.out]; exact HF0.out)⟩
  case rest =>
    obtain ⟨A5, c5, N5, rfl, HN5, HF5⟩ := hcut
    clear HF0 x0 x1 HPQ0 HW1 HL1
    have x1 := HF5.out.k1.cell 1
    go_wp2_with fail
    refine (HW2.out _).mono ?_
    rintro e W1 ⟨A1, c1, rfl, hp1, hb⟩
    have HF1 := Lib.hid (HF5.out.call hb)
    have HP1 := Lib.hid hp1
    clear hb hp1 HF5 x1
    go_wp2_with fail
    go_loopw [29, 3] (fun i v wr => ∃ k : Nat, k ≤ L2.length ∧ i = .int .i64 k ∧ ∃ A c N, v = .slice A N c ∧ Hid (N = (Q ++ (L2.take k).map (fun z => (⟨s.side, z⟩ : Setg))).length) ∧ Hid (FuS w s A c (Q ++ (L2.take k).map (fun z => (⟨s.side, z⟩ : Setg))) wr) ∧ Hid (PlanAt wr (.slice A1 L2.length c1) L2)) (fun i _ _ => L2.length - (intOf i).toNat)
    case atStart => exact ⟨0, Nat.zero_le _, rfl, A5, c5, N5, rfl, Lib.hid (by simpa using HN5.out), Lib.hid (by simpa using HF1.out), HP1⟩
    case round =>
      clear HF1 HP1 HN5
      obtain ⟨k, hk, rfl, A2, c2, N, rfl, HN, HF, HP⟩ := hrel
      by_cases hlt : k < L2.length
      · obtain ⟨g0, hA1, hc0⟩ := ints_at8 HP.out hlt
        subst hA1
        have HX : Hid (Q ++ (L2.take (k + 1)).map (fun z => (⟨s.side, z⟩ : Setg)) = Q ++ (L2.take k).map (fun z => (⟨s.side, z⟩ : Setg)) ++ [⟨s.side, L2[k]⟩]) := Lib.hid (by rw [List.take_succ_eq_append_getElem hlt]; simp only [List.map_append, List.map_cons, List.map_nil, List.append_assoc])
        have HPL : Hid ((Q ++ (L2.take k).map (fun z => (⟨s.side, z⟩ : Setg))).length ≤ 10) := Lib.hid (by have := HL2.out; have := HQL.out; simp; omega)
        have hk0 : (0 : Int) ≤ k := by omega
        have hk1 : (k : Int) < L2.length := by omega
        have hk2 : (L2.length : Int) ≤ 2 := by have := HL2.out; omega
        generalize L2[k] = z at *
        generalize Q ++ (L2.take k).map (fun z => (⟨s.side, z⟩ : Setg)) = P at *
        obtain rfl := HN.out
        clear HN hlt
        have x0 := HF.out.k1.cell 0
        go_wp2_with (at_builtin; refine wpList_append_lies _ (by rfl) _ _ 152 (by rfl) (w.heap.size + 1) 102 i0 _ 2 16 und_sets hi hz0 hz1 hz2 rfl (by decide) (.slice A2 P.length c2) P.length (setsV P) (by rfl) (World.ownsRow.alloc HF.out.row _) ⟨wr.heap.size, 0, none⟩ 1 1 [.int .i64 s.side, .int .i64 z] (by rfl) (by rfl) (World.news_of_block (cs := #[.int .i64 s.side, .int .i64 z]) (t := 102) (fr := (0, 0)) (World.alloc_heap_new wr _)) (by simp [Value.oneCell']) (by omega) (by have := HPL.out; unfold maxLen; omega) (by have := HPL.out; omega) (by have := HF.out.k1.lt; simp; omega) (wr.heap.size + 1) (by simp) ?_; intro g4 cap4 w4 hown hgr hat hlt4; have HF4 := Lib.hid (HF.out.push ⟨s.side, z⟩ hown hgr); clear hown hgr hat hlt4)
        go_roundw
        case rel => exact ⟨k + 1, by omega, by go_num, _, _, _, rfl, Lib.hid (by rw [HX.out, List.length_append]; rfl), Lib.hid (by rw [HX.out]; exact HF4.out.1), Lib.hid (plan_keepT HP.out HF4.out.2)⟩
        case measure => simp [intOf]; omega
      · obtain rfl : L2.length = k := by omega
        have hlt' : ¬ (L2.length : Int) < L2.length := by omega
        rw [List.take_length] at HN HF
        clear hlt
        go_wp2_with fail
        go_ret
        rw [HFU.out]
        have hn := HN.out
        exact ⟨A2, c2, by rw [← hn]; rfl, own_low8 HF.out.row (by omega), HF.out.hb⟩
end Go.Proofs.Ytfpfafijockfnaa
