/- Walks: slices.Grow, slices.Concat of two lists of numbers, and a rest with one more die before it. -/
import Derived.Test.YtdadgljllnkppaaSt
import Derived.Lib.AppendZerosOnto
import Derived.Deep.AppendLies
import Derived.Laws.AppendOwnNone
import Derived.Lib.SlFresh
namespace Go.Proofs.Ytdadgljllnkppaa
open Go.RowKit Go.Shelf

def intsV (l : List Int) : List Value := l.map fun i => Value.int .i64 i
theorem intsV_len (l : List Int) : (intsV l).length = l.length := by simp [intsV]
theorem intsV_one (l : List Int) : ∀ u ∈ intsV l, u.oneCell' = true := fun u hu => by
  obtain ⟨i, -, rfl⟩ := List.mem_map.1 hu
  rfl
/-- A list of numbers that was made by the program itself. -/
def PlanAt (W : World) (v : Value) (l : List Int) : Prop := W.ownsRow 0 3 1 v l.length (intsV l)
theorem planInfo : (Try.prog.info? 3).map (fun i => (i.zero, i.size, i.bytes)) = some (some (.int .i64 0), 1, 8) := by kernel_rfl
theorem und_ints : Try.prog.underlying 28 = some (.slice 3) := by kernel_rfl
theorem und_int0 : Try.prog.underlying 3 = some (.int .i64) := by kernel_rfl
theorem fc_nil (w : World) : (Builtin.firstCells 1 0 (.slice none 0 0)).run Try.prog w = .ok (([] : List Value).toArray) w := by kernel_rfl
theorem zero_size (n : Nat) : (Builtin.zeroCells #[Value.int .i64 0] n).size = n := by simp [Builtin.zeroCells]
def GrowPost (w : World) (n : Nat) (e : Ending) (w' : World) : Prop := ∃ cap, n ≤ cap ∧ cap ≤ maxLen ∧ e = .returned (.slice (some ⟨w.heap.size, 0, none⟩) 0 cap) ∧ w'.ownsRow w.heap.size 3 1 (.slice (some ⟨w.heap.size, 0, none⟩) 0 cap) 0 [] ∧ Below w.heap.size w w'
set_option maxRecDepth 100000 in
set_option maxHeartbeats 2000000 in
theorem grow_any (w : World) (n : Nat) (h0 : 0 < n) (h1 : n ≤ 100) : Calls Try.prog 152 #[.slice none 0 0, .int .i64 (n : Int)] w (GrowPost w n) := by
  obtain ⟨i0, hi, hz0, hz1, hz2⟩ := info_parts planInfo
  have hr : ∀ ty, (Builtin.append_ #[28, 3] ty #[.slice none 0 0, .int .i64 (n : Int)]).run Try.prog w =
      .ok (.slice (some ⟨w.heap.size, 0, none⟩) n (grownCap w n 0 3)) (w.drew.alloc (.cells (([] : List Value).toArray ++ Builtin.zeroCells (Value.int .i64 0).cells n ++ Builtin.zeroCells (Value.int .i64 0).cells (grownCap w n 0 3 - n)) 3)) := fun ty => by
    have hn := Lib.run_append_grow_zeros (P := Try.prog) w 28 3 ty 3 i0 (.int .i64 0) .i64 .i64 und_ints und_int0 hi hz0 none 0 0 [] (by rw [hz1]; exact fc_nil _) n h0 (by rw [hz1]; decide) (by omega) (by omega) (by rw [hz2]; omega) (by
      rw [hz2]
      have := nextslicecap_le (need := 0 + n) (old := 0) (by omega)
      omega)
    simpa only [Nat.zero_add] using hn
  have hg := grownCap_ge w n 0 3
  have hm := grownCap_le_maxLen w n 0 3 (by unfold maxLen; omega)
  have HP : Hid (GrowPost w n (.returned (.slice (some ⟨w.heap.size, 0, none⟩) 0 (grownCap w n 0 3))) (w.alloc (.cells (Builtin.zeroCells #[.int .i64 0] n ++ Builtin.zeroCells #[.int .i64 0] (grownCap w n 0 3 - n)) 3)).drew) :=
    Lib.hid ⟨_, hg, hm, rfl, World.ownsRow_made w _ _ (Nat.le_refl _) hm (by rw [Array.size_append, zero_size, zero_size]; omega), ((Below.refl _ _).alloc (Nat.le_refl _) _).drew⟩
  generalize hG : grownCap w n 0 3 = G at hr hg hm HP
  have hG63 : G ≤ 9223372036854775807 := by unfold maxLen at hm; omega
  clear hG hm
  go_enter Try.func152, Try.ntmps152
  go_wp2_with (at_builtin; refine Lib.wpList_append_run _ rfl _ _ _ _ rfl _ _ rfl rfl _ _ (hr _) ?_)
  go_ret
  exact HP.out

theorem plan_cells {W : World} {v : Value} {l : List Int} (h : PlanAt W v l) (hne : l ≠ []) : ∃ g cap, v = .slice (some ⟨g, 0, none⟩) l.length cap ∧ g < W.heap.size ∧ ∀ (j : Nat) u, (intsV l)[j]? = some u → W.cell? ((⟨g, 0, none⟩ : Addr).add j) = some u := by
  obtain ⟨h1, ⟨-, h2⟩ | ⟨g, cap, cur, rfl, h3, h4, h5, h6, h7, h8⟩⟩ := h
  · exact absurd (List.eq_nil_of_length_eq_zero h2) hne
  · refine ⟨g, cap, rfl, (Array.getElem?_eq_some_iff.1 h4).1, fun j u hj => ?_⟩
    have ha : (⟨g, 0, none⟩ : Addr).add j = ⟨g, j, none⟩ := by
      unfold Addr.add
      by_cases e : j = 0 <;> simp [e]
    rw [ha, cell_of_row W g j cur 3 (0, 0) h4]
    rw [← h8, List.getElem?_take] at hj
    split at hj
    · simpa using hj
    · cases hj
theorem one_news {W : World} {g : Nat} {d : Int} (h : W.cell? ⟨g, 0, none⟩ = some (.int .i64 d)) : ∀ (j : Nat) u, (intsV [d])[j]? = some u → W.cell? ((⟨g, 0, none⟩ : Addr).add j) = some u := fun j u hj => by
  cases j with
  | zero => simp [intsV] at hj; subst hj; exact h
  | succ j => simp [intsV] at hj
theorem PlanAt.below {w w' : World} {v : Value} {l : List Int} (h : PlanAt w v l) (hb : Below w.heap.size w w') : PlanAt w' v l := by
  obtain ⟨h1, ⟨h2, h3⟩ | ⟨g, cap, cur, h2, h3, h4, h5⟩⟩ := h
  · exact ⟨h1, .inl ⟨h2, h3⟩⟩
  · exact ⟨h1, .inr ⟨g, cap, cur, h2, h3, (hb.block g (Array.getElem?_eq_some_iff.1 h4).1).trans h4, h5⟩⟩
theorem plan_nil {w : World} {n c : Nat} {l : List Int} (h : PlanAt w (.slice none n c) l) : l = [] ∧ c = 0 := by
  obtain ⟨h1, ⟨h2, h3⟩ | ⟨g, cap, cur, h2, h3, h4, h5⟩⟩ := h
  · cases h2
    exact ⟨List.eq_nil_of_length_eq_zero h3, rfl⟩
  · cases h2
theorem plan_some {w : World} {A : Option Addr} {n c : Nat} {l : List Int} (h : PlanAt w (.slice A n c) l) (hA : A ≠ none) : ∃ g, A = some ⟨g, 0, none⟩ := by
  obtain ⟨h1, ⟨h2, h3⟩ | ⟨g, cap, cur, h2, h3, h4, h5⟩⟩ := h
  · cases h2; exact absurd rfl hA
  · cases h2; exact ⟨g, rfl⟩
theorem plan_news {w : World} {g n c : Nat} {l : List Int} (h : PlanAt w (.slice (some ⟨g, 0, none⟩) n c) l) : ∀ (j : Nat) u, (intsV l)[j]? = some u → w.cell? ((⟨g, 0, none⟩ : Addr).add j) = some u := fun j u hj => by
  by_cases hl : l = []
  · subst hl; simp [intsV] at hj
  · obtain ⟨g', cap, h1, -, h3⟩ := plan_cells h hl
    cases h1
    exact h3 j u hj
theorem row_some {w : World} {B n : Nat} {v : Value} {l : List Int} (h : w.ownsRow B 3 1 v (n + 1) (intsV l)) : ∃ g cap, v = .slice (some ⟨g, 0, none⟩) (n + 1) cap ∧ B ≤ g ∧ w.ownsRow 0 3 1 (.slice (some ⟨g, 0, none⟩) (n + 1) cap) (n + 1) (intsV l) := by
  obtain ⟨h1, ⟨h2, h3⟩ | ⟨g, cap, cur, rfl, h3, h4, h5⟩⟩ := h
  · omega
  · exact ⟨g, cap, rfl, h3, h1, .inr ⟨g, cap, cur, rfl, Nat.zero_le _, h4, h5⟩⟩
/-- What Concat returns. -/
def RetPlan (l : List Int) (w : World) (e : Ending) (w' : World) : Prop := ∃ g cap, e = .returned (.slice (some ⟨g, 0, none⟩) l.length cap) ∧ w.heap.size ≤ g ∧ PlanAt w' (.slice (some ⟨g, 0, none⟩) l.length cap) l ∧ Below w.heap.size w w'
set_option maxRecDepth 100000 in
set_option maxHeartbeats 2000000 in
theorem concat_any (w : World) (B g0 : Nat) (v : Value) (d : Int) (l : List Int) (hB : B < w.heap.size) (hb0 : w.cell? ⟨B, 0, none⟩ = some (.slice (some ⟨g0, 0, none⟩) 1 1)) (hb1 : w.cell? ⟨B, 1, none⟩ = some v) (hg0 : g0 < w.heap.size) (hd : w.cell? ⟨g0, 0, none⟩ = some (.int .i64 d))
    (hv : PlanAt w v l) (hl : l.length ≤ 50) :
    Calls Try.prog 137 #[.slice (some ⟨B, 0, none⟩) 2 2] w (RetPlan (d :: l) w) := by
  obtain ⟨i0, hi, hz0, hz1, hz2⟩ := info_parts planInfo
  have hvs : ∃ A c, v = .slice A l.length c := by
    rcases hv.2 with ⟨h1, h2⟩ | ⟨g, cap, cur, h1, -⟩
    · exact ⟨none, 0, by rw [h1, h2]⟩
    · exact ⟨_, _, h1⟩
  obtain ⟨A, c, rfl⟩ := hvs
  have HV := Lib.hid hv
  clear hv
  have hl' : (l.length : Int) ≤ 50 := by omega
  have hl0 : (0 : Int) ≤ l.length := by omega
  go_enter Try.func137, Try.ntmps137
  go_wp2_with fail
  go_loop [3, 11] (fun s i => ∃ k : Nat, k ≤ 2 ∧ i = .int .i64 k ∧ s = .int .i64 (if k = 0 then 0 else if k = 1 then 1 else 1 + (l.length : Int))) (fun _ i => 2 - (intOf i).toNat)
  case atStart => exact ⟨0, by omega, rfl, rfl⟩
  case round =>
    obtain ⟨k, hk, rfl, rfl⟩ := hrel
    have hk3 : k = 0 ∨ k = 1 ∨ k = 2 := by omega
    rcases hk3 with rfl | rfl | rfl
    · go_wp2_with fail
      go_round
      case rel => exact ⟨1, by omega, rfl, rfl⟩
      case measure => simp [intOf]
    · go_wp2_with fail
      go_round
      case rel => exact ⟨2, by omega, rfl, rfl⟩
      case measure => simp [intOf]
    · go_wp2_with fail
      rw [show (1 : Int) + (l.length : Int) = ((l.length + 1 : Nat) : Int) by omega]
      refine (grow_any _ (l.length + 1) (by omega) (by omega)).mono ?_
      rintro e W1 ⟨cap, hc0, hc1, rfl, hw, hb⟩
      have HW := Lib.hid hw
      have HB := Lib.hid hb
      clear hw hb hc0 hc1
      go_wp2_with fail
      clear hk
      go_loopw [6, 27] (fun s i wr => ∃ (k : Nat) (s0 : Value), k ≤ 2 ∧ i = .int .i64 k ∧ s0 = s ∧ Hid (Below w.heap.size w wr) ∧ Hid (wr.ownsRow w.heap.size 3 1 s0 (if k = 0 then 0 else if k = 1 then 1 else l.length + 1) (if k = 0 then [] else if k = 1 then intsV [d] else intsV (d :: l)))) (fun _ i _ => 2 - (intOf i).toNat)
      case atStart => exact ⟨0, _, by omega, rfl, rfl, HB, HW⟩
      case round =>
        clear HB HW
        obtain ⟨k, s0, hk, rfl, rfl, HB, HW⟩ := hrel
        have hk3 : k = 0 ∨ k = 1 ∨ k = 2 := by omega
        clear hk
        rcases hk3 with rfl | rfl | rfl
        · replace HW : Hid (wr.ownsRow w.heap.size 3 1 s0 0 []) := HW
          rw [← HB.out.cell (p := ⟨B, _, none⟩) hB] at hb0
          have hdc := (HB.out.cell (p := ⟨g0, 0, none⟩) hg0).trans hd
          have hsz := HB.out.size
          go_wp2_with (at_builtin; refine wpList_append_own _ rfl _ _ 28 rfl w.heap.size 3 i0 _ 1 8 und_ints hi hz0 hz1 hz2 rfl (by decide) s0 0 [] rfl HW.out ⟨g0, 0, none⟩ 1 1 (intsV [d]) rfl rfl (one_news hdc) (intsV_one _) (by unfold maxLen; omega) (by omega) hsz ?_; intro v' w2 hown hgr hnn; clear hnn; have HO := Lib.hid hown; have HG := Lib.hid hgr; clear hown hgr)
          go_roundw
          case rel => exact ⟨1, _, by omega, rfl, rfl, Lib.hid (Below.grown HB.out HG.out hsz fun j e => (HW.out.lt j e).1), HO⟩
          case measure => simp [intOf]
        · replace HW : Hid (wr.ownsRow w.heap.size 3 1 s0 1 (intsV [d])) := HW
          rw [← HB.out.cell (p := ⟨B, _, none⟩) hB] at hb1
          have hsz := HB.out.size
          have HV2 := Lib.hid (HV.out.below HB.out)
          by_cases hn : A = none
          · subst hn
            obtain ⟨hl1, rfl⟩ := plan_nil HV2.out
            have hr : ∀ ty, (Builtin.append_ #[28, 28] ty #[s0, .slice none l.length 0]).run Try.prog wr = .ok s0 wr := fun ty => by
              rw [hl1]
              exact run_append_owned_none (P := Try.prog) (w := wr) w.heap.size 28 ty 3 i0 1 und_ints hi s0 1 (intsV [d]) HW.out
            have HL := Lib.hid hl1
            clear hl1
            go_wp2_with (at_builtin; refine Lib.wpList_append_run_sl _ rfl _ _ 28 rfl s0 (.slice none l.length 0) rfl rfl (hr _) ?_)
            clear hr
            go_roundw
            case rel => exact ⟨2, _, by omega, rfl, rfl, HB, by rw [HL.out]; exact HW⟩
            case measure => simp [intOf]
          · obtain ⟨g, rfl⟩ := plan_some HV2.out hn
            go_wp2_with (at_builtin; refine wpList_append_own _ rfl _ _ 28 rfl w.heap.size 3 i0 _ 1 8 und_ints hi hz0 hz1 hz2 rfl (by decide) s0 1 (intsV [d]) rfl HW.out ⟨g, 0, none⟩ l.length c (intsV l) rfl (by simp [intsV]) (plan_news HV2.out) (intsV_one _) (by unfold maxLen; omega) (by omega) hsz ?_; intro v' w2 hown hgr hnn; clear hnn; have HO := Lib.hid hown; have HG := Lib.hid hgr; clear hown hgr)
            go_roundw
            case rel => exact ⟨2, _, by omega, rfl, rfl, Lib.hid (Below.grown HB.out HG.out hsz fun j e => (HW.out.lt j e).1), by rw [Nat.add_comm] at HO; exact HO⟩
            case measure => simp [intOf]
        · replace HW : Hid (wr.ownsRow w.heap.size 3 1 s0 (l.length + 1) (intsV (d :: l))) := HW
          obtain ⟨g, cap, hs, hge, hr⟩ := row_some HW.out
          subst hs
          have HR := Lib.hid hr
          clear hr HW
          go_wp2_with fail
          go_ret
          exact ⟨g, cap, rfl, hge, HR.out, HB.out⟩
end Go.Proofs.Ytdadgljllnkppaa
