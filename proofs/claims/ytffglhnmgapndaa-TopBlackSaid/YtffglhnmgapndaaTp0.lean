/- The law TopBlack: the reference's validity at any length. -/
import Derived.Test.YtffglhnmgapndaaQe
import Derived.Deep.QuietTactic
import Derived.BigQuiet
namespace Go.Proofs.Ytffglhnmgapndaa
open Go.RowKit Go.Shelf

set_option maxHeartbeats 1000000 in
theorem rsacks_big (w : World) (A : Option Addr) (c : Nat) (l : List Sack) (hl : l.length ≤ 9223372036854775807) (hA : SackSl w w.heap.size A l) :
    Calls Try.prog 4 #[.slice A l.length c] w (Ret (.bool (sacksOk l)) w) := by
  have HS := Lib.hid hA
  clear hA
  go_enter Try.func4, Try.ntmps4
  go_wp2
  go_loopw [3] (fun i wr => ∃ k : Nat, k ≤ l.length ∧ i = .int .i64 k ∧ (l.take k).all sackOk = true ∧ Below w.heap.size w wr) (fun i _ => l.length - (intOf i).toNat)
  case atStart => exact ⟨0, by omega, rfl, by simp, Below.refl _ _⟩
  case round =>
    obtain ⟨k, hk, rfl, hall, hB⟩ := hrel
    have HA := Lib.hid hall
    clear hall
    by_cases hlt : k < l.length
    · obtain ⟨b, off, rfl, hb, hs⟩ := HS.out (by intro e; subst e; simp at hlt)
      obtain ⟨c0, c1, c2, c3, c4, c5⟩ := hs k hlt
      clear hs
      rw [← hB.cell (p := ⟨b, _, none⟩) hb] at c0 c1 c2 c3 c4 c5
      have hok : Hid (sackOk l[k] = (withinB ⟨l[k].w.lo, l[k].w.hi⟩ 0 900 && withinB ⟨l[k].c.lo, l[k].c.hi⟩ 0 1000 && withinB ⟨l[k].l.lo, l[k].l.hi⟩ 0 900)) := rfl
      have hsz := hB.size
      have hz : b < wr.heap.size := by omega
      have H8 : Hid (sackOk l[k] = false → Ending.returned (.bool false) = Ending.returned (.bool (sacksOk l))) := fun h => by rw [sacksOk_no hlt h]
      cases hx0 : withinB ⟨l[k].w.lo, l[k].w.hi⟩ 0 900 with
      | false =>
        go_wp2_with (go_at_call 15; refine (rspan_any _ _ _ _ _).mono ?_; rintro e w' ⟨rfl, hb'⟩; obtain ⟨hc', hf'⟩ := bcell hb'; have hz' : b < w'.heap.size := (by have h0 := hb'.size; omega); replace hB := hB.trans (hb'.mono hB.size); have hsz := hB.size; clear hb')
        go_ret
        exact ⟨H8.out (by rw [hok.out, hx0]; rfl), hB⟩
      | true =>
        cases hx1 : withinB ⟨l[k].c.lo, l[k].c.hi⟩ 0 1000 with
        | false =>
          go_wp2_with (go_at_call 15; refine (rspan_any _ _ _ _ _).mono ?_; rintro e w' ⟨rfl, hb'⟩; obtain ⟨hc', hf'⟩ := bcell hb'; have hz' : b < w'.heap.size := (by have h0 := hb'.size; omega); replace hB := hB.trans (hb'.mono hB.size); have hsz := hB.size; clear hb')
          go_ret
          exact ⟨H8.out (by rw [hok.out, hx0, hx1]; rfl), hB⟩
        | true =>
          cases hx2 : withinB ⟨l[k].l.lo, l[k].l.hi⟩ 0 900 with
          | false =>
            go_wp2_with (go_at_call 15; refine (rspan_any _ _ _ _ _).mono ?_; rintro e w' ⟨rfl, hb'⟩; obtain ⟨hc', hf'⟩ := bcell hb'; have hz' : b < w'.heap.size := (by have h0 := hb'.size; omega); replace hB := hB.trans (hb'.mono hB.size); have hsz := hB.size; clear hb')
            go_ret
            exact ⟨H8.out (by rw [hok.out, hx0, hx1, hx2]; rfl), hB⟩
          | true =>
            have HN : Hid ((l.take (k + 1)).all sackOk = true) := by
              show _ = _
              rw [List.take_succ_eq_append_getElem hlt, List.all_append, HA.out, List.all_cons, hok.out, hx0, hx1, hx2]; rfl
            go_wp2_with (go_at_call 15; refine (rspan_any _ _ _ _ _).mono ?_; rintro e w' ⟨rfl, hb'⟩; obtain ⟨hc', hf'⟩ := bcell hb'; have hz' : b < w'.heap.size := (by have h0 := hb'.size; omega); replace hB := hB.trans (hb'.mono hB.size); have hsz := hB.size; clear hb')
            go_roundw
            case rel => exact ⟨k + 1, by omega, by go_num, HN.out, hB⟩
            case measure => simp [intOf]; omega
    · go_wp2
      go_ret
      obtain rfl : k = l.length := by omega
      have h1 := HA.out
      rw [List.take_length] at h1
      exact ⟨ret_bool (by simp [sacksOk, h1]; omega), hB⟩

set_option maxHeartbeats 1000000 in
theorem rbatch_big (w : World) (A T : Option Addr) (c d : Nat) (l : List Sack) (b : List Take) (hl : l.length ≤ 9223372036854775807) (hb : b.length ≤ 9223372036854775807) (hT : TakeSl w w.heap.size T b) :
    Calls Try.prog 5 #[.slice A l.length c, .slice T b.length d] w (Ret (.bool (batchB l b)) w) := by
  have HS := Lib.hid hT
  clear hT
  go_enter Try.func5, Try.ntmps5
  go_wp2
  go_loopw [5] (fun i wr => ∃ k : Nat, k ≤ b.length ∧ i = .int .i64 k ∧ (b.take k).all (takeOk l) = true ∧ Below w.heap.size w wr) (fun i _ => b.length - (intOf i).toNat)
  case atStart => exact ⟨0, by omega, rfl, by simp, Below.refl _ _⟩
  case round =>
    obtain ⟨k, hk, rfl, hall, hB⟩ := hrel
    have HA := Lib.hid hall
    clear hall
    by_cases hlt : k < b.length
    · obtain ⟨p, off, rfl, hp, hs⟩ := HS.out (by intro e; subst e; simp at hlt)
      obtain ⟨c0, c1, c2⟩ := hs k hlt
      clear hs
      rw [← hB.cell (p := ⟨p, _, none⟩) hp] at c0 c1 c2
      have hok : Hid (takeOk l b[k] = (decide (0 ≤ b[k].s ∧ b[k].s ≤ (l.length : Int) - 1) && withinB ⟨b[k].m.lo, b[k].m.hi⟩ 1 100000)) := by
        show _ = _
        unfold takeOk idxB
        congr 1
        rw [Bool.eq_iff_iff]; simp only [decide_eq_true_eq]; omega
      have H8 : Hid (takeOk l b[k] = false → Ending.returned (.bool false) = Ending.returned (.bool (batchB l b))) := fun h => by simp [batchB, batch_no hlt h]
      cases hx : decide (0 ≤ b[k].s ∧ b[k].s ≤ (l.length : Int) - 1) with
      | false =>
        have HX := Lib.hid hx
        clear hx
        go_wp2_with (go_at_call 16; refine (rin_any _ _ _ _).mono ?_; rw [HX.out]; rintro e w' ⟨rfl, rfl⟩)
        go_ret
        exact ⟨H8.out (by rw [hok.out, HX.out]; rfl), hB⟩
      | true =>
        have HX := Lib.hid hx
        clear hx
        cases hy : withinB ⟨b[k].m.lo, b[k].m.hi⟩ 1 100000 with
        | false =>
          have HY := Lib.hid hy
          clear hy
          go_wp2_with (first | (go_at_call 16; refine (rin_any _ _ _ _).mono ?_; rw [HX.out]; rintro e w' ⟨rfl, rfl⟩) | (go_at_call 15; refine (rspan_any _ _ _ _ _).mono ?_; rw [HY.out]; rintro e w' ⟨rfl, hb'⟩; replace hB := hB.trans (hb'.mono hB.size); clear hb'))
          go_ret
          exact ⟨H8.out (by rw [hok.out, HX.out, HY.out]; rfl), hB⟩
        | true =>
          have HY := Lib.hid hy
          clear hy
          have HN : Hid ((b.take (k + 1)).all (takeOk l) = true) := by
            show _ = _
            rw [List.take_succ_eq_append_getElem hlt, List.all_append, HA.out, List.all_cons, hok.out, HX.out, HY.out]; rfl
          go_wp2_with (first | (go_at_call 16; refine (rin_any _ _ _ _).mono ?_; rw [HX.out]; rintro e w' ⟨rfl, rfl⟩) | (go_at_call 15; refine (rspan_any _ _ _ _ _).mono ?_; rw [HY.out]; rintro e w' ⟨rfl, hb'⟩; replace hB := hB.trans (hb'.mono hB.size); clear hb' c0 c1 c2))
          go_roundw
          case rel => exact ⟨k + 1, by omega, by go_num, HN.out, hB⟩
          case measure => simp [intOf]; omega
    · have HE : Hid (decide ((1 : Int) ≤ b.length ∧ (b.length : Int) ≤ 8) = batchB l b) := by
        obtain rfl : k = b.length := by omega
        have h1 := HA.out
        rw [List.take_length] at h1
        show _ = _
        rw [batchB, h1, Bool.and_true, Bool.eq_iff_iff]
        simp only [decide_eq_true_eq]; omega
      go_wp2_with (go_at_call 16; refine (rin_any _ _ _ _).mono ?_; rw [HE.out]; rintro e w' ⟨rfl, rfl⟩)
      go_ret
      exact ⟨rfl, hB⟩
end Go.Proofs.Ytffglhnmgapndaa
