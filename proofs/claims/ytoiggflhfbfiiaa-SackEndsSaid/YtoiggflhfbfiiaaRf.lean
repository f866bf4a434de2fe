/- Walks of the document's own definitions (reference): validity. -/
import Derived.Test.YtoiggflhfbfiiaaI
namespace Go.Proofs.Ytoiggflhfbfiiaa
open Go.RowKit

set_option maxHeartbeats 400000 in
theorem rspan_any (a b c d : Int) (w : World) : Calls Try.prog 47 #[.agg #[.int .i64 a, .int .i64 b], .int .i64 c, .int .i64 d] w (Ret (.bool (withinB ⟨a, b⟩ c d)) w) := by
  go_enter Try.func47, Try.ntmps47
  go_wp2
  all_goals go_ret
  all_goals exact ⟨ret_bool (by simp only [withinB]; rw [Bool.eq_iff_iff]; simp only [decide_eq_true_eq, Bool.false_eq_true, false_iff]; omega), (Below.refl _ _).alloc (Nat.le_refl _) _⟩

set_option maxHeartbeats 400000 in
theorem rin_any (n a b : Int) (w : World) : Calls Try.prog 56 #[.int .i64 n, .int .i64 a, .int .i64 b] w fun e w' => e = .returned (.bool (decide (a ≤ n ∧ n ≤ b))) ∧ w = w' := by
  go_enter Try.func56, Try.ntmps56
  go_wp2
  all_goals go_ret
  all_goals exact ⟨ret_bool (by rw [Bool.eq_iff_iff]; first | (simp only [decide_eq_true_eq, Bool.false_eq_true, false_iff]; omega) | (simp; omega)), rfl⟩

def allOkB (l : List Sack) : Bool := l.all sackOk

set_option maxHeartbeats 1000000 in
theorem rsacks_any (w : World) (A : Option Addr) (c : Nat) (l : List Sack) (hl : l.length ≤ 100) (hA : SackSl w w.heap.size A l) :
    Calls Try.prog 19 #[.slice A l.length c] w (Ret (.bool (sacksOk l)) w) := by
  have HS := Lib.hid hA
  clear hA
  go_enter Try.func19, Try.ntmps19
  go_wp2
  go_loopw [3] (fun i wr => ∃ k : Nat, k ≤ l.length ∧ i = .int .i64 k ∧ (l.take k).all sackOk = true ∧ Below w.heap.size w wr) (fun i _ => l.length - (intOf i).toNat)
  case atStart => exact ⟨0, by omega, rfl, by simp, Below.refl _ _⟩
  case round =>
    obtain ⟨k, hk, rfl, hall, hB⟩ := hrel
    have HA := Lib.hid hall
    clear hall
    by_cases hlt : k < l.length
    · obtain ⟨b, off, rfl, hb, hs⟩ := HS.out (by intro e; subst e; simp at hlt)
      obtain ⟨c0, c1, c2, c3, c4, c5⟩ := hs k hlt
      clear hs
      rw [← hB.cell (p := ⟨b, _, none⟩) hb] at c0 c1 c2 c3 c4 c5
      have hok : Hid (sackOk l[k] = (withinB ⟨l[k].w.lo, l[k].w.hi⟩ 0 900 && withinB ⟨l[k].c.lo, l[k].c.hi⟩ 0 1000 && withinB ⟨l[k].l.lo, l[k].l.hi⟩ 0 900)) := rfl
      have hsz := hB.size
      have hz : b < wr.heap.size := by omega
      have H8 : Hid (sackOk l[k] = false → Ending.returned (.bool false) = Ending.returned (.bool (sacksOk l))) := fun h => by rw [sacksOk_no hlt h]
      cases hx0 : withinB ⟨l[k].w.lo, l[k].w.hi⟩ 0 900 with
      | false =>
        go_wp2_with (go_at_call 47; refine (rspan_any _ _ _ _ _).mono ?_; rintro e w' ⟨rfl, hb'⟩; obtain ⟨hc', hf'⟩ := bcell hb'; have hz' : b < w'.heap.size := (by have h0 := hb'.size; omega); replace hB := hB.trans (hb'.mono hB.size); have hsz := hB.size; clear hb')
        go_ret
        exact ⟨H8.out (by rw [hok.out, hx0]; rfl), hB⟩
      | true =>
        cases hx1 : withinB ⟨l[k].c.lo, l[k].c.hi⟩ 0 1000 with
        | false =>
          go_wp2_with (go_at_call 47; refine (rspan_any _ _ _ _ _).mono ?_; rintro e w' ⟨rfl, hb'⟩; obtain ⟨hc', hf'⟩ := bcell hb'; have hz' : b < w'.heap.size := (by have h0 := hb'.size; omega); replace hB := hB.trans (hb'.mono hB.size); have hsz := hB.size; clear hb')
          go_ret
          exact ⟨H8.out (by rw [hok.out, hx0, hx1]; rfl), hB⟩
        | true =>
          cases hx2 : withinB ⟨l[k].l.lo, l[k].l.hi⟩ 0 900 with
          | false =>
            go_wp2_with (go_at_call 47; refine (rspan_any _ _ _ _ _).mono ?_; rintro e w' ⟨rfl, hb'⟩; obtain ⟨hc', hf'⟩ := bcell hb'; have hz' : b < w'.heap.size := (by have h0 := hb'.size; omega); replace hB := hB.trans (hb'.mono hB.size); have hsz := hB.size; clear hb')
            go_ret
            exact ⟨H8.out (by rw [hok.out, hx0, hx1, hx2]; rfl), hB⟩
          | true =>
            have HN : Hid ((l.take (k + 1)).all sackOk = true) := by
              show _ = _
              rw [List.take_succ_eq_append_getElem hlt, List.all_append, HA.out, List.all_cons, hok.out, hx0, hx1, hx2]; rfl
            go_wp2_with (go_at_call 47; refine (rspan_any _ _ _ _ _).mono ?_; rintro e w' ⟨rfl, hb'⟩; obtain ⟨hc', hf'⟩ := bcell hb'; have hz' : b < w'.heap.size := (by have h0 := hb'.size; omega); replace hB := hB.trans (hb'.mono hB.size); have hsz := hB.size; clear hb')
            go_roundw
            case rel => exact ⟨k + 1, by omega, by go_num, HN.out, hB⟩
            case measure => simp [intOf]; omega
    · go_wp2
      go_ret
      obtain rfl : k = l.length := by omega
      have h1 := HA.out
      rw [List.take_length] at h1
      exact ⟨ret_bool (by simp [sacksOk, h1]; omega), hB⟩
end Go.Proofs.Ytoiggflhfbfiiaa
