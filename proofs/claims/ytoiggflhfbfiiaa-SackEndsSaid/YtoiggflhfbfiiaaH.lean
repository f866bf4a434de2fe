/- Validity of sacks and batches. -/
import Derived.Test.YtoiggflhfbfiiaaG
namespace Go.Proofs.Ytoiggflhfbfiiaa
open Go.RowKit


theorem sacksOk_no {l : List Sack} {k : Nat} (h : k < l.length) (hk : sackOk l[k] = false) : sacksOk l = false := by
  have : l.all sackOk = false := by
    rw [List.all_eq_false]
    exact ⟨l[k], List.getElem_mem h, by simp [hk]⟩
  simp [sacksOk, this]

set_option maxHeartbeats 1000000 in
theorem validSacks_any (w : World) (A : Option Addr) (c : Nat) (l : List Sack) (hl : l.length ≤ 100) (hA : SackSl w w.heap.size A l) :
    Calls Try.prog 51 #[.slice A l.length c] w (Ret (.bool (sacksOk l)) w) := by
  have HS := Lib.hid hA
  clear hA
  by_cases h8 : 8 < l.length
  · have hr : sacksOk l = false := by simp [sacksOk]; omega
    have HR := Lib.hid hr
    clear hr
    go_enter Try.func51, Try.ntmps51
    go_wp2
    go_ret
    exact ⟨ret_bool HR.out.symm, Below.refl _ _⟩
  have h8' : l.length ≤ 8 := by omega
  clear h8
  go_enter Try.func51, Try.ntmps51
  go_wp2
  go_loopw [2, 10] (fun q i wr => ∃ k : Nat, k ≤ l.length ∧ i = .int .i64 k ∧ q = .bool false ∧ (l.take k).all sackOk = true ∧ Below w.heap.size w wr) (fun _ i _ => l.length - (intOf i).toNat)
  case atStart => exact ⟨0, by omega, rfl, rfl, by simp, Below.refl _ _⟩
  case round =>
    obtain ⟨k, hk, rfl, rfl, hall, hB⟩ := hrel
    have HA := Lib.hid hall
    clear hall
    by_cases hlt : k < l.length
    · obtain ⟨b, off, rfl, hb, hs⟩ := HS.out (by intro e; subst e; simp at hlt)
      obtain ⟨c0, c1, c2, c3, c4, c5⟩ := hs k hlt
      clear hs
      rw [← hB.cell (p := ⟨b, _, none⟩) hb] at c0 c1 c2 c3 c4 c5
      have hok : Hid (sackOk l[k] = (withinB ⟨l[k].w.lo, l[k].w.hi⟩ 0 900 && withinB ⟨l[k].c.lo, l[k].c.hi⟩ 0 1000 && withinB ⟨l[k].l.lo, l[k].l.hi⟩ 0 900)) := rfl
      have hsz := hB.size
      have hW := hB.alloc hB.size (.cells #[.int .i64 l[k].w.lo, .int .i64 l[k].w.hi, .int .i64 l[k].c.lo, .int .i64 l[k].c.hi, .int .i64 l[k].l.lo, .int .i64 l[k].l.hi] 57)
      have H8 : Hid (sackOk l[k] = false → Ending.returned (.bool false) = Ending.returned (.bool (sacksOk l))) := fun h => by rw [sacksOk_no hlt h]
      clear hB
      cases hx0 : withinB ⟨l[k].w.lo, l[k].w.hi⟩ 0 900 with
      | false =>
        go_wp2_with (go_at_call 42; refine (within_any _ _ _ _ _).mono ?_; rintro e w' ⟨rfl, hb'⟩; obtain ⟨hc', hf'⟩ := bcell hb'; have hz' : wr.heap.size < w'.heap.size := (by have h0 := hb'.size; (try simp only [World.size_alloc] at h0); omega); replace hW := hW.trans (hb'.mono (by (try simp only [World.size_alloc]); omega)); clear hb')
        go_ret
        exact ⟨H8.out (by rw [hok.out, hx0]; rfl), hW⟩
      | true =>
        cases hx1 : withinB ⟨l[k].c.lo, l[k].c.hi⟩ 0 1000 with
        | false =>
          go_wp2_with (go_at_call 42; refine (within_any _ _ _ _ _).mono ?_; rintro e w' ⟨rfl, hb'⟩; obtain ⟨hc', hf'⟩ := bcell hb'; have hz' : wr.heap.size < w'.heap.size := (by have h0 := hb'.size; (try simp only [World.size_alloc] at h0); omega); replace hW := hW.trans (hb'.mono (by (try simp only [World.size_alloc]); omega)); clear hb')
          go_ret
          exact ⟨H8.out (by rw [hok.out, hx0, hx1]; rfl), hW⟩
        | true =>
          cases hx2 : withinB ⟨l[k].l.lo, l[k].l.hi⟩ 0 900 with
          | false =>
            go_wp2_with (go_at_call 42; refine (within_any _ _ _ _ _).mono ?_; rintro e w' ⟨rfl, hb'⟩; obtain ⟨hc', hf'⟩ := bcell hb'; have hz' : wr.heap.size < w'.heap.size := (by have h0 := hb'.size; (try simp only [World.size_alloc] at h0); omega); replace hW := hW.trans (hb'.mono (by (try simp only [World.size_alloc]); omega)); clear hb')
            go_ret
            exact ⟨H8.out (by rw [hok.out, hx0, hx1, hx2]; rfl), hW⟩
          | true =>
            have HN : Hid ((l.take (k + 1)).all sackOk = true) := by
              show _ = _
              rw [List.take_succ_eq_append_getElem hlt, List.all_append, HA.out, List.all_cons, hok.out, hx0, hx1, hx2]; rfl
            go_wp2_with (go_at_call 42; refine (within_any _ _ _ _ _).mono ?_; rintro e w' ⟨rfl, hb'⟩; obtain ⟨hc', hf'⟩ := bcell hb'; have hz' : wr.heap.size < w'.heap.size := (by have h0 := hb'.size; (try simp only [World.size_alloc] at h0); omega); replace hW := hW.trans (hb'.mono (by (try simp only [World.size_alloc]); omega)); clear hb')
            go_roundw
            case rel => exact ⟨k + 1, by omega, by go_num, rfl, HN.out, hW⟩
            case measure => simp [intOf]; omega
    · go_wp2
      go_ret
      obtain rfl : k = l.length := by omega
      have h1 := HA.out
      rw [List.take_length] at h1
      exact ⟨ret_bool (by simp [sacksOk, h1]; omega), hB⟩
end Go.Proofs.Ytoiggflhfbfiiaa
