/- Validity of a batch. -/
import Derived.Test.YtoiggflhfbfiiaaH
namespace Go.Proofs.Ytoiggflhfbfiiaa
open Go.RowKit

theorem validB_no {l : List Sack} {b : List Take} {k : Nat} (h : k < b.length) (hk : takeOk l b[k] = false) : validB l b = false := by
  have : b.all (takeOk l) = false := by
    rw [List.all_eq_false]
    exact ⟨b[k], List.getElem_mem h, by simp [hk]⟩
  simp [validB, this]


set_option maxHeartbeats 1000000 in
theorem valid_any (w : World) (A T : Option Addr) (c d : Nat) (l : List Sack) (b : List Take) (hl : l.length ≤ 100) (hb : b.length ≤ 100) (hA : SackSl w w.heap.size A l) (hT : TakeSl w w.heap.size T b) :
    Calls Try.prog 30 #[.slice A l.length c, .slice T b.length d] w (Ret (.bool (validB l b)) w) := by
  have HA := Lib.hid hA
  have HS := Lib.hid hT
  clear hA hT
  cases hx : sacksOk l with
  | false =>
    go_enter Try.func30, Try.ntmps30
    go_wp2_with (go_at_call 51; refine (validSacks_any _ _ _ _ hl HA.out).mono ?_; rintro e w1 ⟨rfl, hb1⟩; have hW := hb1; clear hb1)
    go_ret
    exact ⟨ret_bool (by simp [validB, hx]), hW⟩
  | true =>
    by_cases h1 : b.length < 1
    · have hr : Hid (validB l b = false) := by show _ = _; simp [validB]; omega
      go_enter Try.func30, Try.ntmps30
      go_wp2_with (go_at_call 51; refine (validSacks_any _ _ _ _ hl HA.out).mono ?_; rintro e w1 ⟨rfl, hb1⟩; have hW := hb1; clear hb1)
      go_ret
      exact ⟨ret_bool hr.out.symm, hW⟩
    · have h1' : 1 ≤ b.length := by omega
      clear h1
      by_cases h8 : 8 < b.length
      · have hr : Hid (validB l b = false) := by show _ = _; simp [validB]; omega
        go_enter Try.func30, Try.ntmps30
        go_wp2_with (go_at_call 51; refine (validSacks_any _ _ _ _ hl HA.out).mono ?_; rintro e w1 ⟨rfl, hb1⟩; have hW := hb1; clear hb1)
        go_ret
        exact ⟨ret_bool hr.out.symm, hW⟩
      · have h8' : b.length ≤ 8 := by omega
        clear h8
        go_enter Try.func30, Try.ntmps30
        go_wp2_with (go_at_call 51; refine (validSacks_any _ _ _ _ hl HA.out).mono ?_; rintro e w1 ⟨rfl, hb1⟩; have hW := hb1; clear hb1)
        go_loopw [4, 22] (fun q i wr => ∃ k : Nat, k ≤ b.length ∧ i = .int .i64 k ∧ q = .bool false ∧ (b.take k).all (takeOk l) = true ∧ Below w.heap.size w wr) (fun _ i _ => b.length - (intOf i).toNat)
        case atStart => exact ⟨0, by omega, rfl, rfl, by simp, hW⟩
        case round =>
          clear hW
          obtain ⟨k, hk, rfl, rfl, hall, hB⟩ := hrel
          have HL := Lib.hid hall
          clear hall
          by_cases hlt : k < b.length
          · obtain ⟨bb, off, rfl, hbb, hs⟩ := HS.out (by intro e; subst e; simp at hlt)
            obtain ⟨c0, c1, c2⟩ := hs k hlt
            clear hs
            rw [← hB.cell (p := ⟨bb, _, none⟩) hbb] at c0 c1 c2
            have hok : Hid (takeOk l b[k] = (decide (0 ≤ b[k].s ∧ b[k].s < l.length) && withinB ⟨b[k].m.lo, b[k].m.hi⟩ 1 100000)) := rfl
            have hsz := hB.size
            have hW := hB.alloc hB.size (.cells #[.int .i64 b[k].s, .int .i64 b[k].m.lo, .int .i64 b[k].m.hi] 51)
            have H8 : Hid (takeOk l b[k] = false → Ending.returned (.bool false) = Ending.returned (.bool (validB l b))) := fun h => by rw [validB_no hlt h]
            clear hB
            generalize hdi : decide (0 ≤ b[k].s ∧ b[k].s < l.length) = di at hok
            have HD := Lib.hid hdi
            clear hdi
            cases hx1 : di with
            | false =>
              subst hx1
              go_wp2_with (first | (go_at_call 52; refine (isIndex_any _ _ _ _ _).mono ?_; rw [HD.out]; rintro e w' ⟨rfl, rfl⟩) | (go_at_call 42; refine (within_any _ _ _ _ _).mono ?_; rintro e w' ⟨rfl, hb'⟩; obtain ⟨hc', hf'⟩ := bcell hb'; have hz' : wr.heap.size < w'.heap.size := (by have h0 := hb'.size; (try simp only [World.size_alloc] at h0); omega); replace hW := hW.trans (hb'.mono (by (try simp only [World.size_alloc]); omega)); clear hb'))
              go_ret
              exact ⟨H8.out (by rw [hok.out]; rfl), hW⟩
            | true =>
              subst hx1
              cases hx2 : withinB ⟨b[k].m.lo, b[k].m.hi⟩ 1 100000 with
              | false =>
                go_wp2_with (first | (go_at_call 52; refine (isIndex_any _ _ _ _ _).mono ?_; rw [HD.out]; rintro e w' ⟨rfl, rfl⟩) | (go_at_call 42; refine (within_any _ _ _ _ _).mono ?_; rintro e w' ⟨rfl, hb'⟩; obtain ⟨hc', hf'⟩ := bcell hb'; have hz' : wr.heap.size < w'.heap.size := (by have h0 := hb'.size; (try simp only [World.size_alloc] at h0); omega); replace hW := hW.trans (hb'.mono (by (try simp only [World.size_alloc]); omega)); clear hb'))
                go_ret
                exact ⟨H8.out (by rw [hok.out, hx2]; rfl), hW⟩
              | true =>
                have HN : Hid ((b.take (k + 1)).all (takeOk l) = true) := by
                  show _ = _
                  rw [List.take_succ_eq_append_getElem hlt, List.all_append, HL.out, List.all_cons, hok.out, hx2]; rfl
                go_wp2_with (first | (go_at_call 52; refine (isIndex_any _ _ _ _ _).mono ?_; rw [HD.out]; rintro e w' ⟨rfl, rfl⟩) | (go_at_call 42; refine (within_any _ _ _ _ _).mono ?_; rintro e w' ⟨rfl, hb'⟩; obtain ⟨hc', hf'⟩ := bcell hb'; have hz' : wr.heap.size < w'.heap.size := (by have h0 := hb'.size; (try simp only [World.size_alloc] at h0); omega); replace hW := hW.trans (hb'.mono (by (try simp only [World.size_alloc]); omega)); clear hb'))
                go_roundw
                case rel => exact ⟨k + 1, by omega, by go_num, rfl, HN.out, hW⟩
                case measure => simp [intOf]; omega
          · go_wp2
            go_ret
            obtain rfl : k = b.length := by omega
            have h1 := HL.out
            rw [List.take_length] at h1
            exact ⟨ret_bool (by simp [validB, hx, h1]; omega), hB⟩
end Go.Proofs.Ytoiggflhfbfiiaa
