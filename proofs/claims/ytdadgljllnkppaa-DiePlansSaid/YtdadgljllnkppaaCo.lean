/- Walk of the document's own Cost. -/
import Derived.Test.YtdadgljllnkppaaPc
import Derived.Test.YtdadgljllnkppaaIn
namespace Go.Proofs.Ytdadgljllnkppaa
open Go.RowKit Go.Shelf

theorem costG_bd {ch : Int} (h0 : 0 ≤ ch) (h1 : ch ≤ 10000) : ∀ (l : List Int) (b : Option Int), (∀ d ∈ l, 0 ≤ d ∧ d ≤ 3) → 0 ≤ costG ch b l ∧ costG ch b l ≤ 10003 * l.length
  | [], b, _ => by cases b <;> simp [costG]
  | d :: l, b, h => by
    have hd := h d (by simp)
    obtain ⟨a, c⟩ := costG_bd h0 h1 l (some d) fun e he => h e (by simp [he])
    cases b with
    | none => simp only [costG, List.length_cons]; omega
    | some e =>
      simp only [costG, List.length_cons]
      split <;> omega
theorem take_snoc' {l : List Int} {k : Nat} (h : k < l.length) : l.take (k + 1) = l.take k ++ [l[k]] := List.take_succ_eq_append_getElem h
/-- The next number of a plan. -/
theorem cost_step {ch : Int} {l : List Int} {k : Nat} (h : k < l.length) : costG ch none (l.take (k + 1)) = costG ch none (l.take k) + l[k] + (if k = 0 then 0 else if l[k] = l.getD (k - 1) 0 then 0 else ch) := by
  rw [take_snoc' h, costG_snoc]
  by_cases hk : k = 0
  · subst hk
    simp
  · have hl : (l.take k).getLast? = some (l.getD (k - 1) 0) := by
      rw [List.getLast?_eq_getElem?]
      simp only [List.length_take, Nat.min_eq_left (Nat.le_of_lt h)]
      rw [List.getElem?_take, if_pos (by omega), List.getD_eq_getElem?_getD, List.getElem?_eq_getElem (by omega)]
      rfl
    rw [hl, if_neg hk]
    simp only
    omega
set_option maxRecDepth 100000 in
set_option maxHeartbeats 2000000 in
theorem rcost_any (w : World) (A P : Option Addr) (c cp : Nat) (p : Press) (plan : List Int) (h0 : 0 ≤ p.change) (h1 : p.change ≤ 10000) (hl : plan.length ≤ 100) (hd : ∀ d ∈ plan, 0 ≤ d ∧ d ≤ 3) (hP : IntSl w w.heap.size P plan) :
    Calls Try.prog 31 #[.agg #[.slice A p.dies.length c, .int .i64 p.shrink.lo, .int .i64 p.shrink.hi, .int .i64 p.change], .slice P plan.length cp] w (Ret (.int .i64 (costG p.change none plan)) w) := by
  have HP := Lib.hid hP
  have HD := Lib.hid hd
  have hl0 : (0 : Int) ≤ plan.length := by omega
  have hl' : (plan.length : Int) ≤ 100 := by omega
  have HCB := Lib.hid fun k => costG_bd h0 h1 (plan.take k) none fun d h => hd d (List.mem_of_mem_take h)
  have hb0 : Below w.heap.size w (w.alloc (.cells #[.slice A p.dies.length c, .int .i64 p.shrink.lo, .int .i64 p.shrink.hi, .int .i64 p.change] 26)) := (Below.refl _ _).alloc (Nat.le_refl _) _
  have hq0 : Blk (w.alloc (.cells #[.slice A p.dies.length c, .int .i64 p.shrink.lo, .int .i64 p.shrink.hi, .int .i64 p.change] 26)) w.heap.size 26 #[.slice A p.dies.length c, .int .i64 p.shrink.lo, .int .i64 p.shrink.hi, .int .i64 p.change] := Blk.new _ _ _
  clear hP hd
  go_enter Try.func31, Try.ntmps31
  go_wp2_with fail
  generalize World.alloc w _ = W0 at hb0 hq0 ⊢
  have HB0 := Lib.hid hb0
  have HQ0 := Lib.hid hq0
  clear hb0 hq0
  go_loopw [5, 6] (fun s i wr => ∃ k : Nat, k ≤ plan.length ∧ s = .int .i64 (costG p.change none (plan.take k)) ∧ i = .int .i64 k ∧ Hid (Below w.heap.size w wr) ∧ Hid (Blk wr w.heap.size 26 #[.slice A p.dies.length c, .int .i64 p.shrink.lo, .int .i64 p.shrink.hi, .int .i64 p.change])) (fun _ i _ => plan.length - (intOf i).toNat)
  case atStart => exact ⟨0, by omega, rfl, rfl, HB0, HQ0⟩
  case round =>
    clear HB0 HQ0
    obtain ⟨k, hk, rfl, rfl, HB, HQ⟩ := hrel
    by_cases hlt : k < plan.length
    · obtain ⟨b, off, rfl, hb, hat⟩ := HP.out (by intro e; rw [e] at hlt; simp at hlt)
      have x0 := hat k hlt
      rw [← HB.out.cell (p := ⟨b, _, none⟩) hb] at x0
      have q2 := HQ.out.cell 3
      have HST := Lib.hid (cost_step (ch := p.change) hlt)
      have hbd := HCB.out k
      have hdk := HD.out plan[k] (List.getElem_mem hlt)
      have hlk : (plan.take k).length = k := by simp; omega
      rw [hlk] at hbd
      generalize costG p.change none (plan.take k) = z at *
      have hki : (k : Int) < plan.length := by omega
      have hk0 : (0 : Int) ≤ k := by omega
      by_cases hkz : k = 0
      · have hg : decide ((0 : Int) < (k : Int)) = false := decide_eq_false (by omega)
        have hgN : decide (0 < k) = false := decide_eq_false (by omega)
        rw [if_pos hkz, Int.add_zero] at HST
        generalize plan[k] = d at *
        have hw : IntKind.i64.wrap (z + d) = z + d := IntWalk.i64_in _ ⟨by omega, by omega⟩
        clear hat hkz
        go_wp2_with fail
        go_quiet (fail)
        go_wp2_with fail
        go_roundw
        case rel => exact ⟨k + 1, by omega, by rw [HST.out], by go_num, Lib.hid (below_drewN HB.out _), Lib.hid HQ.out⟩
        case measure => simp [intOf]; omega
      · have hg : decide ((0 : Int) < (k : Int)) = true := decide_eq_true (by omega)
        have hgN : decide (0 < k) = true := decide_eq_true (by omega)
        obtain ⟨j, hj⟩ : ∃ j, k = j + 1 := ⟨k - 1, by omega⟩
        have y0 := hat j (by omega)
        rw [← HB.out.cell (p := ⟨b, _, none⟩) hb] at y0
        have hgd : plan.getD (k - 1) 0 = plan[j]'(by omega) := by
          have e : k - 1 = j := by omega
          simp only [e]
          simp [List.getD_eq_getElem?_getD, List.getElem?_eq_getElem (show j < plan.length by omega)]
        rw [if_neg hkz, hgd] at HST
        have hwj : IntKind.i64.wrap ((k : Int) - 1) = (j : Int) := by rw [IntWalk.i64_in _ ⟨by omega, by omega⟩]; omega
        have hj0 : (0 : Int) ≤ j := by omega
        have hjl : (j : Int) < plan.length := by omega
        generalize plan[k] = d at *
        generalize plan[j] = d2 at *
        have hw : IntKind.i64.wrap (z + d) = z + d := IntWalk.i64_in _ ⟨by omega, by omega⟩
        clear hat hgd hkz hj
        by_cases hdd : d = d2
        · have hbq : (d == d2) = true := by simp [hdd]
          rw [if_pos hdd, Int.add_zero] at HST
          clear hdd
          go_wp2_with fail
          go_quiet (fail)
          go_wp2_with fail
          go_roundw
          case rel => exact ⟨k + 1, by omega, by rw [HST.out], by go_num, Lib.hid (below_drewN HB.out _), Lib.hid HQ.out⟩
          case measure => simp [intOf]; omega
        · have hbq : (d == d2) = false := by simp [hdd]
          rw [if_neg hdd] at HST
          have hw3 : IntKind.i64.wrap (z + d + p.change) = z + d + p.change := IntWalk.i64_in _ ⟨by omega, by omega⟩
          clear hdd
          go_wp2_with fail
          go_quiet (fail)
          have q3 : (World.drewN wr nq).cell? ⟨w.heap.size, 3, none⟩ = _ := HQ.out.cell 3
          go_wp2_with fail
          go_roundw
          case rel => exact ⟨k + 1, by omega, by rw [HST.out], by go_num, Lib.hid (below_drewN HB.out _), Lib.hid HQ.out⟩
          case measure => simp [intOf]; omega
    · obtain rfl : k = plan.length := by omega
      rw [List.take_length]
      go_wp2_with fail
      go_ret
      exact ⟨rfl, HB.out⟩
end Go.Proofs.Ytdadgljllnkppaa
