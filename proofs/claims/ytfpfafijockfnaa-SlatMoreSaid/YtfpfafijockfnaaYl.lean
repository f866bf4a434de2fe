/- The document's own Ints: whether two lists are the same. -/
import Derived.Test.YtfpfafijockfnaaYk
import Derived.BigQuiet
namespace Go.Proofs.Ytfpfafijockfnaa
open Go.RowKit Go.Shelf

theorem below_drewN5 {B : Nat} {a w : World} (h : Below B a w) (n : Nat) : Below B a (w.drewN n) := ⟨h.os, h.tape, h.output, h.size, h.block⟩
theorem plan_sl5 {W : World} {A : Option Addr} {n c : Nat} {l : List Int} (h : PlanAt W (.slice A n c) l) : IntSl W W.heap.size A l := fun hne => by
  obtain ⟨g, cap, he, hg, hc⟩ := plan_cells h hne
  simp only [Value.slice.injEq] at he
  refine ⟨g, 0, he.1, hg, fun j hj => ?_⟩
  have := hc j (.int .i64 l[j]) (by simp [intsV, hj])
  have ha : (⟨g, 0, none⟩ : Addr).add j = ⟨g, 0 + j, none⟩ := by
    unfold Addr.add
    by_cases e : j = 0 <;> simp [e]
  rw [ha] at this
  exact this
theorem take_snoc_eq5 {a b : List Int} {k : Nat} (ha : k < a.length) (hb : k < b.length) (h : a.take k = b.take k) (he : a[k] = b[k]) : a.take (k + 1) = b.take (k + 1) := by
  rw [List.take_succ_eq_append_getElem ha, List.take_succ_eq_append_getElem hb, h, he]
set_option maxRecDepth 100000 in
set_option maxHeartbeats 4000000 in
theorem ints5_any (w : World) (A B : Option Addr) (ca cb : Nat) (a b : List Int) (ha : a.length ≤ 9223372036854775807) (hb : b.length ≤ 9223372036854775807) (hA : IntSl w w.heap.size A a) (hB : IntSl w w.heap.size B b) :
    Calls Try.prog 17 #[.slice A a.length ca, .slice B b.length cb] w (Ret (.bool (decide (a = b))) w) := by
  have HA := Lib.hid hA
  have HB := Lib.hid hB
  have _ : True := (fun _ => trivial) hb
  clear hA hB
  by_cases hlen : a.length = b.length
  · have HLE := Lib.hid hlen
    rw [← hlen]
    have ha0 : (0 : Int) ≤ a.length := by omega
    have ha' : (a.length : Int) ≤ 9223372036854775807 := by omega
    clear hlen hb
    go_enter Try.func17, Try.ntmps17
    go_wp2_with fail
    go_loopw [5] (fun i wr => ∃ k : Nat, k ≤ a.length ∧ i = .int .i64 k ∧ Hid (a.take k = b.take k) ∧ Hid (Below w.heap.size w wr)) (fun i _ => a.length - (intOf i).toNat)
    case atStart => exact ⟨0, by omega, rfl, Lib.hid (by simp), Lib.hid (Below.refl _ _)⟩
    case round =>
      obtain ⟨k, hk, rfl, HT, HW⟩ := hrel
      by_cases hlt : k < a.length
      · have hkb : k < b.length := by have := HLE.out; omega
        obtain ⟨ba, oa, rfl, hba, hca⟩ := HA.out (by intro e; rw [e] at hlt; simp at hlt)
        obtain ⟨bb, ob, rfl, hbb, hcb⟩ := HB.out (by intro e; rw [e] at hkb; simp at hkb)
        have x0 := hca k hlt
        have y0 := hcb k hkb
        rw [← HW.out.cell (p := ⟨ba, _, none⟩) hba] at x0
        rw [← HW.out.cell (p := ⟨bb, _, none⟩) hbb] at y0
        clear hca hcb
        have HE : Hid (a[k] = b[k] → a.take (k + 1) = b.take (k + 1)) := Lib.hid fun h => take_snoc_eq5 hlt hkb HT.out h
        have HN : Hid (a[k] ≠ b[k] → decide (a = b) = false) := Lib.hid fun h => decide_eq_false fun e => h (by simp [e])
        have hsz := HW.out.size
        have hz1 : ba < wr.heap.size := by omega
        have hz2 : bb < wr.heap.size := by omega
        generalize hxa : a[k] = xa at *
        generalize hxb : b[k] = xb at *
        clear hxa hxb HT
        by_cases hx : xa = xb
        · have HS := Lib.hid (HE.out hx)
          have hbq : (xa == xb) = true := by simp [hx]
          clear HE HN
          subst hx
          go_wp2_with fail
          go_quiet (fail)
          go_wp2_with fail
          go_roundw
          case rel => exact ⟨k + 1, by omega, by go_num, HS, Lib.hid (below_drewN5 HW.out _)⟩
          case measure => simp [intOf]; omega
        · have HF := Lib.hid (HN.out hx)
          have hbq : (xa == xb) = false := by simp [hx]
          clear HE HN
          go_wp2_with fail
          go_quiet (fail)
          go_wp2_with fail
          go_ret
          exact ⟨ret_bool HF.out.symm, below_drewN5 HW.out _⟩
      · obtain rfl : k = a.length := by omega
        have HF : Hid (decide (a = b) = true) := Lib.hid (decide_eq_true (by
          have := HT.out
          rw [List.take_length] at this
          rw [this, HLE.out, List.take_length]))
        go_wp2_with fail
        go_ret
        exact ⟨ret_bool HF.out.symm, HW.out⟩
  · have hne : ((a.length : Int) == b.length) = false := by rw [beq_eq_false_iff_ne]; omega
    have hF : decide (a = b) = false := decide_eq_false fun e => hlen (by rw [e])
    rw [hF]
    clear hlen hF HA HB
    go_enter Try.func17, Try.ntmps17
    go_wp2_with fail
    go_ret
    exact ⟨rfl, Below.refl _ _⟩
end Go.Proofs.Ytfpfafijockfnaa
