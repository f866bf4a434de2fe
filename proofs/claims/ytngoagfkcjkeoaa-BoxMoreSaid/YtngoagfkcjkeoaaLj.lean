/- The iterator over sets of shades. -/
import Derived.Test.YtngoagfkcjkeoaaLi
import Derived.Test.YtngoagfkcjkeoaaFa
namespace Go.Proofs.Ytngoagfkcjkeoaa
open Go.RowKit Go.Shelf
attribute [local go_sem] Oper.semAt_some

def SameAt (q : Nat) (W W' : World) : Prop := W'.heap[q]? = W.heap[q]?
theorem SameAt.of_below {q B : Nat} {W W' : World} (h : Below B W W') (hq : q < B) : SameAt q W W' := h.block q hq
theorem SameAt.trans {q : Nat} {A B C : World} (h : SameAt q A B) (k : SameAt q B C) : SameAt q A C := Eq.trans k h
theorem sets_len (m : Nat) : (setsS m).length = 2 ^ m - 1 := by simp [setsS]
theorem sets_at (m k : Nat) (h : k < 2 ^ m - 1) : (setsS m).take (k + 1) = (setsS m).take k ++ [k + 1] := by
  rw [List.take_add_one]
  have e : (setsS m)[k]? = some (k + 1) := by
    unfold setsS
    rw [List.getElem?_range' (by omega)]
    simp; omega
  rw [e]
  rfl
theorem sets_all (m : Nat) : (setsS m).take (2 ^ m - 1) = setsS m := List.take_of_length_le (by rw [sets_len]; exact Nat.le_refl _)
/-- What is known of what is yielded. -/
def SetFact (m x : Nat) (_ : World) : Prop := 1 ≤ x ∧ x < 2 ^ m
def setV (x : Nat) : Array Value := #[.int .i64 (x : Int)]
structure ItZ (m q : Nat) (J : List Nat → World → Prop) (k : Nat) (W : World) : Prop where
  box : Blk W q 3 #[.int .i64 (m : Int)]
  come : J ((setsS m).take k) W
set_option maxRecDepth 100000 in
set_option maxHeartbeats 4000000 in
theorem sets1_in (n : Nat) (hn : 2 ≤ n) (l q m : Nat) (J Jx : List Nat → World → Prop) (W : World) (hm : m ≤ 8) (hJ : AbidesFrom W.heap.size J)
    (hY : ∀ pre x W, J pre W → SetFact m x W → pre.length < 2 ^ m - 1 → YieldAt Fence.wide (n - 1) Try.prog l (setV x) W fun e W' =>
      (e = .returned (.bool true) ∧ J (pre ++ [x]) W' ∧ SameAt q W W') ∨ (e = .returned (.bool false) ∧ Jx (pre ++ [x]) W'))
    (hS : ItZ m q J 0 W) :
    CallsIn Fence.wide n Try.prog 77 #[.func (.yield l) #[] #[], .pointer (some ⟨q, 0, none⟩)] W fun e W' => (∃ v, e = .returned v) ∧
      ((∃ ys, ys = setsS m ∧ J ys W') ∨ (∃ pre, (∃ k, pre = (setsS m).take k) ∧ Jx pre W')) := by
  refine callsIn_of_wp Try.func77 rfl trivial ?_ rfl
  simp only [Try.ntmps77, List.size_toArray, List.length_cons, List.length_nil, Nat.reduceAdd, Nat.reduceSub, Array.replicate_succ, Array.replicate_zero, List.push_toArray, List.append_toArray, List.nil_append, List.cons_append]
  have HY := Lib.hid hY
  have HS := Lib.hid hS
  have hp := pow_tab m (by omega)
  have hp2 := pow_tab2 m (by omega)
  have hP1 : 1 ≤ 2 ^ m := Nat.two_pow_pos m
  have hP2 : 2 ^ m ≤ 2 ^ 8 := Nat.pow_le_pow_right (by omega) hm
  have hm0 : (0 : Int) ≤ m := by omega
  have hm1 : (m : Int) ≤ 64 := by omega
  have HAT := Lib.hid (sets_at m)
  have HFX : Hid (∀ (k : Nat) (V : World), k < 2 ^ m - 1 → SetFact m (k + 1) V) := Lib.hid fun k V h => ⟨by omega, by omega⟩
  have HALL := Lib.hid (sets_all m)
  have HLE := Lib.hid (sets_len m)
  generalize 2 ^ m = P at *
  have _ := hJ
  clear hY hS hJ
  gi_wp2
  gi_loopw [3] (fun i wr => ∃ k : Nat, k ≤ P - 1 ∧ i = .int .i64 ((k : Int) + 1) ∧ Hid (ItZ m q J k wr)) (fun i _ => P - (intOf i).toNat)
  case atStart => exact ⟨0, by omega, rfl, HS⟩
  case round =>
    clear HS
    obtain ⟨k, hk, rfl, HS⟩ := hrel
    have x0 := HS.out.box.cell 0
    by_cases hlt : k < P - 1
    · have hkP : (k : Int) + 1 < (P : Int) := by omega
      have HJ := Lib.hid HS.out.come
      have hlen : ((setsS m).take k).length = k := by rw [List.length_take, HLE.out]; omega
      obtain ⟨fn, tmps, assign, body, hy, hR⟩ := HY.out _ (k + 1) wr HS.out.come (HFX.out k wr hlt) (by omega)
      simp only [setV] at hy
      have e9 : ((k + 1 : Nat) : Int) = (k : Int) + 1 := by omega
      rw [e9] at hy
      clear hlen HJ
      gi_wp2_with fail
      refine ⟨fun _ => (by omega), hR.mono ?_⟩
      rintro e W3 (⟨rfl, hJ3, hk3⟩ | ⟨rfl, hJx3⟩)
      · have HN : Hid (ItZ m q J (k + 1) W3) := Lib.hid ⟨(show W3.heap[q]? = wr.heap[q]? from hk3).trans HS.out.box, by rw [HAT.out k hlt]; exact hJ3⟩
        clear HS hJ3 hk3 hy hR x0
        have w1 : IntKind.i64.wrap ((k : Int) + 1 + 1) = (k : Int) + 1 + 1 := IntWalk.i64_in _ ⟨by omega, by omega⟩
        gi_wp2
        go_roundw
        case rel => exact ⟨k + 1, by omega, by go_num, HN⟩
        case measure => simp [intOf]; omega
      · have HN : Hid (Jx ((setsS m).take (k + 1)) W3) := Lib.hid (by rw [HAT.out k hlt]; exact hJx3)
        clear HS hJx3 hy hR x0
        gi_wp2
        refine bodyPost_ret (results_none rfl _ _ _) rfl ?_
        exact ⟨⟨_, rfl⟩, .inr ⟨_, ⟨k + 1, rfl⟩, HN.out⟩⟩
    · obtain rfl : k = P - 1 := by omega
      have HN : Hid (J (setsS m) wr) := Lib.hid (by have h9 := HS.out.come; rwa [HALL.out] at h9)
      have hkP : ¬ ((P - 1 : Nat) : Int) + 1 < (P : Int) := by omega
      clear HS
      gi_wp2
      go_end0
      exact ⟨⟨_, rfl⟩, .inl HN.out⟩
theorem sets_facts (n : Nat) (hn : 2 ≤ n) (q m : Nat) (w : World) (hm : m ≤ 8) (hq : Blk w q 3 #[.int .i64 (m : Int)]) :
    SeqFacts n Try.prog 77 #[.pointer (some ⟨q, 0, none⟩)] setV (SetFact m) (SameAt q) (fun ys => ys = setsS m) (fun pre => ∃ k, pre = (setsS m).take k) (2 ^ m - 1) w := fun l J Jx W hW hJ _ hY h0 =>
  sets1_in n hn l q m J Jx W hm hJ hY ⟨hq.below hW hq.lt, h0⟩
set_option maxHeartbeats 400000 in
theorem sets_any (w : World) (m : Nat) : Calls Try.prog 62 #[.int .i64 (m : Int)] w fun e w' => e = .returned (.func (.func 77) #[] #[.pointer (some ⟨w.heap.size, 0, none⟩)]) ∧ w.alloc (.cells #[.int .i64 (m : Int)] 3) = w' := by
  go_enter Try.func62, Try.ntmps62
  go_wp2
  go_ret
  exact ⟨rfl, rfl⟩
end Go.Proofs.Ytngoagfkcjkeoaa
