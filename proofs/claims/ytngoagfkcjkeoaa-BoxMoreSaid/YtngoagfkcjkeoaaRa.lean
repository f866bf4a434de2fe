/- Walks of the document's own: what sets have in common, what they have, what they need. -/
import Derived.Test.YtngoagfkcjkeoaaLg
namespace Go.Proofs.Ytngoagfkcjkeoaa
open Go.RowKit Go.Shelf

def noneTo (a b k : Nat) : Prop := ∀ i < k, (a.testBit i && b.testBit i) = false
theorem none_all {a b : Nat} (ha : a < 256) (h : noneTo a b 8) : (a &&& b != 0) = false := by
  have : a &&& b = 0 := Nat.eq_of_testBit_eq fun i => by
    rw [Nat.testBit_and, Nat.zero_testBit]
    by_cases hi : i < 8
    · exact h i hi
    · have hi9 : 8 ≤ i := by omega
      have : a.testBit i = false := Nat.testBit_lt_two_pow (Nat.lt_of_lt_of_le ha (Nat.pow_le_pow_right (by omega) hi9 : 2 ^ 8 ≤ 2 ^ i))
      rw [this, Bool.false_and]
  rw [this]; rfl
theorem some_at {a b i : Nat} (ha : a.testBit i = true) (hb : b.testBit i = true) : (a &&& b != 0) = true := by
  rw [bne_iff_ne]
  intro e
  have h := Nat.testBit_and a b i
  rw [e, ha, hb, Nat.zero_testBit] at h
  cases h
theorem none_next {a b k : Nat} (h : noneTo a b k) (hk : (a.testBit k && b.testBit k) = false) : noneTo a b (k + 1) := fun i hi => by
  rcases Nat.lt_or_ge i k with c | c
  · exact h i c
  · obtain rfl : i = k := by omega
    exact hk
set_option maxRecDepth 100000 in
set_option maxHeartbeats 2000000 in
theorem rcommon_any (a b : Nat) (w : World) (ha : a < 256) (hb : b < 256) : Calls Try.prog 51 #[.int .i64 (a : Int), .int .i64 (b : Int)] w fun e w' => e = .returned (.bool (a &&& b != 0)) ∧ w = w' := by
  go_enter Try.func51, Try.ntmps51
  go_wp2_with fail
  go_loopw [5] (fun i wr => ∃ k : Nat, k ≤ 8 ∧ i = .int .i64 k ∧ Hid (noneTo a b k) ∧ w = wr) (fun i _ => 8 - (intOf i).toNat)
  case atStart => exact ⟨0, by omega, rfl, Lib.hid (fun i hi => by omega), by simp⟩
  case round =>
    obtain ⟨k, hk, rfl, HK, rfl⟩ := hrel
    by_cases hlt : k < 8
    · have hkn : (k : Int) < 8 := by omega
      have hk0 : (0 : Int) ≤ k := by omega
      cases h1 : a.testBit k with
      | false =>
        have HN := Lib.hid (none_next HK.out (by rw [h1]; rfl))
        go_wp2_with fail
        refine (rHas_any a k _ (by omega) (by omega)).mono ?_
        rintro e w' ⟨rfl, rfl⟩
        rw [h1]
        go_wp2_with fail
        go_roundw
        case rel => exact ⟨k + 1, by omega, by go_num, HN, trivial⟩
        case measure => exact meas9 hlt
      | true =>
        cases h2 : b.testBit k with
        | false =>
          have HN := Lib.hid (none_next HK.out (by rw [h1, h2]; rfl))
          go_wp2_with fail
          refine (rHas_any a k _ (by omega) (by omega)).mono ?_
          rintro e w' ⟨rfl, rfl⟩
          rw [h1]
          go_wp2_with fail
          refine (rHas_any b k _ (by omega) (by omega)).mono ?_
          rintro e w' ⟨rfl, rfl⟩
          rw [h2]
          go_wp2_with fail
          go_roundw
          case rel => exact ⟨k + 1, by omega, by go_num, HN, trivial⟩
          case measure => exact meas9 hlt
        | true =>
          go_wp2_with fail
          refine (rHas_any a k _ (by omega) (by omega)).mono ?_
          rintro e w' ⟨rfl, rfl⟩
          rw [h1]
          go_wp2_with fail
          refine (rHas_any b k _ (by omega) (by omega)).mono ?_
          rintro e w' ⟨rfl, rfl⟩
          rw [h2]
          go_wp2_with fail
          go_ret
          exact ⟨ret_bool (some_at h1 h2).symm, rfl⟩
    · obtain rfl : k = 8 := by omega
      go_wp2
      go_ret
      exact ⟨ret_bool (none_all ha HK.out).symm, rfl⟩
set_option maxRecDepth 100000 in
set_option maxHeartbeats 2000000 in
theorem rNeeds_any (w : World) (A : Option Addr) (c s : Nat) (need : List Int) (hs : s < 256) (hn : NeedIn need) (hA : IntSl w w.heap.size A need) :
    Calls Try.prog 24 #[.slice A need.length c, .int .i64 (s : Int)] w fun e w' => e = .returned (.int .i64 (needS need s)) ∧ w = w' := by
  have HA := Lib.hid hA
  have HT := Lib.hid fun k => need_bdT hn s k
  have HN := Lib.hid hn
  have hl0 : (0 : Int) ≤ need.length := by omega
  have hl1 : (need.length : Int) ≤ 8 := by have := hn.1; omega
  have hF : needF need s 0 = needS need s := rfl
  clear hA hn
  go_enter Try.func24, Try.ntmps24
  go_wp2_with fail
  go_loopw [5, 6] (fun a i wr => ∃ k : Nat, k ≤ need.length ∧ i = .int .i64 k ∧ a = .int .i64 (needF (need.take k) s 0) ∧ w = wr) (fun _ i _ => need.length - (intOf i).toNat)
  case atStart => exact ⟨0, Nat.zero_le _, rfl, by simp [needF], by simp⟩
  case round =>
    obtain ⟨k, hk, rfl, rfl, rfl⟩ := hrel
    by_cases hlt : k < need.length
    · obtain ⟨b, off, rfl, hb, hat⟩ := HA.out (by intro e; rw [e] at hlt; simp at hlt)
      have x0 := hat k hlt
      have hkn : (k : Int) < need.length := by omega
      have hk0 : (0 : Int) ≤ k := by omega
      have hq : k < 8 := by have := HN.out.1; omega
      have HX := Lib.hid (needF_next need s k hlt)
      obtain ⟨t0, t1⟩ := HT.out k
      obtain ⟨t2, t3⟩ := HT.out (k + 1)
      generalize need[k] = x at *
      generalize needF (need.take k) s 0 = F at *
      clear hat
      go_wp2_with fail
      refine (rHas_any s k _ (by omega) (by omega)).mono ?_
      rintro e w' ⟨rfl, rfl⟩
      cases h : s.testBit k with
      | true =>
        have hX : needF (need.take (k + 1)) s 0 = F + x := by rw [HX.out, h, if_pos rfl]
        rw [hX] at t2 t3
        have hw : IntKind.i64.wrap (F + x) = F + x := IntWalk.i64_in _ ⟨by omega, by omega⟩
        go_wp2_with fail
        go_roundw
        case rel => exact ⟨k + 1, by omega, by go_num, by rw [hX], trivial⟩
        case measure => exact meas9 hlt
      | false =>
        have hX : needF (need.take (k + 1)) s 0 = F := by rw [HX.out, h, if_neg (by simp), Int.add_zero]
        go_wp2_with fail
        go_roundw
        case rel => exact ⟨k + 1, by omega, by go_num, by rw [hX], trivial⟩
        case measure => exact meas9 hlt
    · obtain rfl : k = need.length := by omega
      rw [List.take_length, hF]
      go_wp2
      go_ret
      exact ⟨rfl, rfl⟩
set_option maxRecDepth 100000 in
set_option maxHeartbeats 2000000 in
theorem rOf_any (w : World) (A : Option Addr) (c s : Nat) (l : List Pile) (hs : s < 256) (hl : PilesIn l) (hA : PileSl w w.heap.size A l) :
    Calls Try.prog 23 #[.slice A l.length c, .int .i64 (s : Int)] w fun e w' => e = .returned (.int .i64 (hasS l s)) ∧ w = w' := by
  have HA := Lib.hid hA
  have HT := Lib.hid fun k => has_bdT hl s k
  have HN := Lib.hid hl
  have hl0 : (0 : Int) ≤ l.length := by omega
  have hl1 : (l.length : Int) ≤ 8 := by have := hl.1; omega
  clear hA hl
  go_enter Try.func23, Try.ntmps23
  go_wp2_with fail
  go_loopw [5, 6] (fun a i wr => ∃ k : Nat, k ≤ l.length ∧ i = .int .i64 k ∧ a = .int .i64 (hasS (l.take k) s) ∧ w = wr) (fun _ i _ => l.length - (intOf i).toNat)
  case atStart => exact ⟨0, Nat.zero_le _, rfl, by simp [hasS], by simp⟩
  case round =>
    obtain ⟨k, hk, rfl, rfl, rfl⟩ := hrel
    by_cases hlt : k < l.length
    · obtain ⟨b, off, rfl, hb, hat⟩ := HA.out (by intro e; rw [e] at hlt; simp at hlt)
      obtain ⟨x0, x1⟩ := hat k hlt
      have hkn : (k : Int) < l.length := by omega
      have hk0 : (0 : Int) ≤ k := by omega
      obtain ⟨⟨p1, p2⟩, p3, p4⟩ := HN.out.2 l[k] (List.getElem_mem hlt)
      have HX := Lib.hid (hasS_next l s k hlt)
      obtain ⟨t0, t1⟩ := HT.out k
      obtain ⟨t2, t3⟩ := HT.out (k + 1)
      generalize l[k] = p at *
      generalize hasS (l.take k) s = F at *
      obtain ⟨sh, hsh⟩ := Int.eq_ofNat_of_zero_le p1
      have hsh2 : sh < 256 := by omega
      have hmt : meetB p.shades s = (sh &&& s != 0) := by unfold meetB; rw [hsh, Int.toNat_natCast]
      rw [hsh] at x0
      clear hat p1 p2 hb
      go_wp2_with fail
      refine (rcommon_any sh s _ hsh2 hs).mono ?_
      rintro e w' ⟨rfl, rfl⟩
      cases h : (sh &&& s != 0) with
      | true =>
        have hX : hasS (l.take (k + 1)) s = F + p.many := by rw [HX.out, hmt, h, if_pos rfl]
        rw [hX] at t2 t3
        have hw : IntKind.i64.wrap (F + p.many) = F + p.many := IntWalk.i64_in _ ⟨by omega, by omega⟩
        go_wp2_with fail
        go_roundw
        case rel => exact ⟨k + 1, by omega, by go_num, by rw [hX], trivial⟩
        case measure => exact meas9 hlt
      | false =>
        have hX : hasS (l.take (k + 1)) s = F := by rw [HX.out, hmt, h, if_neg (by simp), Int.add_zero]
        go_wp2_with fail
        go_roundw
        case rel => exact ⟨k + 1, by omega, by go_num, by rw [hX], trivial⟩
        case measure => exact meas9 hlt
    · obtain rfl : k = l.length := by omega
      rw [List.take_length]
      go_wp2
      go_ret
      exact ⟨rfl, rfl⟩
end Go.Proofs.Ytngoagfkcjkeoaa
