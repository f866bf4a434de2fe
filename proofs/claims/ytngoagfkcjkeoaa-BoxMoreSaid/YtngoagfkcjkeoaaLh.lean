/- Walks: what is asked of numbers and piles; the greatest number that can be. -/
import Derived.Test.YtngoagfkcjkeoaaLg
namespace Go.Proofs.Ytngoagfkcjkeoaa
open Go.RowKit Go.Shelf

/-- The greatest of numbers. -/
def maxF : List Int → Int → Int
  | [], m => m
  | x :: r, m => maxF r (max m x)
theorem maxF_next (l : List Int) (k : Nat) (h : k < l.length) (m : Int) : maxF (l.take (k + 1)) m = max (maxF (l.take k) m) l[k] := by
  rw [List.take_add_one, List.getElem?_eq_getElem h]
  generalize l.take k = a
  simp only [Option.toList_some]
  induction a generalizing m with
  | nil => rfl
  | cons x r ih => simp only [List.cons_append, maxF]; exact ih _
theorem maxF_pos : ∀ (l : List Int) (m : Int), decide (0 < maxF l m) = (decide (0 < m) || l.any fun n => decide (0 < n))
  | [], m => by rw [Bool.eq_iff_iff]; simp [maxF]; exact decide_eq_true_iff
  | x :: r, m => by
    unfold maxF
    rw [maxF_pos r (max m x), List.any_cons, ← Bool.or_assoc]
    congr 1
    rw [Bool.eq_iff_iff, Bool.or_eq_true, decide_eq_true_eq, decide_eq_true_eq, decide_eq_true_eq, Int.max_def]
    split <;> omega
set_option maxRecDepth 100000 in
set_option maxHeartbeats 2000000 in
theorem max_any (w : World) (A : Option Addr) (c : Nat) (l : List Int) (h0 : l ≠ []) (hn : l.length ≤ 8) (hA : IntSl w w.heap.size A l) :
    Calls Try.prog 61 #[.slice A l.length c] w fun e w' => e = .returned (.int .i64 (maxF l (l.headD 0))) ∧ w = w' := by
  obtain ⟨b, off, rfl, hb, hat⟩ := hA h0
  have HAT := Lib.hid hat
  have hl0 : 0 < l.length := List.length_pos_iff.2 h0
  have hl1 : (1 : Int) ≤ l.length := by omega
  have hl2 : ¬ (l.length : Int) < 1 := by omega
  have hl3 : (l.length : Int) ≤ 8 := by omega
  have x0 := hat 0 hl0
  have hx : l.headD 0 = l[0] := by cases l with
    | nil => exact absurd rfl h0
    | cons a r => rfl
  rw [hx]
  have HM1 : Hid (maxF (l.take 1) l[0] = l[0]) := Lib.hid (by
    rw [maxF_next l 0 hl0]
    simp [maxF])
  have HNX := Lib.hid fun k (hk : k < l.length) => maxF_next l k hk l[0]
  simp only [Nat.add_zero] at x0
  generalize l[0] = m at *
  clear hat hA hx
  go_enter Try.func61, Try.ntmps61
  go_wp2_with fail
  clear x0
  go_loopw [3, 4] (fun a i wr => ∃ k : Nat, 1 ≤ k ∧ k ≤ l.length ∧ i = .int .i64 k ∧ a = .int .i64 (maxF (l.take k) m) ∧ w = wr) (fun _ i _ => l.length - (intOf i).toNat)
  case atStart => exact ⟨1, Nat.le_refl _, hl0, rfl, by rw [HM1.out], by simp⟩
  case round =>
    obtain ⟨k, hk1, hk, rfl, rfl, rfl⟩ := hrel
    by_cases hlt : k < l.length
    · have x0 := HAT.out k hlt
      have hX := HNX.out k hlt
      have hkn : (k : Int) < l.length := by omega
      have hk0 : (0 : Int) ≤ k := by omega
      generalize l[k] = x at *
      generalize maxF (l.take k) m = F at *
      obtain ⟨z, hz⟩ : ∃ z, max F x = z := ⟨_, rfl⟩
      rw [hz] at hX
      have hz2 : (if F < x then x else F) = z := by rw [← hz, Int.max_def]; split <;> split <;> omega
      go_wp2_with fail
      go_roundw
      case rel => exact ⟨k + 1, by omega, by omega, by go_num, by rw [hX], trivial⟩
      case measure => exact meas9 hlt
    · obtain rfl : k = l.length := by omega
      rw [List.take_length]
      go_wp2
      go_ret
      exact ⟨rfl, rfl⟩
theorem all_take_next (f : Int → Bool) (l : List Int) (k : Nat) (h : k < l.length) : (l.take (k + 1)).all f = ((l.take k).all f && f l[k]) := by
  rw [List.take_add_one, List.getElem?_eq_getElem h, List.all_append]
  simp
theorem all_false_at {α : Type} {f : α → Bool} {l : List α} {k : Nat} (h : k < l.length) (hf : f l[k] = false) : l.all f = false := by
  cases hc : l.all f with
  | false => rfl
  | true => have := List.all_eq_true.1 hc _ (List.getElem_mem h); rw [hf] at this; cases this
set_option maxRecDepth 100000 in
set_option maxHeartbeats 2000000 in
theorem validNeed_any (w : World) (A : Option Addr) (c : Nat) (need : List Int) (hn : need.length ≤ 9223372036854775807) (hA : IntSl w w.heap.size A need) :
    Calls Try.prog 35 #[.slice A need.length c] w fun e w' => e = .returned (.bool (needOk need)) ∧ w = w' := by
  have HA := Lib.hid hA
  have hl0 : (0 : Int) ≤ need.length := by omega
  have hl1 : (need.length : Int) ≤ 9223372036854775807 := by omega
  have HD : Hid (needOk need = (fromB need.length 1 8 && need.all (fun n => fromB n 0 48) && need.any (fun n => decide (0 < n)))) := Lib.hid (by
    unfold needOk fromB
    congr 2
    rw [Bool.eq_iff_iff, decide_eq_true_eq, decide_eq_true_eq]
    omega)
  have HIA := Lib.hid hA
  clear hA
  go_enter Try.func35, Try.ntmps35
  go_wp2_with fail
  refine (isFrom_any _ _ _ _).mono ?_
  rintro e w' ⟨rfl, rfl⟩
  cases h1 : fromB need.length 1 8 with
  | false =>
    go_wp2_with fail
    go_ret
    exact ⟨ret_bool (by rw [HD.out, h1]; rfl), rfl⟩
  | true =>
    have h8 := fromB_iff.1 h1
    go_wp2_with fail
    go_loopw [11] (fun i wr => ∃ k : Nat, k ≤ need.length ∧ i = .int .i64 k ∧ Hid ((need.take k).all (fun n => fromB n 0 48) = true) ∧ w = wr) (fun i _ => need.length - (intOf i).toNat)
    case atStart => exact ⟨0, Nat.zero_le _, rfl, Lib.hid (by simp), by simp⟩
    case round =>
      obtain ⟨k, hk, rfl, HK, rfl⟩ := hrel
      by_cases hlt : k < need.length
      · obtain ⟨b, off, rfl, hb, hat⟩ := HA.out (by intro e; rw [e] at hlt; simp at hlt)
        have x0 := hat k hlt
        have hkn : (k : Int) < need.length := by omega
        have hk0 : (0 : Int) ≤ k := by omega
        have HX := Lib.hid (all_take_next (fun n => fromB n 0 48) need k hlt)
        have HF := Lib.hid fun (h : fromB need[k] 0 48 = false) => all_false_at (f := fun n => fromB n 0 48) hlt h
        generalize need[k] = x at *
        clear hat hb
        go_wp2_with fail
        refine (isFrom_any _ _ _ _).mono ?_
        rintro e w' ⟨rfl, rfl⟩
        cases h2 : fromB x 0 48 with
        | false =>
          go_wp2_with fail
          go_ret
          exact ⟨ret_bool (by rw [HD.out, HF.out h2, Bool.and_false, Bool.false_and]), rfl⟩
        | true =>
          go_wp2_with fail
          go_roundw
          case rel => exact ⟨k + 1, by omega, by go_num, Lib.hid (by rw [HX.out, HK.out]; exact h2), trivial⟩
          case measure => exact meas9 hlt
      · obtain rfl : k = need.length := by omega
        have hall := HK.out
        rw [List.take_length] at hall
        have hne : need ≠ [] := by intro e; rw [e] at h8; simp at h8
        go_wp2_with fail
        refine (max_any _ A c need hne (by omega) HIA.out).mono ?_
        rintro e w' ⟨rfl, rfl⟩
        have hmx := maxF_pos need (need.headD 0)
        have hms : decide (0 < maxF need (need.headD 0)) = need.any (fun n => decide (0 < n)) := by
          rw [hmx]
          cases need with
          | nil => exact absurd rfl hne
          | cons a r => rw [List.any_cons, ← Bool.or_assoc]; show ((decide (0 < a) || decide (0 < a)) || _) = _; rw [Bool.or_self]
        have HMS := Lib.hid hms
        clear hmx hms
        generalize maxF need (need.headD 0) = M at *
        go_wp2_with fail
        go_ret
        exact ⟨ret_bool (by rw [HD.out, h1, hall, ← HMS.out]; simp), rfl⟩
/-- A function value that tells a bool of a number, whatever lies from a block on. -/
def IsCan (w : World) (B : Nat) (v : Value) (M : Int) (f : Int → Bool) : Prop :=
  ∃ (k : Nat) (bd cap : Array Value), v = .func (.func k) bd cap ∧ (∀ args W, (callFunc k args).run Try.prog W = .ok (.enter k args) W) ∧
    ∀ (W : World) (i : Int), Below B w W → 0 ≤ i → i ≤ M → Calls Try.prog k (bd ++ #[.int .i64 i] ++ cap) W (Ret (.bool (f i)) W)
set_option maxRecDepth 100000 in
set_option maxHeartbeats 2000000 in
theorem greatest_any (w : World) (v : Value) (M : Int) (f : Int → Bool) (hM : 0 ≤ M) (hM' : M ≤ 1000000000) (hv : IsCan w w.heap.size v M f) (hm : ∀ i j, 0 ≤ i → i ≤ j → j ≤ M → f j = true → f i = true) :
    Calls Try.prog 38 #[.int .i64 M, v] w fun e w' => ∃ r, e = .returned (.int .i64 r) ∧ GreatOf f M r ∧ Below w.heap.size w w' := by
  obtain ⟨k, bd, cap, rfl, he, hc⟩ := hv
  have HC := Lib.hid hc
  have HM := Lib.hid hm
  clear hc hm
  go_enter Try.func38, Try.ntmps38
  go_wp2
  go_loopw [0, 5] (fun j i wr => ∃ a b : Int, i = .int .i64 a ∧ j = .int .i64 b ∧ 0 ≤ a ∧ a ≤ b ∧ b ≤ M ∧ Hid (a = 0 ∨ f a = true) ∧ Hid (∀ x, b < x → x ≤ M → f x = false) ∧ Hid (Below w.heap.size w wr)) (fun j i _ => ((intOf j) - (intOf i)).toNat)
  case atStart => exact ⟨0, M, rfl, rfl, by omega, hM, Int.le_refl _, Lib.hid (.inl rfl), Lib.hid (fun x h1 h2 => by omega), Lib.hid (Below.refl _ _)⟩
  case round =>
    obtain ⟨a, b, rfl, rfl, ha, hab, hb, HA0, HHI, HB⟩ := hrel
    by_cases hlt : a < b
    · obtain ⟨h, hh⟩ : ∃ h, b - (b - a).tdiv 2 = h := ⟨_, rfl⟩
      have e1 : (b - a).tdiv 2 = (b - a) / 2 := Int.tdiv_eq_ediv_of_nonneg (by omega)
      have hh1 : a < h := by omega
      have hh2 : h ≤ b := by omega
      have w1 : IntKind.i64.wrap (b - a) = b - a := IntWalk.i64_in _ ⟨by omega, by omega⟩
      have w2 : IntKind.i64.wrap ((b - a).tdiv 2) = (b - a).tdiv 2 := IntWalk.i64_in _ ⟨by omega, by omega⟩
      have w3 : IntKind.i64.wrap (b - (b - a).tdiv 2) = h := by rw [hh]; exact IntWalk.i64_in _ ⟨by omega, by omega⟩
      have w4 : IntKind.i64.wrap (b - (b - a) / 2) = h := by rw [← e1]; exact w3
      have e2 : b - (b - a) / 2 = h := by omega
      clear hh
      go_wp2_with fail
      refine (HC.out wr h HB.out (by omega) (by omega)).mono ?_
      rintro e W1 ⟨rfl, hb1⟩
      have HB1 := Lib.hid (HB.out.trans (hb1.mono HB.out.size))
      clear hb1 HB e1 e2 w1 w2 w3 w4
      cases hph : f h with
      | true =>
        have H2 : Hid (h = 0 ∨ f h = true) := Lib.hid (.inr hph)
        clear hph
        go_wp2
        go_roundw
        case rel => exact ⟨h, b, rfl, rfl, by omega, hh2, hb, H2, HHI, HB1⟩
        case measure => simp [intOf]; omega
      | false =>
        have H2 : Hid (∀ x, h - 1 < x → x ≤ M → f x = false) := Lib.hid fun x h1 h2 => by
          cases hpx : f x with
          | false => rfl
          | true => have := HM.out h x (by omega) (by omega) h2 hpx; rw [hph] at this; cases this
        clear hph
        go_wp2
        go_roundw
        case rel => exact ⟨a, h - 1, rfl, rfl, ha, by omega, by omega, HA0, H2, HB1⟩
        case measure => simp [intOf]; omega
    · obtain rfl : a = b := by omega
      go_wp2
      go_ret
      exact ⟨a, rfl, ⟨⟨ha, hb⟩, HA0.out, HHI.out⟩, HB.out⟩
end Go.Proofs.Ytngoagfkcjkeoaa
