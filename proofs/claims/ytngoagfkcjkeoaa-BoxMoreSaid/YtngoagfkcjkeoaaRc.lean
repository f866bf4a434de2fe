/- Walks: the document's Most, check. -/
import Derived.Test.YtngoagfkcjkeoaaRb
namespace Go.Proofs.Ytngoagfkcjkeoaa
open Go.RowKit Go.Shelf

def shortR (need : List Int) (l : List Pile) (b : Int) (s : Nat) : Bool := decide (hasS l s < (b + 1) * needS need s)
def mostR (need : List Int) (l : List Pile) : Int × Int × Int := if boxOk need l = true then (match (setsS need.length).find? (shortR need l (bestR need l (setsS need.length) (-1))) with | some s => (bestR need l (setsS need.length) (-1), (s : Int), 0) | none => (0, 0, 4)) else (0, 0, 1)
theorem range_cons (k n : Nat) (h : k < n) : List.range' k (n - k) = k :: List.range' (k + 1) (n - (k + 1)) := by
  rw [show n - k = (n - (k + 1)) + 1 by omega]; rfl
theorem ok_in {need : List Int} {l : List Pile} (h : boxOk need l = true) : NeedIn need ∧ PilesIn l ∧ (1 ≤ need.length ∧ need.length ≤ 8) := by
  unfold boxOk at h
  rw [Bool.and_eq_true] at h
  obtain ⟨h1, h2, -⟩ := need_parts h.1
  obtain ⟨h3, h4⟩ := pile_parts h.2
  have hp : (2 : Int) ^ need.length ≤ 256 := by
    have : 2 ^ need.length ≤ 2 ^ 8 := Nat.pow_le_pow_right (by omega) h1.2
    have e : ((2 ^ need.length : Nat) : Int) = (2 : Int) ^ need.length := by rw [Int.natCast_pow]; rfl
    omega
  exact ⟨⟨h1.2, fun n hn => by have := h2 n hn; omega⟩, ⟨h3, fun p hp => by have := h4 p hp; omega⟩, h1⟩
set_option maxRecDepth 100000 in
set_option maxHeartbeats 8000000 in
theorem rMost_any (w : World) (A B : Option Addr) (c d : Nat) (need : List Int) (l : List Pile) (hn : need.length ≤ 9223372036854775807) (hl : l.length ≤ 9223372036854775807) (hA : IntSl w w.heap.size A need) (hB : PileSl w w.heap.size B l) :
    Calls Try.prog 14 #[.slice A need.length c, .slice B l.length d] w (Ret (.tuple #[.int .i64 (mostR need l).1, .int .i64 (mostR need l).2.1, .int .i64 (mostR need l).2.2]) w) := by
  have HV := Lib.hid (rValid_any w A B c d need l hn hl hA hB)
  have HA := Lib.hid hA
  have HB := Lib.hid hB
  have HM1 : Hid (boxOk need l = false → mostR need l = (0, 0, 1)) := Lib.hid fun h => by unfold mostR; rw [h]; rfl
  have HM2 : Hid (∀ F b, boxOk need l = true → bestR need l (setsS need.length) (-1) = b → (setsS need.length).find? (shortR need l b) = F → mostR need l = (match F with | some s => (b, (s : Int), 0) | none => (0, 0, 4))) := Lib.hid fun F b h h2 h3 => by unfold mostR; rw [if_pos h, h2, h3]
  have HOK : Hid (boxOk need l = true → NeedIn need ∧ PilesIn l ∧ (1 ≤ need.length ∧ need.length ≤ 8)) := Lib.hid ok_in
  generalize mostR need l = z at *
  have hl0 : (0 : Int) ≤ l.length := by omega
  have hl1 : (l.length : Int) ≤ 9223372036854775807 := by omega
  have hn0 : (0 : Int) ≤ need.length := by omega
  have hn1 : (need.length : Int) ≤ 9223372036854775807 := by omega
  clear hA hB
  go_enter Try.func14, Try.ntmps14
  go_wp2_with fail
  refine HV.out.mono ?_
  rintro e w1 ⟨rfl, hb⟩
  have HW := Lib.hid hb
  have HA1 := Lib.hid (HA.out.on hb (Nat.le_refl _))
  have HB1 := Lib.hid (HB.out.on hb (Nat.le_refl _))
  clear hb
  cases h1 : boxOk need l with
  | false =>
    have HZ := Lib.hid (HM1.out h1)
    clear HM1 HM2
    go_wp2_with fail
    exact bodyPost_ret (v := .tuple #[.int .i64 0, .int .i64 0, .int .i64 1]) (by simp [results, Try.results14, go_sem]) rfl (⟨by rw [HZ.out], HW.out⟩)
  | true =>
    obtain ⟨hN, hP, hc1, hc8⟩ := HOK.out h1
    have HNI := Lib.hid hN
    have HPI := Lib.hid hP
    have HPW := Lib.hid fun W : World => power_any need.length W (by omega)
    have HM3 := Lib.hid fun F b => HM2.out F b h1
    have hpp : 1 ≤ 2 ^ need.length := Nat.two_pow_pos _
    have hpq : 2 ^ need.length ≤ 2 ^ 8 := Nat.pow_le_pow_right (by omega) hc8
    have HST : Hid (setsS need.length = List.range' 1 (2 ^ need.length - 1)) := Lib.hid rfl
    have HBD := Lib.hid fun s => need_bd hN s
    have HBH := Lib.hid fun s => has_bd9 hP s
    clear HM1 HM2 HOK HV hN hP
    rw [HST.out] at HM3
    clear HST
    generalize 2 ^ need.length = P at *
    have hP8 : P ≤ 256 := hpq
    clear hpq
    go_wp2_with fail
    go_loopw [7, 8] (fun b i wr => ∃ (k : Nat) (x : Int), 1 ≤ k ∧ k ≤ P ∧ i = .int .i64 k ∧ b = .int .i64 x ∧ -1 ≤ x ∧ x ≤ 8388608 ∧ Hid (bestR need l (List.range' k (P - k)) x = bestR need l (List.range' 1 (P - 1)) (-1)) ∧ w1 = wr) (fun _ i _ => P - (intOf i).toNat)
    case atStart => exact ⟨1, -1, by omega, by omega, rfl, rfl, by omega, by omega, Lib.hid rfl, by simp⟩
    case round =>
      obtain ⟨k, x, hk1, hk, rfl, rfl, hx0, hx1, HK, rfl⟩ := hrel
      go_wp2_with fail
      refine (HPW.out _).mono ?_
      rintro e w' ⟨rfl, rfl⟩
      by_cases hlt : k < P
      · have hkn : (k : Int) < P := by omega
        have hk0 : (0 : Int) ≤ k := by omega
        obtain ⟨n0, n1⟩ := HBD.out k
        obtain ⟨p0, p1⟩ := HBH.out k
        have HKN : Hid (bestR need l (List.range' (k + 1) (P - (k + 1))) (if 0 < needS need k ∧ (x < 0 ∨ hasS l k / needS need k < x) then hasS l k / needS need k else x) = bestR need l (List.range' 1 (P - 1)) (-1)) := Lib.hid (by rw [← HK.out, range_cons k P hlt]; rfl)
        have HCN := Lib.hid fun W (hAA : IntSl W W.heap.size A need) => rNeeds_any W A c k need (by omega) HNI.out hAA
        have HCO := Lib.hid fun W (hBB : PileSl W W.heap.size B l) => rOf_any W B d k l (by omega) HPI.out hBB
        generalize needS need k = N at *
        generalize hasS l k = H at *
        clear HK
        by_cases hN0 : 0 < N
        · have hnb : (N == 0) = false := by rw [beq_eq_false_iff_ne]; omega
          have e1 : H.tdiv N = H / N := Int.tdiv_eq_ediv_of_nonneg p0
          have q0 : 0 ≤ H / N := Int.ediv_nonneg p0 (by omega)
          have q1 : H / N ≤ H := Int.ediv_le_self _ p0
          generalize H / N = q at *
          have hw : IntKind.i64.wrap q = q := IntWalk.i64_in _ ⟨by omega, by omega⟩
          by_cases hb0 : x < 0
          · have HQ : Hid (bestR need l (List.range' (k + 1) (P - (k + 1))) q = bestR need l (List.range' 1 (P - 1)) (-1)) := Lib.hid (by have := HKN.out; rwa [if_pos ⟨hN0, .inl hb0⟩] at this)
            go_wp2_with fail
            refine (HCN.out _ HA1.out).mono ?_
            rintro e w' ⟨rfl, rfl⟩
            go_wp2_with fail
            refine (HCO.out _ HB1.out).mono ?_
            rintro e w' ⟨rfl, rfl⟩
            go_wp2_with fail
            go_roundw
            case rel => exact ⟨k + 1, q, by omega, by omega, by go_num, rfl, by omega, by omega, HQ, trivial⟩
            case measure => exact meas9 hlt
          · by_cases hq : q < x
            · have HQ : Hid (bestR need l (List.range' (k + 1) (P - (k + 1))) q = bestR need l (List.range' 1 (P - 1)) (-1)) := Lib.hid (by have := HKN.out; rwa [if_pos ⟨hN0, .inr hq⟩] at this)
              go_wp2_with fail
              refine (HCN.out _ HA1.out).mono ?_
              rintro e w' ⟨rfl, rfl⟩
              go_wp2_with fail
              refine (HCO.out _ HB1.out).mono ?_
              rintro e w' ⟨rfl, rfl⟩
              go_wp2_with fail
              refine (HCO.out _ HB1.out).mono ?_
              rintro e w' ⟨rfl, rfl⟩
              go_wp2_with fail
              go_roundw
              case rel => exact ⟨k + 1, q, by omega, by omega, by go_num, rfl, by omega, by omega, HQ, trivial⟩
              case measure => exact meas9 hlt
            · have HQ : Hid (bestR need l (List.range' (k + 1) (P - (k + 1))) x = bestR need l (List.range' 1 (P - 1)) (-1)) := Lib.hid (by have := HKN.out; rwa [if_neg (fun h => h.2.elim hb0 hq)] at this)
              go_wp2_with fail
              refine (HCN.out _ HA1.out).mono ?_
              rintro e w' ⟨rfl, rfl⟩
              go_wp2_with fail
              refine (HCO.out _ HB1.out).mono ?_
              rintro e w' ⟨rfl, rfl⟩
              go_wp2_with fail
              go_roundw
              case rel => exact ⟨k + 1, x, by omega, by omega, by go_num, rfl, by omega, by omega, HQ, trivial⟩
              case measure => exact meas9 hlt
        · have HQ : Hid (bestR need l (List.range' (k + 1) (P - (k + 1))) x = bestR need l (List.range' 1 (P - 1)) (-1)) := Lib.hid (by have := HKN.out; rwa [if_neg (fun h => hN0 h.1)] at this)
          go_wp2_with fail
          refine (HCN.out _ HA1.out).mono ?_
          rintro e w' ⟨rfl, rfl⟩
          go_wp2_with fail
          go_roundw
          case rel => exact ⟨k + 1, x, by omega, by omega, by go_num, rfl, by omega, by omega, HQ, trivial⟩
          case measure => exact meas9 hlt
      · obtain rfl : k = P := by omega
        have hx := HK.out
        rw [Nat.sub_self] at hx
        have HX : Hid (bestR need l (List.range' 1 (k - 1)) (-1) = x) := Lib.hid hx.symm
        have HM4 := Lib.hid fun F => HM3.out F x HX.out
        clear hx HK HM3 HX
        go_wp2_with fail
        go_loopw [10] (fun i wr => ∃ (j : Nat), 1 ≤ j ∧ j ≤ k ∧ i = .int .i64 j ∧ Hid ((List.range' j (k - j)).find? (shortR need l x) = (List.range' 1 (k - 1)).find? (shortR need l x)) ∧ w1 = wr) (fun i _ => k - (intOf i).toNat)
        case atStart => exact ⟨1, by omega, by omega, rfl, Lib.hid rfl, by simp⟩
        case round =>
          obtain ⟨j, hj1, hj, rfl, HJ, rfl⟩ := hrel
          go_wp2_with fail
          refine (HPW.out _).mono ?_
          rintro e w' ⟨rfl, rfl⟩
          by_cases hlt : j < k
          · have hkn : (j : Int) < k := by omega
            have hk0 : (0 : Int) ≤ j := by omega
            obtain ⟨n0, n1⟩ := HBD.out j
            obtain ⟨p0, p1⟩ := HBH.out j
            have HSR : Hid (shortR need l x j = decide (hasS l j < (x + 1) * needS need j)) := Lib.hid rfl
            have HCN := Lib.hid fun W (hAA : IntSl W W.heap.size A need) => rNeeds_any W A c j need (by omega) HNI.out hAA
            have HCO := Lib.hid fun W (hBB : PileSl W W.heap.size B l) => rOf_any W B d j l (by omega) HPI.out hBB
            have HJN := Lib.hid (show (shortR need l x j = true → (List.range' j (k - j)).find? (shortR need l x) = some j) ∧ (shortR need l x j = false → (List.range' j (k - j)).find? (shortR need l x) = (List.range' (j + 1) (k - (j + 1))).find? (shortR need l x)) from ⟨fun h => by rw [range_cons j k hlt, List.find?_cons_of_pos h], fun h => by rw [range_cons j k hlt, List.find?_cons_of_neg (by rw [h]; simp)]⟩)
            generalize needS need j = N at *
            generalize hasS l j = H at *
            have m0 : 0 ≤ (x + 1) * N := Int.mul_nonneg (by omega) n0
            have m1 : (x + 1) * N ≤ 8388609 * 800000000 := Int.mul_le_mul (by omega) n1 n0 (by omega)
            have hwx : IntKind.i64.wrap (x + 1) = x + 1 := IntWalk.i64_in _ ⟨by omega, by omega⟩
            generalize hmm : (x + 1) * N = M at *
            have hwm : IntKind.i64.wrap M = M := IntWalk.i64_in _ ⟨by omega, by omega⟩
            by_cases hs : H < M
            · have HR := Lib.hid (HM4.out (some j) (by rw [← HJ.out]; exact HJN.out.1 (by rw [HSR.out]; exact decide_eq_true hs)))
              clear HJ HJN HM4 HSR
              go_wp2_with fail
              refine (HCO.out _ HB1.out).mono ?_
              rintro e w' ⟨rfl, rfl⟩
              go_wp2_with fail
              refine (HCN.out _ HA1.out).mono ?_
              rintro e w' ⟨rfl, rfl⟩
              go_wp2_with fail
              exact bodyPost_ret (v := .tuple #[.int .i64 x, .int .i64 (j : Int), .int .i64 0]) (by simp [results, Try.results14, go_sem]) rfl (⟨by rw [HR.out], HW.out⟩)
            · have HJ2 := Lib.hid ((HJN.out.2 (by rw [HSR.out]; exact decide_eq_false hs)).symm.trans HJ.out)
              clear HJ HJN HSR
              go_wp2_with fail
              refine (HCO.out _ HB1.out).mono ?_
              rintro e w' ⟨rfl, rfl⟩
              go_wp2_with fail
              refine (HCN.out _ HA1.out).mono ?_
              rintro e w' ⟨rfl, rfl⟩
              go_wp2_with fail
              go_roundw
              case rel => exact ⟨j + 1, by omega, by omega, by go_num, HJ2, trivial⟩
              case measure => exact meas9 hlt
          · obtain rfl : j = k := by omega
            have hx := HJ.out
            rw [Nat.sub_self] at hx
            have HR := Lib.hid (HM4.out none hx.symm)
            clear hx HJ HM4
            go_wp2_with fail
            exact bodyPost_ret (v := .tuple #[.int .i64 0, .int .i64 0, .int .i64 4]) (by simp [results, Try.results14, go_sem]) rfl (⟨by rw [HR.out], HW.out⟩)
set_option maxRecDepth 100000 in
set_option maxHeartbeats 2000000 in
theorem rcheck_any (w : World) (A B : Option Addr) (c d : Nat) (need : List Int) (l : List Pile) (b : Int) (hn : need.length ≤ 9223372036854775807) (hl : l.length ≤ 9223372036854775807) (hA : IntSl w w.heap.size A need) (hB : PileSl w w.heap.size B l) :
    Calls Try.prog 45 #[.slice A need.length c, .slice B l.length d, .int .i64 b] w (Ret (.int .i64 (errE need l b)) w) := by
  have HV := Lib.hid (rValid_any w A B c d need l hn hl hA hB)
  have HE : Hid (errE need l b = if boxOk need l = true then (if fromB b 0 1048576 = true then 0 else 2) else 1) := Lib.hid rfl
  clear hA hB
  go_enter Try.func45, Try.ntmps45
  go_wp2_with fail
  refine HV.out.mono ?_
  rintro e w1 ⟨rfl, hb⟩
  have HBB := Lib.hid hb
  clear hb
  cases h1 : boxOk need l with
  | false =>
    go_wp2_with fail
    go_ret
    exact ⟨ret_int (by rw [HE.out, h1]; rfl), HBB.out⟩
  | true =>
    go_wp2_with fail
    refine (rin_any _ _ _ _).mono ?_
    rintro e w' ⟨rfl, rfl⟩
    cases h3 : fromB b 0 1048576 with
    | false =>
      go_wp2_with fail
      go_ret
      exact ⟨ret_int (by rw [HE.out, h1, h3]; rfl), HBB.out⟩
    | true =>
      go_wp2_with fail
      go_ret
      exact ⟨ret_int (by rw [HE.out, h1, h3]; rfl), HBB.out⟩
end Go.Proofs.Ytngoagfkcjkeoaa
