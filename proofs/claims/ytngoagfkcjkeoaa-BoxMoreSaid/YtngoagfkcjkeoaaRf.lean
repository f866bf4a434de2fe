/- Walks: the document's lack, Lack. -/
import Derived.Test.YtngoagfkcjkeoaaRe
namespace Go.Proofs.Ytngoagfkcjkeoaa
open Go.RowKit Go.Shelf

set_option maxRecDepth 100000 in
set_option maxHeartbeats 8000000 in
theorem rlack_any (w : World) (A B : Option Addr) (c d : Nat) (need : List Int) (l : List Pile) (b : Int) (hok : boxOk need l = true) (hb : 0 ≤ b ∧ b ≤ 1048576) (hA : IntSl w w.heap.size A need) (hB : PileSl w w.heap.size B l) :
    Calls Try.prog 46 #[.slice A need.length c, .slice B l.length d, .int .i64 b] w (Ret (.tuple #[.int .i64 ((lackR need l b).1 : Int), .int .i64 (lackR need l b).2]) w) := by
  have HA := Lib.hid hA
  have HB := Lib.hid hB
  obtain ⟨hN, hP, hc1, hc8⟩ := ok_in hok
  have hn48 : ∀ n ∈ need, 0 ≤ n ∧ n ≤ 48 := by
    unfold boxOk at hok
    rw [Bool.and_eq_true] at hok
    exact (need_parts hok.1).2.1
  have hNM : NeedIn (need.map (b * ·)) := ⟨by rw [List.length_map]; exact hN.1, fun n hn => by
    obtain ⟨x, hx, rfl⟩ := List.mem_map.1 hn
    obtain ⟨h1, h2⟩ := hn48 x hx
    have m0 : 0 ≤ b * x := Int.mul_nonneg hb.1 h1
    have m1 : b * x ≤ 1048576 * 48 := Int.mul_le_mul hb.2 h2 h1 (by omega)
    omega⟩
  have hSM : ∀ s, needS (need.map (b * ·)) s = needS need s * b := fun s => needF_map b need s 0
  have HBD := Lib.hid fun s => need_bd hNM s
  have HBH := Lib.hid fun s => has_bd9 hP s
  have HNM := Lib.hid hNM
  have HSM := Lib.hid hSM
  have HPI := Lib.hid hP
  have HPW := Lib.hid fun W : World => power_any need.length W (by omega)
  have HTI := Lib.hid fun (W : World) hAA => rtimes_any W A c need b hc8 hn48 hb hAA
  have hpq : 2 ^ need.length ≤ 2 ^ 8 := Nat.pow_le_pow_right (by omega) hc8
  have hpp : 1 ≤ 2 ^ need.length := Nat.two_pow_pos _
  have HLR : Hid (lackR need l b = worstS (lackS need l b) (List.range' 1 (2 ^ need.length - 1)) (0, 0)) := Lib.hid rfl
  have HLS : Hid (∀ s, lackS need l b s = needS need s * b - hasS l s) := Lib.hid fun s => rfl
  have hl0 : (0 : Int) ≤ l.length := by omega
  have hl1 : (l.length : Int) ≤ 8 := by have := hP.1; omega
  have hn0 : (0 : Int) ≤ need.length := by omega
  have hn1 : (need.length : Int) ≤ 8 := by omega
  generalize lackR need l b = z at *
  generalize 2 ^ need.length = P at *
  have hP8 : P ≤ 256 := hpq
  clear hpq hok hA hB hN hP hNM hSM hn48
  go_enter Try.func46, Try.ntmps46
  go_wp2_with fail
  go_loopw [8, 9, 10] (fun s n i wr => ∃ (k : Nat) (p : Nat × Int), 1 ≤ k ∧ k ≤ P ∧ i = .int .i64 k ∧ s = .int .i64 (p.1 : Int) ∧ n = .int .i64 p.2 ∧ Hid (worstS (lackS need l b) (List.range' k (P - k)) p = z) ∧ Hid (Below w.heap.size w wr)) (fun _ _ i _ => P - (intOf i).toNat)
  case atStart => exact ⟨1, (0, 0), by omega, by omega, rfl, rfl, rfl, Lib.hid HLR.out.symm, Lib.hid (Below.refl _ _)⟩
  case round =>
    obtain ⟨k, p, hk1, hk, rfl, rfl, rfl, HK, HW⟩ := hrel
    go_wp2_with fail
    refine (HPW.out _).mono ?_
    rintro e w' ⟨rfl, rfl⟩
    by_cases hlt : k < P
    · have hkn : (k : Int) < P := by omega
      have hk0 : (0 : Int) ≤ k := by omega
      have HKN : Hid (worstS (lackS need l b) (List.range' (k + 1) (P - (k + 1))) (if p.2 < lackS need l b k then (k, lackS need l b k) else p) = z) := Lib.hid (by rw [← HK.out, range_cons k P hlt]; rfl)
      obtain ⟨n0, n1⟩ := HBD.out k
      obtain ⟨p0, p1⟩ := HBH.out k
      have HCN : Hid (∀ (W : World) A2 c2, IntSl W W.heap.size A2 (need.map (b * ·)) → Calls Try.prog 24 #[.slice A2 need.length c2, .int .i64 (k : Int)] W fun e w' => e = .returned (.int .i64 (needS need k * b)) ∧ W = w') := Lib.hid fun W A2 c2 hsl => by
        have := rNeeds_any W A2 c2 k (need.map (b * ·)) (by omega) HNM.out hsl
        rw [List.length_map, HSM.out] at this
        exact this
      have HCO := Lib.hid fun W (hBB : PileSl W W.heap.size B l) => rOf_any W B d k l (by omega) HPI.out hBB
      rw [HSM.out] at n0 n1
      rw [HLS.out] at HKN
      generalize needS need k * b = M at *
      generalize hasS l k = H at *
      have hw : IntKind.i64.wrap (M - H) = M - H := IntWalk.i64_in _ ⟨by omega, by omega⟩
      clear HK
      go_wp2_with fail
      refine (HTI.out _ (HA.out.on HW.out (Nat.le_refl _))).mono ?_
      rintro e w2 ⟨A2, c2, rfl, hsl, hb2⟩
      replace HW := Lib.hid (HW.out.trans (hb2.mono HW.out.size))
      have HSL := Lib.hid hsl
      clear hsl hb2
      go_wp2_with fail
      refine (HCN.out _ _ _ HSL.out).mono ?_
      rintro e w' ⟨rfl, rfl⟩
      go_wp2_with fail
      refine (HCO.out _ (HB.out.on HW.out (Nat.le_refl _))).mono ?_
      rintro e w' ⟨rfl, rfl⟩
      by_cases hs : p.2 < M - H
      · have HQ : Hid (worstS (lackS need l b) (List.range' (k + 1) (P - (k + 1))) (k, M - H) = z) := Lib.hid (by have := HKN.out; rwa [if_pos hs] at this)
        clear HKN
        go_wp2_with fail
        go_roundw
        case rel => exact ⟨k + 1, (k, M - H), by omega, by omega, by go_num, rfl, rfl, HQ, HW⟩
        case measure => exact meas9 hlt
      · have HQ : Hid (worstS (lackS need l b) (List.range' (k + 1) (P - (k + 1))) p = z) := Lib.hid (by have := HKN.out; rwa [if_neg hs] at this)
        clear HKN
        go_wp2_with fail
        go_roundw
        case rel => exact ⟨k + 1, p, by omega, by omega, by go_num, rfl, rfl, HQ, HW⟩
        case measure => exact meas9 hlt
    · obtain rfl : k = P := by omega
      have hx := HK.out
      rw [Nat.sub_self] at hx
      have HR : Hid (p = z) := Lib.hid hx
      clear hx HK HLR
      go_wp2_with fail
      exact bodyPost_ret (v := .tuple #[.int .i64 (p.1 : Int), .int .i64 p.2]) (by simp [results, Try.results46, go_sem]) rfl (⟨by rw [HR.out], HW.out⟩)
set_option maxRecDepth 100000 in
set_option maxHeartbeats 2000000 in
theorem rLack_any (w : World) (A B : Option Addr) (c d : Nat) (need : List Int) (l : List Pile) (b : Int) (hn : need.length ≤ 9223372036854775807) (hl : l.length ≤ 9223372036854775807) (hA : IntSl w w.heap.size A need) (hB : PileSl w w.heap.size B l) :
    Calls Try.prog 16 #[.slice A need.length c, .slice B l.length d, .int .i64 b] w (Ret (.tuple #[.int .i64 (lackA need l b).1, .int .i64 (lackA need l b).2.1, .int .i64 (lackA need l b).2.2]) w) := by
  have HA := Lib.hid hA
  have HB := Lib.hid hB
  have HV := Lib.hid (rcheck_any w A B c d need l b hn hl hA hB)
  have HE : Hid ((errE need l b ≠ 0 → lackA need l b = (0, 0, errE need l b)) ∧ (errE need l b = 0 → (0 < (lackR need l b).2 → lackA need l b = (((lackR need l b).1 : Int), (lackR need l b).2, 0)) ∧ (¬ 0 < (lackR need l b).2 → lackA need l b = (0, 0, 4)))) := Lib.hid ⟨fun h => if_neg h, fun h => ⟨fun h2 => by unfold lackA; rw [if_pos h, if_pos h2], fun h2 => by unfold lackA; rw [if_pos h, if_neg h2]⟩⟩
  have HOK : Hid (errE need l b = 0 → boxOk need l = true ∧ 0 ≤ b ∧ b ≤ 1048576) := Lib.hid errE_0
  have HLN := Lib.hid (lack_nonneg need l b)
  have HL := Lib.hid fun (hok : boxOk need l = true) (hb : 0 ≤ b ∧ b ≤ 1048576) W (hAA : IntSl W W.heap.size A need) (hBB : PileSl W W.heap.size B l) => rlack_any W A B c d need l b hok hb hAA hBB
  generalize lackA need l b = z at *
  generalize lackR need l b = rr at *
  clear hA hB
  go_enter Try.func16, Try.ntmps16
  go_wp2_with fail
  refine HV.out.mono ?_
  rintro e w1 ⟨rfl, hb1⟩
  have HBB := Lib.hid hb1
  clear hb1 HV
  generalize errE need l b = ee at *
  by_cases h0 : ee = 0
  · have h0' : (ee != 0) = false := by rw [bne, h0]; rfl
    obtain ⟨hok, hb⟩ := HOK.out h0
    obtain ⟨hz1, hz2⟩ := HE.out.2 h0
    have HZ1 := Lib.hid hz1
    have HZ2 := Lib.hid hz2
    have HCL := Lib.hid (HL.out hok hb w1 (HA.out.on HBB.out (Nat.le_refl _)) (HB.out.on HBB.out (Nat.le_refl _)))
    clear hok hb hz1 hz2 HE HOK HL
    subst h0
    go_wp2_with fail
    refine HCL.out.mono ?_
    rintro e w2 ⟨rfl, hb2⟩
    replace HBB := Lib.hid (HBB.out.trans (hb2.mono HBB.out.size))
    clear hb2 HCL
    have hge := HLN.out
    by_cases hp : 0 < rr.2
    · have HZ := Lib.hid (HZ1.out hp)
      have hne : (rr.2 == 0) = false := by rw [beq_eq_false_iff_ne]; omega
      clear HZ1 HZ2
      go_wp2_with fail
      exact bodyPost_ret (v := .tuple #[.int .i64 (rr.1 : Int), .int .i64 rr.2, .int .i64 0]) (by simp [results, Try.results16, go_sem]) rfl (⟨by rw [HZ.out], HBB.out⟩)
    · have HZ := Lib.hid (HZ2.out (by omega))
      have hne : (rr.2 == 0) = true := by rw [beq_iff_eq]; omega
      clear HZ1 HZ2
      go_wp2_with fail
      exact bodyPost_ret (v := .tuple #[.int .i64 0, .int .i64 0, .int .i64 4]) (by simp [results, Try.results16, go_sem]) rfl (⟨by rw [HZ.out], HBB.out⟩)
  · have h0' : (ee != 0) = true := by rw [bne_iff_ne]; exact h0
    have HZ := Lib.hid (HE.out.1 h0)
    clear h0
    go_wp2_with fail
    exact bodyPost_ret (v := .tuple #[.int .i64 0, .int .i64 0, .int .i64 ee]) (by simp [results, Try.results16, go_sem]) rfl (⟨by rw [HZ.out], HBB.out⟩)
end Go.Proofs.Ytngoagfkcjkeoaa
