/- Walks: the law BoxFilled. -/
import Derived.Test.YthapgiajbonhgaaGb
import Derived.Test.YthapgiajbonhgaaBt
namespace Go.Proofs.Ythapgiajbonhgaa
open Go.RowKit Go.Shelf

theorem err_zero {need : List Int} {l : List Pile} {b : Int} (h : boxOk need l = true) (h0 : 0 ≤ b) (h1 : b ≤ 1048576) : errE need l b = 0 := by
  unfold errE
  rw [if_pos h, if_pos (fromB_iff.2 ⟨h0, h1⟩)]
theorem lacking_spec {need : List Int} {l : List Pile} {b : Int} (h : canB need l b = false) : 1 ≤ lackingS need l b ∧ lackingS need l b < 2 ^ need.length ∧ hasS l (lackingS need l b) < needS need (lackingS need l b) * b := by
  unfold canB lackingS at *
  cases hf : (setsS need.length).find? (shortB need l b) with
  | none => rw [hf] at h; simp at h
  | some s =>
    rw [Option.getD_some]
    have h1 := mem_sets.1 (List.mem_of_find?_eq_some hf)
    have h2 := List.find?_some hf
    unfold shortB at h2
    rw [decide_eq_true_eq] at h2
    exact ⟨h1.1, h1.2, h2⟩
theorem great_can {need : List Int} {l : List Pile} {r : Int} (hP : ∀ p ∈ l, 0 ≤ p.many) (h : GreatOf (canB need l) 8388608 r) : canB need l r = true := by
  rcases h.2.1 with e | e
  · subst e
    exact can_iff.2 fun s _ _ => by rw [Int.mul_zero]; exact has_nonneg l s hP
  · exact e
theorem wrap_pow : ∀ k < 9, wrap64 ((2 : Int) ^ k) = ((2 ^ k : Nat) : Int) := by decide +kernel
set_option maxRecDepth 100000 in
set_option maxHeartbeats 8000000 in
theorem filled9_any (w : World) (A B : Option Addr) (c d : Nat) (need : List Int) (l : List Pile) (hn : need.length ≤ 9223372036854775807) (hl : l.length ≤ 9223372036854775807) (hA : IntSl w w.heap.size A need) (hB : PileSl w w.heap.size B l) :
    Calls Try.prog 5 #[.slice A need.length c, .slice B l.length d] w (Ret (.bool true) w) := by
  have HAW := Lib.hid fun W => awake9_any W
  have HA := Lib.hid hA
  have HB := Lib.hid hB
  clear hA hB
  go_enter Try.func5, Try.ntmps5
  go_wp2_with fail
  refine (large9_any w A B need.length l.length c d hn hl).mono ?_
  rintro e w0 ⟨rfl, rfl⟩
  cases hlg : (decide (14 < need.length) || decide (14 < l.length)) with
  | true =>
    go_wp2_with fail
    refine (HAW.out _).mono ?_
    rintro e w1 ⟨rfl, hb1⟩
    have HB1 := Lib.hid hb1
    clear hb1
    go_wp2_with fail
    go_ret
    exact ⟨rfl, HB1.out⟩
  | false =>
    clear hlg
    go_wp2_with fail
    refine (most_any w A B c d need l hn hl HA.out HB.out).mono ?_
    rintro e w1 ⟨⟨x, y, z, rfl, hm⟩, hb1⟩
    have HW := Lib.hid hb1
    clear hb1
    rcases hm with ⟨hok, hg, rfl, rfl⟩ | ⟨hok, rfl, rfl, rfl⟩
    · obtain ⟨hN, hP, hc1, hc8⟩ := ok_in hok
      have hp0 : ∀ p ∈ l, 0 ≤ p.many := fun p hp => (hP.2 p hp).2.1
      have hcan := great_can hp0 hg
      obtain ⟨g0, g1⟩ := hg.1
      have hsh := most_short hok hg
      obtain ⟨s1, s2, s3⟩ := lacking_spec hsh
      have hn48 : ∀ n ∈ need, 0 ≤ n ∧ n ≤ 48 := by
        have h9 := hok
        unfold boxOk at h9
        rw [Bool.and_eq_true] at h9
        exact (need_parts h9.1).2.1
      have HOK := Lib.hid hok
      have HN := Lib.hid hN
      have HP := Lib.hid hP
      have hPw : 2 ^ need.length ≤ 2 ^ 8 := Nat.pow_le_pow_right (by omega) hc8
      have hs8 : lackingS need l (x + 1) < 256 := by omega
      have HR1 : Hid (x + 1 ≤ 1048576 → (fillA need l (x + 1)).2 = 10 ∧ (lackA need l (x + 1)).2.2 = 0 ∧ 0 < (lackA need l (x + 1)).2.1 ∧ 0 < (lackA need l (x + 1)).1) := Lib.hid fun h => by
        have e0 := err_zero hok (by omega) h
        have hpos : 0 < (lackR need l (x + 1)).2 := by
          have := lack_nonneg need l (x + 1)
          by_cases e : (lackR need l (x + 1)).2 = 0
          · rw [can_lack.2 e] at hsh; cases hsh
          · omega
        have e1 : lackA need l (x + 1) = (((lackR need l (x + 1)).1 : Int), (lackR need l (x + 1)).2, 0) := by unfold lackA; rw [if_pos e0, if_pos hpos]
        rw [e1]
        refine ⟨by unfold fillA; rw [if_pos e0, if_neg (by rw [hsh]; simp)], rfl, hpos, ?_⟩
        have := (lackR_spec hpos).1.1
        show (0 : Int) < ((lackR need l (x + 1)).1 : Int)
        omega
      have HR0 : Hid (x ≤ 1048576 → fillA need l x = (fillT need l x, 0) ∧ (lackA need l x).2.2 = 4 ∧ GoodP need l x (fillT need l x)) := Lib.hid fun h => by
        have e0 := err_zero hok g0 h
        refine ⟨(if_pos e0).trans (if_pos hcan), ?_, fill_good hok ⟨g0, h⟩ hcan⟩
        have := can_lack.1 hcan
        unfold lackA
        rw [if_pos e0, if_neg (by omega)]
      have nb := needF_bd need (lackingS need l (x + 1)) 0 hn48
      have hbb := has_bd9 hP (lackingS need l (x + 1))
      have HNE : Hid (∀ s, needS need s = needF need s 0) := Lib.hid fun _ => rfl
      have HN48 := Lib.hid hn48
      rw [HNE.out] at s3
      generalize lackingS need l (x + 1) = pr at *
      have m0 : 0 ≤ (x + 1) * needF need pr 0 := Int.mul_nonneg (by omega) nb.1
      have m1 : (x + 1) * needF need pr 0 ≤ 8388609 * 384 := Int.mul_le_mul (by omega) (by omega) nb.1 (by omega)
      rw [Int.mul_comm] at s3
      generalize hnd : needF need pr 0 = nd at *
      generalize hhs : hasS l pr = hs at *
      have hw1 : IntKind.i64.wrap (x + 1) = x + 1 := IntWalk.i64_in _ ⟨by omega, by omega⟩
      have hw2 : IntKind.i64.wrap ((x + 1) * nd) = (x + 1) * nd := IntWalk.i64_in _ ⟨by omega, by omega⟩
      have HHS := Lib.hid hhs
      have HND := Lib.hid hnd
      have hp1 : ¬ (pr : Int) < 1 := by omega
      have hp2 : ¬ wrap64 ((2 : Int) ^ need.length) ≤ (pr : Int) := by rw [wrap_pow need.length (by omega)]; omega
      have hx0 : ¬ x < 0 := by omega
      have hx1 : ¬ 8388608 < x := by omega
      have hL0 : (0 : Int) ≤ need.length := by omega
      have hL1 : (need.length : Int) ≤ 8 := by omega
      generalize hM : (x + 1) * nd = M at *
      have hs4 : ¬ M ≤ hs := by omega
      clear hok hN hP hp0 hcan hsh hn48 nb hbb hnd hhs s3 m0 m1 hPw s1 s2
      go_wp2_with fail
      refine (rValid_any w1 A B c d need l hn hl (HA.out.on HW.out (Nat.le_refl _)) (HB.out.on HW.out (Nat.le_refl _))).mono ?_
      rintro e w2 ⟨rfl, hb2⟩
      rw [HOK.out]
      replace HW := Lib.hid (HW.out.trans (hb2.mono HW.out.size))
      clear hb2
      go_wp2_with fail
      refine (rOf_any w2 B d pr l hs8 HP.out (HB.out.on HW.out (Nat.le_refl _))).mono ?_
      rintro e w' ⟨rfl, rfl⟩
      rw [HHS.out]
      go_wp2_with fail
      refine (rNeeds_any w2 A c pr need hs8 HN.out (HA.out.on HW.out (Nat.le_refl _))).mono ?_
      rintro e w' ⟨rfl, rfl⟩
      rw [HNE.out, HND.out]
      go_upto_region 10 with fail
      clear hs4 hM hw2 hp1 hp2 hx0 hx1
      by_cases hbig : 1048576 < x
      · go_wp2_with fail
        refine (HAW.out _).mono ?_
        rintro e w3 ⟨rfl, hb3⟩
        replace HW := Lib.hid (HW.out.trans (hb3.mono HW.out.size))
        clear hb3
        go_wp2_with fail
        go_ret
        exact ⟨rfl, HW.out⟩
      · obtain ⟨r1, r2, r3⟩ := HR0.out (by omega)
        have HGP := Lib.hid r3
        have HFL := Lib.hid (fill_any w2 A B c d need l x hn hl (HA.out.on HW.out (Nat.le_refl _)) (HB.out.on HW.out (Nat.le_refl _)))
        have HE1 := Lib.hid r1
        have HE2 := Lib.hid r2
        clear r1 r2 r3 HR0
        go_wp2_with fail
        refine HFL.out.mono ?_
        rintro e w3 ⟨A3, c3, rfl, hr3, hb3⟩
        rw [HE1.out] at *
        dsimp only at *
        replace HW := Lib.hid (HW.out.trans (hb3.mono HW.out.size))
        have HGD := Lib.hid (good_any w3 A B A3 c d c3 need l x (fillT need l x) hc8 HN48.out HP.out ⟨g0, by omega⟩ HGP.out (HA.out.on HW.out (Nat.le_refl _)) (HB.out.on HW.out (Nat.le_refl _)) hr3)
        clear hr3 hb3 HFL HE1 HGP
        generalize fillT need l x = O at *
        go_wp2_with fail
        refine HGD.out.mono ?_
        rintro e w4 ⟨A4, c4, rfl, -, hb4⟩
        replace HW := Lib.hid (HW.out.trans (hb4.mono HW.out.size))
        have HFL := Lib.hid (fill_any w4 A B c d need l (x + 1) hn hl (HA.out.on HW.out (Nat.le_refl _)) (HB.out.on HW.out (Nat.le_refl _)))
        clear hb4 HGD
        go_wp2_with fail
        refine HFL.out.mono ?_
        rintro e w5 ⟨A5, c5, rfl, -, hb5⟩
        replace HW := Lib.hid (HW.out.trans (hb5.mono HW.out.size))
        have HLA := Lib.hid (lack_any w5 A B c d need l (x + 1) hn hl (HA.out.on HW.out (Nat.le_refl _)) (HB.out.on HW.out (Nat.le_refl _)))
        clear hb5 HFL
        generalize fillA need l (x + 1) = F1 at *
        obtain ⟨F1, f1⟩ := F1
        dsimp only at *
        go_wp2_with fail
        refine HLA.out.mono ?_
        rintro e w6 ⟨rfl, hb6⟩
        replace HW := Lib.hid (HW.out.trans (hb6.mono HW.out.size))
        have HLB := Lib.hid (lack_any w6 A B c d need l x hn hl (HA.out.on HW.out (Nat.le_refl _)) (HB.out.on HW.out (Nat.le_refl _)))
        clear hb6 HLA
        generalize lackA need l (x + 1) = L1 at *
        obtain ⟨l1, l2, l3⟩ := L1
        dsimp only at *
        go_wp2_with fail
        refine HLB.out.mono ?_
        rintro e w7 ⟨rfl, hb7⟩
        replace HW := Lib.hid (HW.out.trans (hb7.mono HW.out.size))
        have he4 := HE2.out
        clear hb7 HLB HE2
        generalize lackA need l x = L0 at *
        obtain ⟨k1, k2, k3⟩ := L0
        dsimp only at *
        subst he4
        by_cases hbig2 : 1048576 < x + 1
        · go_wp2_with fail
          refine (HAW.out _).mono ?_
          rintro e w8 ⟨rfl, hb8⟩
          replace HW := Lib.hid (HW.out.trans (hb8.mono HW.out.size))
          clear hb8
          go_wp2_with fail
          go_ret
          exact ⟨rfl, HW.out⟩
        · obtain ⟨e1, e2, e3, e4⟩ := HR1.out (by omega)
          subst e1
          subst e2
          go_wp2_with fail
          refine (HAW.out _).mono ?_
          rintro e w8 ⟨rfl, hb8⟩
          replace HW := Lib.hid (HW.out.trans (hb8.mono HW.out.size))
          clear hb8
          go_wp2_with fail
          go_ret
          exact ⟨rfl, HW.out⟩
    · have HOK := Lib.hid hok
      go_wp2_with fail
      refine (rValid_any w1 A B c d need l hn hl (HA.out.on HW.out (Nat.le_refl _)) (HB.out.on HW.out (Nat.le_refl _))).mono ?_
      rintro e w2 ⟨rfl, hb2⟩
      rw [HOK.out]
      replace HW := Lib.hid (HW.out.trans (hb2.mono HW.out.size))
      clear hb2
      go_wp2_with fail
      refine (HAW.out _).mono ?_
      rintro e w3 ⟨rfl, hb3⟩
      replace HW := Lib.hid (HW.out.trans (hb3.mono HW.out.size))
      go_wp2_with fail
      go_ret
      exact ⟨rfl, HW.out⟩
end Go.Proofs.Ythapgiajbonhgaa
