/- Walks: the law BoxGreedy. -/
import Derived.Test.YtngoagfkcjkeoaaGp
import Derived.Test.YtngoagfkcjkeoaaUo
namespace Go.Proofs.Ytngoagfkcjkeoaa
open Go.RowKit Go.Shelf

theorem fill_zero {need : List Int} {l : List Pile} {b : Int} (h : (fillA need l b).2 = 0) : errE need l b = 0 ∧ canB need l b = true ∧ fillA need l b = (fillT need l b, 0) := by
  unfold fillA at *
  by_cases h0 : errE need l b = 0
  · rw [if_pos h0] at h ⊢
    by_cases h1 : canB need l b = true
    · rw [if_pos h1]
      exact ⟨h0, h1, rfl⟩
    · rw [if_neg h1] at h
      exact absurd h (by decide)
  · rw [if_neg h0] at h
    exact absurd h h0
theorem fill_none {need : List Int} {l : List Pile} {b : Int} (h : (fillA need l b).2 ≠ 0) : (fillA need l b).1 = [] := by
  unfold fillA at *
  by_cases h0 : errE need l b = 0
  · rw [if_pos h0] at h ⊢
    by_cases h1 : canB need l b = true
    · rw [if_pos h1] at h
      exact absurd rfl h
    · rw [if_neg h1]
  · rw [if_neg h0]
theorem shl_two : ∀ s < 8, IntKind.i64.wrap (2 * (2 : Int) ^ s) = ((2 ^ (s + 1) : Nat) : Int) := by decide +kernel
theorem wrap_byte : ∀ x < 256, wrap64 ((x : Nat) : Int) = ((x : Nat) : Int) := by decide +kernel
theorem rem_nat {x : Int} {n : Nat} (h0 : 0 ≤ x) (h1 : x ≤ 255) : (wrap64 x).tmod (n : Int) = ((x.toNat % n : Nat) : Int) := by
  obtain ⟨y, rfl⟩ : ∃ y : Nat, x = y := ⟨x.toNat, by omega⟩
  rw [wrap_byte y (by omega), Int.tmod_eq_emod_of_nonneg (by omega), Int.toNat_natCast, Int.natCast_emod]
set_option maxRecDepth 100000 in
set_option maxHeartbeats 16000000 in
theorem greedy9_any (w : World) (A B : Option Addr) (c d : Nat) (need : List Int) (l : List Pile) (b pile shade : Int) (hn : need.length ≤ 9223372036854775807) (hl : l.length ≤ 9223372036854775807) (hcap : l.length ≤ d) (hpb : 0 ≤ pile ∧ pile ≤ 255) (hsb : 0 ≤ shade ∧ shade ≤ 255) (hA : IntSl w w.heap.size A need) (hB : PileSl w w.heap.size B l) :
    Calls Try.prog 6 #[.slice A need.length c, .slice B l.length d, .int .i64 b, .int .u8 pile, .int .u8 shade] w (Ret (.bool true) w) := by
  have HA := Lib.hid hA
  have HB := Lib.hid hB
  have HAW := Lib.hid fun W => awake9_any W
  have HPB := Lib.hid hpb
  have HSB := Lib.hid hsb
  clear hA hB hpb hsb
  go_enter Try.func6, Try.ntmps6
  go_wp2_with fail
  refine (large9_any w A B need.length l.length c d hn hl).mono ?_
  rintro e w0 ⟨rfl, rfl⟩
  cases hlg : (decide (14 < need.length) || decide (14 < l.length)) with
  | true =>
    go_wp2_with fail
    refine (HAW.out _).mono ?_
    rintro e w1 ⟨rfl, hb1⟩
    have HB1 := Lib.hid hb1
    clear hb1
    go_wp2_with fail
    go_ret
    exact ⟨rfl, HB1.out⟩
  | false =>
    clear hlg
    by_cases hl0 : l.length = 0
    · have hl0i : ((l.length : Int) == 0) = true := by rw [beq_iff_eq]; omega
      clear hl0
      go_wp2_with fail
      refine (HAW.out _).mono ?_
      rintro e w1 ⟨rfl, hb1⟩
      have HB1 := Lib.hid hb1
      clear hb1
      go_wp2_with fail
      go_ret
      exact ⟨rfl, HB1.out⟩
    · have hl0i : ((l.length : Int) == 0) = false := by rw [beq_eq_false_iff_ne]; omega
      go_wp2_with fail
      refine (fill_any w A B c d need l b hn hl HA.out HB.out).mono ?_
      rintro e w1 ⟨A3, c3, rfl, hr3, hb1⟩
      have HB1 := Lib.hid hb1
      clear hb1
      by_cases hF : (fillA need l b).2 = 0
      · obtain ⟨he0, hcan, hfa⟩ := fill_zero hF
        rw [hfa] at hr3 ⊢
        dsimp only at hr3 ⊢
        obtain ⟨hok, hb0, hb1⟩ := errE_0 he0
        obtain ⟨hN, hP, hc1, hc8⟩ := ok_in hok
        have hn48 : ∀ n ∈ need, 0 ≤ n ∧ n ≤ 48 := by
          have h9 := hok
          unfold boxOk at h9
          rw [Bool.and_eq_true] at h9
          exact (need_parts h9.1).2.1
        have HN48 := Lib.hid hn48
        have HPI := Lib.hid hP
        have HOK := Lib.hid hok
        have HCAN := Lib.hid hcan
        have HR3 := Lib.hid hr3
        have hl8 := hP.1
        have hgp := fill_good hok ⟨hb0, hb1⟩ hcan
        have HGP := Lib.hid hgp
        have hOlen := hgp.len
        have HGD := Lib.hid (good_any w1 A B A3 c d c3 need l b (fillT need l b) hc8 hn48 hP ⟨hb0, hb1⟩ hgp (HA.out.on HB1.out (Nat.le_refl _)) (HB.out.on HB1.out (Nat.le_refl _)) hr3)
        have hll : ((l.length : Int) == l.length) = true := by simp
        have hlln : ((l.length : Int) != l.length) = false := by simp
        clear hn48 hP hok hcan hr3 hgp hN he0 hfa hF
        have HOL := Lib.hid hOlen
        clear hOlen
        have HGF : Hid (∀ (p s : Nat) (hp : p < l.length), s < need.length → l[p].shades.toNat.testBit s = true → ∃ lf mo X, GreP need l b (fillT need l b) p s hp lf mo X) := Lib.hid fun p s hp hs hbit => greedy_facts HOK.out ⟨hb0, hb1⟩ HCAN.out hp hs hbit
        generalize fillT need l b = O at *
        go_wp2_with fail
        refine HGD.out.mono ?_
        rintro e w2 ⟨A4, c4, rfl, -, hb2⟩
        have HB2 := Lib.hid (HB1.out.trans (hb2.mono HB1.out.size))
        replace HR3 := Lib.hid (HR3.out.on hb2)
        rw [HOL.out]
        clear hb2 HB1 HGD
        go_wp2_with fail
        refine (rValid_any w2 A B c d need l hn hl (HA.out.on HB2.out (Nat.le_refl _)) (HB.out.on HB2.out (Nat.le_refl _))).mono ?_
        rintro e w3 ⟨rfl, hb3⟩
        rw [HOK.out]
        have HB3 := Lib.hid (HB2.out.trans (hb3.mono HB2.out.size))
        replace HR3 := Lib.hid (HR3.out.on hb3)
        clear hb3 HB2
        have hL0 : (0 : Int) < l.length := by omega
        have hL1 : (l.length : Int) ≤ 8 := by omega
        have hM0 : (0 : Int) < need.length := by omega
        have hM1 : (need.length : Int) ≤ 8 := by omega
        have hzl : ((l.length : Int) == 0) = false := hl0i
        have hzm : ((need.length : Int) == 0) = false := by rw [beq_eq_false_iff_ne]; omega
        go_upto_region 9 with fail
        go_quiet (fail)
        rw [rem_nat HPB.out.1 HPB.out.2, rem_nat HSB.out.1 HSB.out.2]
        replace HR3 := Lib.hid (HR3.out.on (below_drewN (Below.refl _ w3) nq))
        replace HB3 := Lib.hid (below_drewN HB3.out nq)
        generalize World.drewN w3 nq = w5 at *
        rename World => w3
        obtain ⟨p, hpE⟩ : ∃ p : Nat, p = pile.toNat % l.length := ⟨_, rfl⟩
        obtain ⟨s, hsE⟩ : ∃ s : Nat, s = shade.toNat % need.length := ⟨_, rfl⟩
        have hp : p < l.length := by rw [hpE]; exact Nat.mod_lt _ (by omega)
        have hs : s < need.length := by rw [hsE]; exact Nat.mod_lt _ (by omega)
        rw [← hpE, ← hsE]
        clear hpE hsE hzl hzm
        have hpi : (p : Int) < l.length := by omega
        have hp0 : (0 : Int) ≤ p := by omega
        have hsi : (s : Int) < need.length := by omega
        have hs0 : (0 : Int) ≤ s := by omega
        obtain ⟨gb, offb, rfl, hgb, hat⟩ := HB.out (by intro e; rw [e] at hp; simp at hp)
        obtain ⟨p0, p1⟩ := hat p hp
        rw [← HB3.out.cell (p := ⟨gb, _, none⟩) hgb] at p0 p1
        obtain ⟨⟨q0, q1⟩, q2, q3⟩ := HPI.out.2 l[p] (List.getElem_mem hp)
        obtain ⟨o, ho⟩ : ∃ o : Nat, l[p].shades = (o : Int) := ⟨l[p].shades.toNat, by omega⟩
        have ho8 : o < 256 := by omega
        rw [ho] at p0
        have HAT := Lib.hid hat
        clear hat q0 q1
        go_wp2_with fail
        refine (rHas_any o s _ (by omega) (by omega)).mono ?_
        rintro e w' ⟨rfl, rfl⟩
        cases hbit : o.testBit s with
        | false =>
          clear hbit p0 p1 ho
          go_wp2_with fail
          refine (HAW.out _).mono ?_
          rintro e w4 ⟨rfl, hb4⟩
          replace HB3 := Lib.hid (HB3.out.trans (hb4.mono HB3.out.size))
          clear hb4
          go_wp2_with fail
          go_ret
          exact ⟨rfl, HB3.out⟩
        | true =>
          obtain ⟨lf, mo, X, G⟩ := HGF.out p s hp hs (by rw [ho, Int.toNat_natCast]; exact hbit)
          have HG := Lib.hid G
          have hmk := made_ints need.length hc8
          have hXl := G.xlen
          have HW0 : Hid (GoW w3 (X.take 0 ++ List.replicate (need.length - 0) 0) (w3.alloc (.cells (intsV9 (List.replicate need.length 0)).toArray 3))) := Lib.hid ⟨(Below.refl _ _).alloc (Nat.le_refl _) _, by rw [Nat.sub_zero, List.take_zero, List.nil_append]; exact Blk.new _ _ _⟩
          rw [← G.mo0] at p1
          have HGBW : Hid (gb < w3.heap.size) := Lib.hid (Nat.lt_of_lt_of_le hgb HB3.out.size)
          rw [← HW0.out.hb.cell (p := ⟨gb, _, none⟩) HGBW.out] at p1
          have HX0 : Hid (need ≠ []) := Lib.hid (by intro e; rw [e] at hs; simp at hs)
          obtain ⟨ga, offa, rfl, hga, hata⟩ := HA.out HX0.out
          have HNC : Hid (∀ k (h : k < need.length) W, Below w3.heap.size w3 W → W.cell? ⟨ga, offa + k, none⟩ = some (.int .i64 need[k])) := Lib.hid fun k h W hW => by
            rw [hW.cell (p := ⟨ga, _, none⟩) (Nat.lt_of_lt_of_le hga HB3.out.size), HB3.out.cell (p := ⟨ga, _, none⟩) hga]
            exact hata k h
          obtain ⟨g3, rfl, hg3, hrow⟩ := HR3.out (by intro e; have := HOL.out; rw [e] at this; simp at this; omega)
          have HRC : Hid (∀ i k, i < l.length → k < need.length → ∃ gr offr c', gr < w3.heap.size ∧ ∀ W, Below w3.heap.size w3 W → W.cell? ⟨g3, i, none⟩ = some (.slice (some ⟨gr, offr, none⟩) need.length c') ∧ W.cell? ⟨gr, offr + k, none⟩ = some (.int .i64 ((O.getD i []).getD k 0))) := Lib.hid fun i k hi hk => by
            have hiO : i < O.length := by rw [HOL.out]; exact hi
            obtain ⟨A', c', hc, hsl⟩ := hrow i hiO
            have hrl := (HGP.out.row i hi).1
            have e9 : O.getD i [] = O[i] := by rw [List.getD_eq_getElem?_getD, List.getElem?_eq_getElem hiO, Option.getD_some]
            rw [e9] at hrl ⊢
            obtain ⟨gr, offr, rfl, hgr, hatr⟩ := hsl (by intro e; rw [e] at hrl; simp at hrl; omega)
            refine ⟨gr, offr, c', hgr, fun W hW => ⟨?_, ?_⟩⟩
            · rw [hW.cell (p := ⟨g3, i, none⟩) hg3, hc, hrl]
            · rw [hW.cell (p := ⟨gr, _, none⟩) hgr, hatr k (by rw [hrl]; exact hk), List.getD_eq_getElem?_getD, List.getElem?_eq_getElem (by rw [hrl]; exact hk), Option.getD_some]
          have HBN : Hid (∀ n ∈ need, (0 ≤ b * n ∧ b * n ≤ 50331648)) := Lib.hid fun n hn => by
            obtain ⟨h1, h2⟩ := HN48.out n hn
            have m1 : b * n ≤ 1048576 * 48 := Int.mul_le_mul hb1 h2 h1 (by omega)
            exact ⟨Int.mul_nonneg hb0 h1, by omega⟩
          clear hrow hata G p0 HR3
          go_wp2_with fail
          generalize World.alloc w3 _ = w4 at *
          clear hmk p1
          go_loopw [18, 19] (fun ov kv U => ∃ k : Nat, k ≤ need.length ∧ ov = .int .i64 (mo k) ∧ kv = .int .i64 k ∧ Hid (GoW w3 (X.take k ++ List.replicate (need.length - k) 0) U)) (fun _ kv _ => need.length - (intOf kv).toNat)
          case atStart => exact ⟨0, by omega, rfl, rfl, HW0⟩
          case round =>
            obtain ⟨k, hk, rfl, rfl, HW⟩ := hrel
            rename World => U
            by_cases hkl : k < need.length
            · have hki : (k : Int) < need.length := by omega
              have hk0 : (0 : Int) ≤ k := by omega
              obtain ⟨BS, hBS⟩ : ∃ BS : List Int, BS = X.take k ++ List.replicate (need.length - k) 0 := ⟨_, rfl⟩
              obtain ⟨BN, hBN⟩ : ∃ BN : List Int, BN = X.take (k + 1) ++ List.replicate (need.length - (k + 1)) 0 := ⟨_, rfl⟩
              have hbl : BS.length = need.length := by rw [hBS]; exact base_len hXl hk
              have HNXT : Hid (BS.set k (X.getD k 0) = BN) := Lib.hid (by
                rw [hBS, hBN, ← base_next hXl hkl, List.getD_eq_getElem?_getD, List.getElem?_eq_getElem (by omega), Option.getD_some])
              have HBN2 := Lib.hid hBN
              rw [← hBS] at HW
              clear hBS hBN
              have x0 := HNC.out k hkl U HW.out.hb
              obtain ⟨z, y0⟩ : ∃ z : Int, U.cell? ⟨w3.heap.size, k, none⟩ = some (.int .i64 z) := ⟨_, HW.out.at (k := k) (by rw [hbl]; exact hkl)⟩
              have f0 := HW.out.ks.frozen k
              have hbn := HBN.out need[k] (List.getElem_mem hkl)
              have hwm : IntKind.i64.wrap (b * need[k]) = b * need[k] := IntWalk.i64_in _ ⟨by omega, by omega⟩
              have HW1 : Hid (GoW w3 (BS.set k (lf 0 k)) (U.setCell ⟨w3.heap.size, k, none⟩ (.int .i64 (b * need[k])))) := Lib.hid (by rw [HG.out.lf0 k hkl]; exact HW.out.put k _)
              have hwm2 : wrap64 (b * need[k]) = b * need[k] := IntWalk.wrap64_in _ ⟨by omega, by omega⟩
              clear HW hbn
              go_wp2_with fail
              generalize World.setCell U _ _ = U1 at *
              clear x0 y0 f0 hwm hwm2
              go_loopw [20] (fun iv X1 => ∃ i : Nat, i ≤ p ∧ iv = .int .i64 i ∧ Hid (GoW w3 (BS.set k (lf i k)) X1)) (fun iv _ => p - (intOf iv).toNat)
              case atStart => exact ⟨0, by omega, rfl, HW1⟩
              case round =>
                obtain ⟨i, hi, rfl, HWI⟩ := hrel
                rename World => U2
                by_cases hip : i < p
                · have hii : (i : Int) < p := by omega
                  have hi0 : (0 : Int) ≤ i := by omega
                  have hiO : (i : Int) < l.length := by omega
                  have hiL : i < l.length := by omega
                  obtain ⟨gr, offr, c', hgr, hcs⟩ := HRC.out i k (by omega) hkl
                  have l1 := HG.out.lf1 i k hip
                  have b1 := HG.out.lfb i k hi
                  have b2 := HG.out.lfb (i + 1) k (by omega)
                  have hkB : k < (BS.set k (lf i k)).length := by rw [List.length_set, hbl]; exact hkl
                  have y0 := HWI.out.at hkB
                  rw [List.getElem_set_self] at y0
                  obtain ⟨c0, x0⟩ := hcs U2 HWI.out.hb
                  generalize (O.getD i []).getD k 0 = x at *
                  have hwx : IntKind.i64.wrap (lf i k - x) = lf i k - x := IntWalk.i64_in _ ⟨by omega, by omega⟩
                  have HWD := Lib.hid (HWI.out.call (Below.refl _ _).drew)
                  have HSD : Hid (U2.drew.cell? ⟨g3, i, none⟩ = some (.slice (some ⟨gr, offr, none⟩) need.length c') ∧ U2.drew.cell? ⟨gr, offr + k, none⟩ = some (.int .i64 x) ∧ U2.drew.cell? ⟨w3.heap.size, k, none⟩ = some (.int .i64 (lf i k))) := Lib.hid ⟨c0, x0, y0⟩
                  have HZ : Hid (U2.drew.cell? ⟨w3.heap.size, k, none⟩ = some (.int .i64 (lf i k)) ∧ U2.drew.frozen? ⟨w3.heap.size, k, none⟩ = false) := Lib.hid ⟨y0, HWD.out.ks.frozen k⟩
                  have HPUT : Hid (∀ X9 : World, GoW w3 (BS.set k (lf i k)) X9 → GoW w3 (BS.set k (lf (i + 1) k)) (X9.setCell ⟨w3.heap.size, k, none⟩ (.int .i64 (lf i k - x)))) := Lib.hid fun X9 h9 => by
                    have h8 := h9.put k (lf i k - x)
                    rw [List.set_set] at h8
                    rw [l1]
                    exact h8
                  clear y0 c0 x0 HWI hcs l1 b1 b2
                  generalize lf i k = y at *
                  go_upto_region 21 with fail
                  refine C_begin (S := fun W9 => W9.cell? ⟨g3, i, none⟩ = some (.slice (some ⟨gr, offr, none⟩) need.length c') ∧ W9.cell? ⟨gr, offr + k, none⟩ = some (.int .i64 x) ∧ W9.cell? ⟨w3.heap.size, k, none⟩ = some (.int .i64 y)) (c := 15) (by kernel_rfl) ?_
                  generalize World.drew _ = V0 at *
                  have hSd := (show (fun W9 => W9.cell? ⟨g3, i, none⟩ = some (.slice (some ⟨gr, offr, none⟩) need.length c') ∧ W9.cell? ⟨gr, offr + k, none⟩ = some (.int .i64 x) ∧ W9.cell? ⟨w3.heap.size, k, none⟩ = some (.int .i64 y)) V0 from HSD.out)
                  refine C_take (i := 0) (v := ?v21_0) rfl (by kernel_rfl) (fun _ _ _ h => h) (Or.inl ⟨by rfl, ?y21_0⟩) (Or.inr hSd) ?r21_0
                  case y21_0 => (intro w0 _; go_simp; try with_reducible rfl)
                  try simp only [Act.put, List.getElem_toArray, List.getElem_cons_zero, List.setIfInBounds_toArray, List.set_cons_zero, List.set_cons_succ]
                  refine C_take (i := 1) (v := ?v21_1) rfl (by kernel_rfl) (fun _ _ _ h => h) (Or.inl ⟨by rfl, ?y21_1⟩) (Or.inr hSd) ?r21_1
                  case y21_1 => (intro w0 _; go_simp; try with_reducible rfl)
                  try simp only [Act.put, List.getElem_toArray, List.getElem_cons_succ, List.getElem_cons_zero, List.setIfInBounds_toArray, List.set_cons_zero, List.set_cons_succ]
                  refine C_take (i := 2) (v := ?v21_2) rfl (by kernel_rfl) (fun _ _ _ h => h) (Or.inl ⟨by rfl, ?y21_2⟩) (Or.inr hSd) ?r21_2
                  case y21_2 => (intro w0 _; go_simp; try with_reducible rfl)
                  try simp only [Act.put, List.getElem_toArray, List.getElem_cons_succ, List.getElem_cons_zero, List.setIfInBounds_toArray, List.set_cons_zero, List.set_cons_succ]
                  refine C_take (i := 3) (v := ?v21_3) rfl (by kernel_rfl) (fun _ _ _ h => h) (Or.inl ⟨by rfl, ?y21_3⟩) (Or.inr hSd) ?r21_3
                  case y21_3 => (intro w0 _; go_simp; try with_reducible rfl)
                  try simp only [Act.put, List.getElem_toArray, List.getElem_cons_succ, List.getElem_cons_zero, List.setIfInBounds_toArray, List.set_cons_zero, List.set_cons_succ]
                  refine C_take (i := 4) (v := ?v21_4) rfl (by kernel_rfl) (fun _ _ _ h => h) (Or.inl ⟨by rfl, ?y21_4⟩) (Or.inr hSd) ?r21_4
                  case y21_4 => (intro w0 _; go_simp; try with_reducible rfl)
                  try simp only [Act.put, List.getElem_toArray, List.getElem_cons_succ, List.getElem_cons_zero, List.setIfInBounds_toArray, List.set_cons_zero, List.set_cons_succ]
                  refine C_load (i := 5) (v := ?v21_5) [15] rfl (by kernel_rfl) (fun _ _ _ h => h) (Or.inl ⟨by rfl, ?y21_5⟩) hSd ?r21_5
                  case y21_5 => ((intro w0 hSw; obtain ⟨y0, y1, y2⟩ := hSw; go_simp); try with_reducible rfl)
                  try simp only [Act.put, List.getElem_toArray, List.getElem_cons_succ, List.getElem_cons_zero, List.setIfInBounds_toArray, List.set_cons_zero, List.set_cons_succ]
                  refine C_take (i := 6) (v := ?v21_6) rfl (by kernel_rfl) (fun _ _ _ h => h) (Or.inl ⟨by rfl, ?y21_6⟩) (Or.inr hSd) ?r21_6
                  case y21_6 => (intro w0 _; go_simp; try with_reducible rfl)
                  try simp only [Act.put, List.getElem_toArray, List.getElem_cons_succ, List.getElem_cons_zero, List.setIfInBounds_toArray, List.set_cons_zero, List.set_cons_succ]
                  refine C_take (i := 7) (v := ?v21_7) rfl (by kernel_rfl) (fun _ _ _ h => h) (Or.inl ⟨by rfl, ?y21_7⟩) (Or.inr hSd) ?r21_7
                  case y21_7 => (intro w0 _; go_simp; try with_reducible rfl)
                  try simp only [Act.put, List.getElem_toArray, List.getElem_cons_succ, List.getElem_cons_zero, List.setIfInBounds_toArray, List.set_cons_zero, List.set_cons_succ]
                  refine C_take (i := 8) (v := ?v21_8) rfl (by kernel_rfl) (fun _ _ _ h => h) (Or.inl ⟨by rfl, ?y21_8⟩) (Or.inr hSd) ?r21_8
                  case y21_8 => (intro w0 _; go_simp; try with_reducible rfl)
                  try simp only [Act.put, List.getElem_toArray, List.getElem_cons_succ, List.getElem_cons_zero, List.setIfInBounds_toArray, List.set_cons_zero, List.set_cons_succ]
                  refine C_load (i := 9) (v := ?v21_9) [15] rfl (by kernel_rfl) (fun _ _ _ h => h) (Or.inl ⟨by rfl, ?y21_9⟩) hSd ?r21_9
                  case y21_9 => ((intro w0 hSw; obtain ⟨y0, y1, y2⟩ := hSw; go_simp); try with_reducible rfl)
                  try simp only [Act.put, List.getElem_toArray, List.getElem_cons_succ, List.getElem_cons_zero, List.setIfInBounds_toArray, List.set_cons_zero, List.set_cons_succ]
                  refine C_take (i := 10) (v := ?v21_10) rfl (by kernel_rfl) (fun _ _ _ h => h) (Or.inl ⟨by rfl, ?y21_10⟩) (Or.inr hSd) ?r21_10
                  case y21_10 => (intro w0 _; go_simp; try with_reducible rfl)
                  try simp only [Act.put, List.getElem_toArray, List.getElem_cons_succ, List.getElem_cons_zero, List.setIfInBounds_toArray, List.set_cons_zero, List.set_cons_succ]
                  refine C_take (i := 11) (v := ?v21_11) rfl (by kernel_rfl) (fun _ _ _ h => h) (Or.inl ⟨by rfl, ?y21_11⟩) (Or.inr hSd) ?r21_11
                  case y21_11 => (intro w0 _; go_simp; try with_reducible rfl)
                  try simp only [Act.put, List.getElem_toArray, List.getElem_cons_succ, List.getElem_cons_zero, List.setIfInBounds_toArray, List.set_cons_zero, List.set_cons_succ]
                  refine C_load (i := 12) (v := ?v21_12) [15] rfl (by kernel_rfl) (fun _ _ _ h => h) (Or.inl ⟨by rfl, ?y21_12⟩) hSd ?r21_12
                  case y21_12 => ((intro w0 hSw; obtain ⟨y0, y1, y2⟩ := hSw; go_simp); try with_reducible rfl)
                  try simp only [Act.put, List.getElem_toArray, List.getElem_cons_succ, List.getElem_cons_zero, List.setIfInBounds_toArray, List.set_cons_zero, List.set_cons_succ]
                  refine C_take (i := 13) (v := ?v21_13) rfl (by kernel_rfl) (fun _ _ _ h => h) (Or.inl ⟨by rfl, ?y21_13⟩) (Or.inr hSd) ?r21_13
                  case y21_13 => (intro w0 _; go_simp; try with_reducible rfl)
                  try simp only [Act.put, List.getElem_toArray, List.getElem_cons_succ, List.getElem_cons_zero, List.setIfInBounds_toArray, List.set_cons_zero, List.set_cons_succ]
                  refine C_take (i := 14) (v := ?v21_14) rfl (by kernel_rfl) (fun _ _ _ h => h) (Or.inl ⟨by rfl, ?y21_14⟩) (Or.inr hSd) ?r21_14
                  case y21_14 => (intro w0 _; go_simp; try with_reducible rfl)
                  try simp only [Act.put, List.getElem_toArray, List.getElem_cons_succ, List.getElem_cons_zero, List.setIfInBounds_toArray, List.set_cons_zero, List.set_cons_succ]
                  refine C_one (i := 15) rfl (by kernel_rfl) (fun K hK => ?_)
                  rw [if_pos (by rfl)]
                  have z0 := HZ.out.1
                  have z1 := HZ.out.2
                  go_simp
                  have HWN := Lib.hid (HPUT.out _ HWD.out)
                  clear z0 z1
                  refine hK _ _ (.inl (by kernel_rfl)) ?_
                  clear hK K
                  try clear hSd
                  try simp only [Act.put, List.getElem_toArray, List.getElem_cons_succ, List.getElem_cons_zero, List.setIfInBounds_toArray, List.set_cons_zero, List.set_cons_succ]
                  refine C_done (by kernel_rfl) ?_ _
                  generalize World.setCell V0 _ _ = V5 at *
                  go_wp2_with fail
                  go_roundw
                  case rel => exact ⟨i + 1, by omega, by go_num, HWN⟩
                  case measure => exact meas9 hip
                · obtain rfl : i = p := by omega
                  have hii : ¬ (i : Int) < (i : Int) := by omega
                  have hiO : (i : Int) < l.length := by omega
                  by_cases hks : k ≤ s
                  · have hksi : (k : Int) ≤ s := by omega
                    obtain ⟨gr, offr, c', hgr, hcs⟩ := HRC.out i k hp hkl
                    have l1 := HG.out.x0 k hkl hks
                    have l2 := HG.out.mo1 k hks
                    have b1 := HG.out.lfb i k (Nat.le_refl _)
                    have b2 := HG.out.xb k
                    have b3 := HG.out.mob k
                    have b4 := HG.out.mob (k + 1)
                    have hkB : k < (BS.set k (lf i k)).length := by rw [List.length_set, hbl]; exact hkl
                    have y0 := HWI.out.at hkB
                    rw [List.getElem_set_self] at y0
                    obtain ⟨c0, x0⟩ := hcs U2 HWI.out.hb
                    generalize (O.getD i []).getD k 0 = x at *
                    have hwx : IntKind.i64.wrap (lf i k - x) = lf i k - x := IntWalk.i64_in _ ⟨by omega, by omega⟩
                    have hwo : IntKind.i64.wrap (mo k - x) = mo k - x := IntWalk.i64_in _ ⟨by omega, by omega⟩
                    have HWD := Lib.hid (HWI.out.call (Below.refl _ _).drew)
                    have HSD : Hid (U2.drew.cell? ⟨g3, i, none⟩ = some (.slice (some ⟨gr, offr, none⟩) need.length c') ∧ U2.drew.cell? ⟨gr, offr + k, none⟩ = some (.int .i64 x) ∧ U2.drew.cell? ⟨w3.heap.size, k, none⟩ = some (.int .i64 (lf i k))) := Lib.hid ⟨c0, x0, y0⟩
                    have HZ : Hid (U2.drew.cell? ⟨w3.heap.size, k, none⟩ = some (.int .i64 (lf i k)) ∧ U2.drew.frozen? ⟨w3.heap.size, k, none⟩ = false) := Lib.hid ⟨y0, HWD.out.ks.frozen k⟩
                    have HPUT : Hid (∀ X9 : World, GoW w3 (BS.set k (lf i k)) X9 → GoW w3 BN (X9.setCell ⟨w3.heap.size, k, none⟩ (.int .i64 (lf i k - x)))) := Lib.hid fun X9 h9 => by
                      have h8 := h9.put k (lf i k - x)
                      rw [List.set_set, show BS.set k (lf i k - x) = BN by rw [← l1]; exact HNXT.out] at h8
                      exact h8
                    have HCS := Lib.hid hcs
                    have HMO := Lib.hid l2
                    clear y0 c0 x0 HWI hcs l1 l2 b1 b2 b3 b4
                    generalize lf i k = y at *
                    go_upto_region 23 with fail
                    refine C_begin (S := fun W9 => W9.cell? ⟨g3, i, none⟩ = some (.slice (some ⟨gr, offr, none⟩) need.length c') ∧ W9.cell? ⟨gr, offr + k, none⟩ = some (.int .i64 x) ∧ W9.cell? ⟨w3.heap.size, k, none⟩ = some (.int .i64 y)) (c := 15) (by kernel_rfl) ?_
                    generalize World.drew _ = V0 at *
                    have hSd := (show (fun W9 => W9.cell? ⟨g3, i, none⟩ = some (.slice (some ⟨gr, offr, none⟩) need.length c') ∧ W9.cell? ⟨gr, offr + k, none⟩ = some (.int .i64 x) ∧ W9.cell? ⟨w3.heap.size, k, none⟩ = some (.int .i64 y)) V0 from HSD.out)
                    refine C_take (i := 0) (v := ?v23_0) rfl (by kernel_rfl) (fun _ _ _ h => h) (Or.inl ⟨by rfl, ?y23_0⟩) (Or.inr hSd) ?r23_0
                    case y23_0 => (intro w0 _; go_simp; try with_reducible rfl)
                    try simp only [Act.put, List.getElem_toArray, List.getElem_cons_zero, List.setIfInBounds_toArray, List.set_cons_zero, List.set_cons_succ]
                    refine C_take (i := 1) (v := ?v23_1) rfl (by kernel_rfl) (fun _ _ _ h => h) (Or.inl ⟨by rfl, ?y23_1⟩) (Or.inr hSd) ?r23_1
                    case y23_1 => (intro w0 _; go_simp; try with_reducible rfl)
                    try simp only [Act.put, List.getElem_toArray, List.getElem_cons_succ, List.getElem_cons_zero, List.setIfInBounds_toArray, List.set_cons_zero, List.set_cons_succ]
                    refine C_take (i := 2) (v := ?v23_2) rfl (by kernel_rfl) (fun _ _ _ h => h) (Or.inl ⟨by rfl, ?y23_2⟩) (Or.inr hSd) ?r23_2
                    case y23_2 => (intro w0 _; go_simp; try with_reducible rfl)
                    try simp only [Act.put, List.getElem_toArray, List.getElem_cons_succ, List.getElem_cons_zero, List.setIfInBounds_toArray, List.set_cons_zero, List.set_cons_succ]
                    refine C_take (i := 3) (v := ?v23_3) rfl (by kernel_rfl) (fun _ _ _ h => h) (Or.inl ⟨by rfl, ?y23_3⟩) (Or.inr hSd) ?r23_3
                    case y23_3 => (intro w0 _; go_simp; try with_reducible rfl)
                    try simp only [Act.put, List.getElem_toArray, List.getElem_cons_succ, List.getElem_cons_zero, List.setIfInBounds_toArray, List.set_cons_zero, List.set_cons_succ]
                    refine C_take (i := 4) (v := ?v23_4) rfl (by kernel_rfl) (fun _ _ _ h => h) (Or.inl ⟨by rfl, ?y23_4⟩) (Or.inr hSd) ?r23_4
                    case y23_4 => (intro w0 _; go_simp; try with_reducible rfl)
                    try simp only [Act.put, List.getElem_toArray, List.getElem_cons_succ, List.getElem_cons_zero, List.setIfInBounds_toArray, List.set_cons_zero, List.set_cons_succ]
                    refine C_load (i := 5) (v := ?v23_5) [15] rfl (by kernel_rfl) (fun _ _ _ h => h) (Or.inl ⟨by rfl, ?y23_5⟩) hSd ?r23_5
                    case y23_5 => ((intro w0 hSw; obtain ⟨y0, y1, y2⟩ := hSw; go_simp); try with_reducible rfl)
                    try simp only [Act.put, List.getElem_toArray, List.getElem_cons_succ, List.getElem_cons_zero, List.setIfInBounds_toArray, List.set_cons_zero, List.set_cons_succ]
                    refine C_take (i := 6) (v := ?v23_6) rfl (by kernel_rfl) (fun _ _ _ h => h) (Or.inl ⟨by rfl, ?y23_6⟩) (Or.inr hSd) ?r23_6
                    case y23_6 => (intro w0 _; go_simp; try with_reducible rfl)
                    try simp only [Act.put, List.getElem_toArray, List.getElem_cons_succ, List.getElem_cons_zero, List.setIfInBounds_toArray, List.set_cons_zero, List.set_cons_succ]
                    refine C_take (i := 7) (v := ?v23_7) rfl (by kernel_rfl) (fun _ _ _ h => h) (Or.inl ⟨by rfl, ?y23_7⟩) (Or.inr hSd) ?r23_7
                    case y23_7 => (intro w0 _; go_simp; try with_reducible rfl)
                    try simp only [Act.put, List.getElem_toArray, List.getElem_cons_succ, List.getElem_cons_zero, List.setIfInBounds_toArray, List.set_cons_zero, List.set_cons_succ]
                    refine C_take (i := 8) (v := ?v23_8) rfl (by kernel_rfl) (fun _ _ _ h => h) (Or.inl ⟨by rfl, ?y23_8⟩) (Or.inr hSd) ?r23_8
                    case y23_8 => (intro w0 _; go_simp; try with_reducible rfl)
                    try simp only [Act.put, List.getElem_toArray, List.getElem_cons_succ, List.getElem_cons_zero, List.setIfInBounds_toArray, List.set_cons_zero, List.set_cons_succ]
                    refine C_load (i := 9) (v := ?v23_9) [15] rfl (by kernel_rfl) (fun _ _ _ h => h) (Or.inl ⟨by rfl, ?y23_9⟩) hSd ?r23_9
                    case y23_9 => ((intro w0 hSw; obtain ⟨y0, y1, y2⟩ := hSw; go_simp); try with_reducible rfl)
                    try simp only [Act.put, List.getElem_toArray, List.getElem_cons_succ, List.getElem_cons_zero, List.setIfInBounds_toArray, List.set_cons_zero, List.set_cons_succ]
                    refine C_take (i := 10) (v := ?v23_10) rfl (by kernel_rfl) (fun _ _ _ h => h) (Or.inl ⟨by rfl, ?y23_10⟩) (Or.inr hSd) ?r23_10
                    case y23_10 => (intro w0 _; go_simp; try with_reducible rfl)
                    try simp only [Act.put, List.getElem_toArray, List.getElem_cons_succ, List.getElem_cons_zero, List.setIfInBounds_toArray, List.set_cons_zero, List.set_cons_succ]
                    refine C_take (i := 11) (v := ?v23_11) rfl (by kernel_rfl) (fun _ _ _ h => h) (Or.inl ⟨by rfl, ?y23_11⟩) (Or.inr hSd) ?r23_11
                    case y23_11 => (intro w0 _; go_simp; try with_reducible rfl)
                    try simp only [Act.put, List.getElem_toArray, List.getElem_cons_succ, List.getElem_cons_zero, List.setIfInBounds_toArray, List.set_cons_zero, List.set_cons_succ]
                    refine C_load (i := 12) (v := ?v23_12) [15] rfl (by kernel_rfl) (fun _ _ _ h => h) (Or.inl ⟨by rfl, ?y23_12⟩) hSd ?r23_12
                    case y23_12 => ((intro w0 hSw; obtain ⟨y0, y1, y2⟩ := hSw; go_simp); try with_reducible rfl)
                    try simp only [Act.put, List.getElem_toArray, List.getElem_cons_succ, List.getElem_cons_zero, List.setIfInBounds_toArray, List.set_cons_zero, List.set_cons_succ]
                    refine C_take (i := 13) (v := ?v23_13) rfl (by kernel_rfl) (fun _ _ _ h => h) (Or.inl ⟨by rfl, ?y23_13⟩) (Or.inr hSd) ?r23_13
                    case y23_13 => (intro w0 _; go_simp; try with_reducible rfl)
                    try simp only [Act.put, List.getElem_toArray, List.getElem_cons_succ, List.getElem_cons_zero, List.setIfInBounds_toArray, List.set_cons_zero, List.set_cons_succ]
                    refine C_take (i := 14) (v := ?v23_14) rfl (by kernel_rfl) (fun _ _ _ h => h) (Or.inl ⟨by rfl, ?y23_14⟩) (Or.inr hSd) ?r23_14
                    case y23_14 => (intro w0 _; go_simp; try with_reducible rfl)
                    try simp only [Act.put, List.getElem_toArray, List.getElem_cons_succ, List.getElem_cons_zero, List.setIfInBounds_toArray, List.set_cons_zero, List.set_cons_succ]
                    refine C_one (i := 15) rfl (by kernel_rfl) (fun K hK => ?_)
                    rw [if_pos (by rfl)]
                    have z0 := HZ.out.1
                    have z1 := HZ.out.2
                    go_simp
                    have HWN := Lib.hid (HPUT.out _ HWD.out)
                    clear z0 z1
                    refine hK _ _ (.inl (by kernel_rfl)) ?_
                    clear hK K
                    try clear hSd
                    try simp only [Act.put, List.getElem_toArray, List.getElem_cons_succ, List.getElem_cons_zero, List.setIfInBounds_toArray, List.set_cons_zero, List.set_cons_succ]
                    refine C_done (by kernel_rfl) ?_ _
                    generalize World.setCell V0 _ _ = V5 at *
                    obtain ⟨c0, x0⟩ := HCS.out V5 HWN.out.hb
                    go_wp2_with fail
                    go_roundw
                    case rel => exact ⟨k + 1, by omega, by rw [HMO.out], by go_num, by rw [← HBN2.out]; exact HWN⟩
                    case measure => exact meas9 hkl
                  · have hksi : ¬ (k : Int) ≤ s := by omega
                    have HMO := Lib.hid (HG.out.mo2 k (by omega))
                    have HWN : Hid (GoW w3 BN U2) := Lib.hid (by rw [← HNXT.out, HG.out.x1 k hkl (by omega)]; exact HWI.out)
                    clear HWI
                    go_wp2_with fail
                    go_roundw
                    case rel => exact ⟨k + 1, by omega, by rw [HMO.out], by go_num, by rw [← HBN2.out]; exact HWN⟩
                    case measure => exact meas9 hkl
            · obtain rfl : k = need.length := by omega
              rw [base_end hXl] at HW
              have hsX : s < X.length := by rw [hXl]; exact hs
              have hXs : X[s] = X.getD s 0 := by rw [List.getD_eq_getElem?_getD, List.getElem?_eq_getElem hsX, Option.getD_some]
              have y0 := HW.out.at hsX
              rw [hXs] at y0
              have f0 := HW.out.ks.frozen s
              have b1 := HG.out.xb s
              have b2 := HG.out.mob need.length
              have HMR := Lib.hid HG.out.more
              rw [ho, Int.toNat_natCast] at HMR
              have hw1 : wrap64 (X.getD s 0 - 1) = X.getD s 0 - 1 := IntWalk.wrap64_in _ ⟨by omega, by omega⟩
              have hw2 : wrap64 (mo need.length - 1) = mo need.length - 1 := IntWalk.wrap64_in _ ⟨by omega, by omega⟩
              have HW2 : Hid (GoW w3 (X.set s (X.getD s 0 - 1)) (U.setCell ⟨w3.heap.size, s, none⟩ (.int .i64 (X.getD s 0 - 1)))) := Lib.hid (HW.out.put s _)
              have hP0 : w3.cell? ⟨gb, offb + p * 2, none⟩ = some (.int .i64 (o : Int)) := by
                rw [HB3.out.cell (p := ⟨gb, _, none⟩) hgb, ← ho]
                exact (HAT.out p hp).1
              have HP0 := Lib.hid hP0
              have HXB : Hid (∀ k, 0 ≤ X.getD k 0 ∧ X.getD k 0 ≤ 50331648) := Lib.hid HG.out.xb
              clear HW HG hXs hP0
              generalize mo need.length = mq at *
              generalize X.getD s 0 = xs at *
              go_upto_region 27 with fail
              generalize World.setCell U _ _ = U1 at *
              have y1 := HW2.out.at (k := s) (by rw [List.length_set]; exact hsX)
              rw [List.getElem_set_self] at y1
              have hY : (X.set s (xs - 1)).length = need.length := by rw [List.length_set]; exact hXl
              clear y0 f0
              by_cases hm1 : mq - 1 < 0
              · go_wp2_with fail
                refine (HAW.out _).mono ?_
                rintro e w8 ⟨rfl, hb8⟩
                have HB8 := Lib.hid ((HB3.out.trans (HW2.out.hb.mono HB3.out.size)).trans (hb8.mono (Nat.le_trans HB3.out.size HW2.out.hb.size)))
                clear hb8
                go_wp2_with fail
                go_ret
                exact ⟨rfl, HB8.out⟩
              · by_cases hx1 : xs - 1 < 0
                · go_wp2_with fail
                  refine (HAW.out _).mono ?_
                  rintro e w8 ⟨rfl, hb8⟩
                  have HB8 := Lib.hid ((HB3.out.trans (HW2.out.hb.mono HB3.out.size)).trans (hb8.mono (Nat.le_trans HB3.out.size HW2.out.hb.size)))
                  clear hb8
                  go_wp2_with fail
                  go_ret
                  exact ⟨rfl, HB8.out⟩
                · have HT := Lib.hid (HMR.out (by omega) (by omega))
                  have HNIN : Hid (NeedIn (X.set s (xs - 1))) := Lib.hid ⟨by rw [hY]; exact hc8, fun n hn => by
                    rcases List.mem_or_eq_of_mem_set hn with hn | rfl
                    · obtain ⟨j, hj, rfl⟩ := List.getElem_of_mem hn
                      have h9 := HXB.out j
                      rw [List.getD_eq_getElem?_getD, List.getElem?_eq_getElem hj, Option.getD_some] at h9
                      omega
                    · omega⟩
                  have hcut8 : cutB o (s + 1) < 256 := Nat.lt_of_le_of_lt (cut_le _ _) ho8
                  have HPI2 : Hid (PilesIn (⟨(cutB o (s + 1) : Nat), mq - 1⟩ :: l.drop (p + 1))) := Lib.hid ⟨by rw [List.length_cons, List.length_drop]; omega, fun q hq => by
                    rcases List.mem_cons.1 hq with rfl | hq
                    · dsimp only; omega
                    · exact HPI.out.2 q (List.mem_of_mem_drop hq)⟩
                  clear HMR HXB hXl hsX
                  generalize X.set s (xs - 1) = Y at *
                  generalize hmq : mq - 1 = mq1 at *
                  have hp0' : U1.cell? ⟨gb, offb + p * 2, none⟩ = some (.int .i64 (o : Int)) := (HW2.out.hb.cell (p := ⟨gb, _, none⟩) HGBW.out).trans HP0.out
                  go_upto_region 29 with fail
                  clear y1
                  have HD := Lib.hid (Below.refl U1.heap.size U1).drew
                  have HRD : Hid (∀ W9 : World, Below U1.heap.size U1 W9 → W9.cell? ⟨gb, offb + p * 2, none⟩ = some (.int .i64 (o : Int))) := Lib.hid fun W9 h9 => (h9.cell (p := ⟨gb, _, none⟩) (Nat.lt_of_lt_of_le HGBW.out HW2.out.hb.size)).trans hp0'
                  have hD0 := shl_two s (by omega)
                  have hD1 : 1 ≤ 2 ^ (s + 1) := Nat.one_le_two_pow
                  have hD2 := cut_div o s
                  generalize 2 ^ (s + 1) = D at *
                  have hD3 : ¬ (D : Int) = 0 := by omega
                  have hD4 : ¬ D = 0 := by omega
                  obtain ⟨Q, hQE⟩ : ∃ Q, Q = o / D := ⟨_, rfl⟩
                  have hQ : Q ≤ o := by rw [hQE]; exact Nat.div_le_self _ _
                  have hQ1 : IntKind.i64.wrap ((o : Int) / (D : Int)) = (Q : Int) := by
                    rw [← Int.natCast_ediv, ← hQE]
                    exact IntWalk.i64_in _ ⟨by omega, by omega⟩
                  rw [← hQE] at hD2
                  have hQ2 : IntKind.i64.wrap ((Q : Int) * (D : Int)) = ((cutB o (s + 1) : Nat) : Int) := by
                    rw [← Int.natCast_mul, hD2]
                    exact IntWalk.i64_in _ ⟨by omega, by omega⟩
                  generalize cutB o (s + 1) = cN at *
                  clear hp0' hD1 hD2 hQ hQE
                  refine wp_region_held_drew (S := fun W9 => Below U1.heap.size U1 W9) (by kernel_rfl) HD.out (fun hH0 => ?_)
                  generalize World.drew _ = V0 at *
                  simp only [List.size_toArray, List.length_cons, List.length_nil, Nat.reduceAdd, Array.replicate_succ, Array.replicate_zero, List.push_toArray, List.nil_append, List.cons_append]
                  refine wpAnyH_take (i := 0 ) (v := ?_) rfl (by kernel_rfl) (by kernel_rfl) (by kernel_rfl) (fun _ _ _ h => h) (Or.inl ⟨by rfl, ?_⟩) (by assumption) ?_; rotate_left; (· (intro w0 hSw; have y0 := HRD.out _ hSw; clear hSw; go_simp); first | done | with_reducible rfl); (try simp only [Act.put, List.getElem_toArray, List.getElem_cons_zero, List.setIfInBounds_toArray, List.set_cons_zero, List.set_cons_succ])
                  refine wpAnyH_take (i := 1 ) (v := ?_) rfl (by kernel_rfl) (by kernel_rfl) (by kernel_rfl) (fun _ _ _ h => h) (Or.inl ⟨by rfl, ?_⟩) (by assumption) ?_; rotate_left; (· (intro w0 hSw; have y0 := HRD.out _ hSw; clear hSw; go_simp); first | done | with_reducible rfl); (try simp only [Act.put, List.getElem_toArray, List.getElem_cons_succ, List.getElem_cons_zero, List.setIfInBounds_toArray, List.set_cons_zero, List.set_cons_succ])
                  refine wpAnyH_take (i := 2 ) (v := ?_) rfl (by kernel_rfl) (by kernel_rfl) (by kernel_rfl) (fun _ _ _ h => h) (Or.inl ⟨by rfl, ?_⟩) (by assumption) ?_; rotate_left; (· (intro w0 hSw; have y0 := HRD.out _ hSw; clear hSw; go_simp); first | done | with_reducible rfl); (try simp only [Act.put, List.getElem_toArray, List.getElem_cons_succ, List.getElem_cons_zero, List.setIfInBounds_toArray, List.set_cons_zero, List.set_cons_succ])
                  refine wpAnyH_take (i := 3 ) (v := ?_) rfl (by kernel_rfl) (by kernel_rfl) (by kernel_rfl) (fun _ _ _ h => h) (Or.inl ⟨by rfl, ?_⟩) (by assumption) ?_; rotate_left; (· (intro w0 hSw; have y0 := HRD.out _ hSw; clear hSw; go_simp); first | done | with_reducible rfl); (try simp only [Act.put, List.getElem_toArray, List.getElem_cons_succ, List.getElem_cons_zero, List.setIfInBounds_toArray, List.set_cons_zero, List.set_cons_succ])
                  refine wpAnyH_take (i := 4 ) (v := ?_) rfl (by kernel_rfl) (by kernel_rfl) (by kernel_rfl) (fun _ _ _ h => h) (Or.inl ⟨by rfl, ?_⟩) (by assumption) ?_; rotate_left; (· (intro w0 hSw; have y0 := HRD.out _ hSw; clear hSw; go_simp); first | done | with_reducible rfl); (try simp only [Act.put, List.getElem_toArray, List.getElem_cons_succ, List.getElem_cons_zero, List.setIfInBounds_toArray, List.set_cons_zero, List.set_cons_succ])
                  refine wpAnyH_take (i := 5 ) (v := ?_) rfl (by kernel_rfl) (by kernel_rfl) (by kernel_rfl) (fun _ _ _ h => h) (Or.inl ⟨by rfl, ?_⟩) (by assumption) ?_; rotate_left; (· (intro w0 hSw; have y0 := HRD.out _ hSw; clear hSw; go_simp); first | done | with_reducible rfl); (try simp only [Act.put, List.getElem_toArray, List.getElem_cons_succ, List.getElem_cons_zero, List.setIfInBounds_toArray, List.set_cons_zero, List.set_cons_succ])
                  refine wpAnyH_take (i := 6 ) (v := ?_) rfl (by kernel_rfl) (by kernel_rfl) (by kernel_rfl) (fun _ _ _ h => h) (Or.inl ⟨by rfl, ?_⟩) (by assumption) ?_; rotate_left; (· (intro w0 hSw; have y0 := HRD.out _ hSw; clear hSw; go_simp); first | done | with_reducible rfl); (try simp only [Act.put, List.getElem_toArray, List.getElem_cons_succ, List.getElem_cons_zero, List.setIfInBounds_toArray, List.set_cons_zero, List.set_cons_succ])
                  refine wpAnyH_take (i := 7 ) (v := ?_) rfl (by kernel_rfl) (by kernel_rfl) (by kernel_rfl) (fun _ _ _ h => h) (Or.inl ⟨by rfl, ?_⟩) (by assumption) ?_; rotate_left; (· (intro w0 hSw; have y0 := HRD.out _ hSw; clear hSw; go_simp); first | done | with_reducible rfl); (try simp only [Act.put, List.getElem_toArray, List.getElem_cons_succ, List.getElem_cons_zero, List.setIfInBounds_toArray, List.set_cons_zero, List.set_cons_succ])
                  refine wpAnyH_take (i := 8 ) (v := ?_) rfl (by kernel_rfl) (by kernel_rfl) (by kernel_rfl) (fun _ _ _ h => h) (Or.inl ⟨by rfl, ?_⟩) (by assumption) ?_; rotate_left; (· (intro w0 hSw; have y0 := HRD.out _ hSw; clear hSw; go_simp); first | done | with_reducible rfl); (try simp only [Act.put, List.getElem_toArray, List.getElem_cons_succ, List.getElem_cons_zero, List.setIfInBounds_toArray, List.set_cons_zero, List.set_cons_succ])
                  refine wpAnyH_take (i := 9 ) (v := ?_) rfl (by kernel_rfl) (by kernel_rfl) (by kernel_rfl) (fun _ _ _ h => h) (Or.inl ⟨by rfl, ?_⟩) (by assumption) ?_; rotate_left; (· (intro w0 hSw; have y0 := HRD.out _ hSw; clear hSw; go_simp); first | done | with_reducible rfl); (try simp only [Act.put, List.getElem_toArray, List.getElem_cons_succ, List.getElem_cons_zero, List.setIfInBounds_toArray, List.set_cons_zero, List.set_cons_succ])
                  refine wpAnyH_take (i := 10 ) (v := ?_) rfl (by kernel_rfl) (by kernel_rfl) (by kernel_rfl) (fun _ _ _ h => h) (Or.inl ⟨by rfl, ?_⟩) (by assumption) ?_; rotate_left; (· (intro w0 hSw; have y0 := HRD.out _ hSw; clear hSw; go_simp); first | done | with_reducible rfl); (try simp only [Act.put, List.getElem_toArray, List.getElem_cons_succ, List.getElem_cons_zero, List.setIfInBounds_toArray, List.set_cons_zero, List.set_cons_succ])
                  refine wpAnyH_take (i := 11 ) (v := ?_) rfl (by kernel_rfl) (by kernel_rfl) (by kernel_rfl) (fun _ _ _ h => h) (Or.inl ⟨by rfl, ?_⟩) (by assumption) ?_; rotate_left; (· (intro w0 hSw; have y0 := HRD.out _ hSw; clear hSw; go_simp); first | done | with_reducible rfl); (try simp only [Act.put, List.getElem_toArray, List.getElem_cons_succ, List.getElem_cons_zero, List.setIfInBounds_toArray, List.set_cons_zero, List.set_cons_succ])
                  refine wpAnyH_take (i := 12 ) (v := ?_) rfl (by kernel_rfl) (by kernel_rfl) (by kernel_rfl) (fun _ _ _ h => h) (Or.inl ⟨by rfl, ?_⟩) (by assumption) ?_; rotate_left; (· (intro w0 hSw; have y0 := HRD.out _ hSw; clear hSw; go_simp); first | done | with_reducible rfl); (try simp only [Act.put, List.getElem_toArray, List.getElem_cons_succ, List.getElem_cons_zero, List.setIfInBounds_toArray, List.set_cons_zero, List.set_cons_succ])
                  refine wpAnyH_ready (rs := [13]) (by kernel_rfl) (by simp) ?_
                  refine AllReadyH.cons (by simp only [List.getElem?_toArray, List.getElem?_cons_succ, List.getElem?_cons_zero]; rfl) (fun K hK => ?_) AllReadyH.nil
                  rw [if_pos (by rfl)]
                  refine wp_bs 23 46 1 _ (by rfl) #[.int .i64 (cN : Int), .int .i64 mq1] [.agg #[.int .i64 (cN : Int), .int .i64 mq1]] (.agg #[.int .i64 0, .int .i64 0]) 2 (by kernel_rfl) (by kernel_rfl) (by decide) (by rfl) (by rfl) (by rfl) (by rfl) ?_
                  simp only [Act.put, List.setIfInBounds_toArray, List.set_cons_zero, List.set_cons_succ]
                  have HO := Lib.hid (World.ownsRow_lit (base := U1.heap.size) (e := 46) (size := 2) V0 #[.int .i64 (cN : Int), .int .i64 mq1] 1 HD.out.size (by unfold maxLen; omega) (by rfl))
                  replace HD := Lib.hid (HD.out.alloc HD.out.size (.cells #[.int .i64 (cN : Int), .int .i64 mq1] 46))
                  generalize hV1 : World.alloc V0 _ = V1 at *
                  clear hV1
                  refine hK.out _ _ HD.out (fun hH1 => ?_)
                  clear hK K
                  try simp only [List.setIfInBounds_toArray, List.set_cons_zero, List.set_cons_succ]
                  refine wpAnyH_take (i := 14 ) (v := ?_) rfl (by kernel_rfl) (by kernel_rfl) (by kernel_rfl) (fun _ _ _ h => h) (Or.inl ⟨by rfl, ?_⟩) (by assumption) ?_; rotate_left; (· (intro w0 hSw; have y0 := HRD.out _ hSw; clear hSw; go_simp); first | done | with_reducible rfl); (try simp only [Act.put, List.getElem_toArray, List.getElem_cons_succ, List.getElem_cons_zero, List.setIfInBounds_toArray, List.set_cons_zero, List.set_cons_succ])
                  refine wpAnyH_done (by kernel_rfl) ?_ _
                  clear hD0 hD3 hD4 hQ1 hQ2 hH0 hH1 HRD
                  have HW3 := Lib.hid (HW2.out.call HD.out)
                  have hwp : IntKind.i64.wrap ((p : Int) + 1) = (p : Int) + 1 := IntWalk.i64_in _ ⟨by omega, by omega⟩
                  have hpl : (p : Int) + 1 ≤ l.length := by omega
                  have hp1 : (0 : Int) ≤ (p : Int) + 1 := by omega
                  have hll9 : (l.length : Int) ≤ d := by omega
                  have HWW : Hid (Below w.heap.size w V1) := Lib.hid (HB3.out.trans (HW3.out.hb.mono HB3.out.size))
                  have HNX : Hid (∀ (j : Nat) u, (pileV (l.drop (p + 1)))[j]? = some u → V1.cell? ((⟨gb, offb + (p + 1) * 2, none⟩ : Addr).add j) = some u) := Lib.hid (pile_cells9 (piles_drop9 (PilesAt.below HAT.out HWW.out hgb) (p + 1)))
                  obtain ⟨i0, hi, hz0, hz1, hz2⟩ := info9 pileInfo9
                  have hU1 : U1.heap.size ≤ V1.heap.size := HD.out.size
                  by_cases hd1 : d = p + 1
                  · subst hd1
                    have hpd1 : (p : Int) ≤ (p : Int) + 1 := by omega
                    have hlp1 : l.length = p + 1 := by omega
                    have hdrop : l.drop (p + 1) = [] := by rw [← hlp1]; exact List.drop_length
                    have HLN := Lib.hid (And.intro hlp1 hdrop)
                    clear hlp1 hdrop
                    go_upto_region 31 with (at_builtin; refine wpList_append_own _ rfl _ _ 23 rfl U1.heap.size 46 i0 _ 2 16 und_piles9 hi hz0 hz1 hz2 rfl (by decide) (.slice (some ⟨V0.heap.size, 0, none⟩) 1 1) 1 _ rfl HO.out ⟨gb, offb, none⟩ 0 0 [] rfl rfl (fun j u hj => by simp at hj) (fun u hu => by simp at hu) (by unfold maxLen; omega) (by omega) hU1 ?_; intro v' w2 hown hgr hnn; clear hnn; have HO7 := Lib.hid hown; have HG7 := Lib.hid hgr; clear hown hgr)
                    have HO8 : Hid (w2.ownsRow U1.heap.size 46 2 v' (l.length - p) (pileV (⟨(cN : Int), mq1⟩ :: l.drop (p + 1)))) := Lib.hid (by
                      rw [HLN.out.2, show l.length - p = 1 by have := HLN.out.1; omega]
                      exact HO7.out)
                    have HW4 : Hid (GoW w3 Y w2) := Lib.hid ⟨Below.grown HW3.out.hb HG7.out (by have := HW3.out.ks.lt; omega) fun j e => by have := (HO.out.lt j e).1; have := HW2.out.ks.lt; omega, HW3.out.ks.kept HG7.out fun e => by have := (HO.out.lt _ e.symm).1; have := HW2.out.ks.lt; omega⟩
                    obtain ⟨gR, capR, rfl, hgR1, hgR2⟩ := own_g9 HO8.out (by omega)
                    have HPS := Lib.hid (own_piles9 (l := ⟨(cN : Int), mq1⟩ :: l.drop (p + 1)) HO8.out (by rw [List.length_cons, List.length_drop]; omega))
                    have HRL : Hid ((⟨(cN : Int), mq1⟩ :: l.drop (p + 1) : List Pile).length = l.length - p) := Lib.hid (by rw [List.length_cons, List.length_drop]; omega)
                    have HWB : Hid (Below w.heap.size w w2) := Lib.hid (HB3.out.trans (HW4.out.hb.mono HB3.out.size))
                    clear HO HO7 HO8 HG7 HNX HWW HW3 HD HAT
                    generalize (⟨(cN : Int), mq1⟩ :: l.drop (p + 1) : List Pile) = R at *
                    have HCN : Hid (∀ t : Nat, t < 256 → Calls Try.prog 24 #[.slice (some ⟨w3.heap.size, 0, none⟩) need.length need.length, .int .i64 (t : Int)] w2 fun e w' => e = .returned (.int .i64 (needS Y t)) ∧ w2 = w') := Lib.hid fun t ht => by
                      have h9 := rNeeds_any w2 (some ⟨w3.heap.size, 0, none⟩) need.length t Y ht HNIN.out (fun _ => ⟨w3.heap.size, 0, rfl, HW4.out.ks.lt, fun j hj => by
                        rw [Nat.zero_add]
                        exact HW4.out.at hj⟩)
                      rwa [hY] at h9
                    have HCO : Hid (∀ t : Nat, t < 256 → Calls Try.prog 23 #[.slice (some ⟨gR, 0, none⟩) (l.length - p) capR, .int .i64 (t : Int)] w2 fun e w' => e = .returned (.int .i64 (hasS R t)) ∧ w2 = w') := Lib.hid fun t ht => by
                      have h9 := rOf_any w2 (some ⟨gR, 0, none⟩) capR t R ht HPI2.out HPS.out
                      rwa [HRL.out] at h9
                    have hP8 : 2 ^ need.length ≤ 2 ^ 8 := Nat.pow_le_pow_right (by omega) hc8
                    have hP1 : 1 ≤ 2 ^ need.length := Nat.one_le_two_pow
                    have hpt := pow_tab need.length (by omega)
                    obtain ⟨P, hP⟩ : ∃ P : Nat, P = 2 ^ need.length := ⟨_, rfl⟩
                    rw [← hP] at hP8 hP1 hpt HT
                    clear hP HPS HPI2 HNIN HRL HW4 hwp
                    go_wp2_with fail
                    go_loopw [22] (fun tv X1 => ∃ t : Nat, 1 ≤ t ∧ t ≤ P ∧ tv = .int .i64 t ∧ Hid (∀ u, 1 ≤ u → u < t → needS Y u ≤ hasS R u) ∧ X1 = w2) (fun tv _ => P - (intOf tv).toNat)
                    case atStart => exact ⟨1, by omega, by omega, rfl, Lib.hid fun u h1 h2 => by omega, rfl⟩
                    case round =>
                      obtain ⟨t, ht1, htP, rfl, HNO, rfl⟩ := hrel
                      by_cases htl : t < P
                      · have hti : (t : Int) < P := by omega
                        have ht0 : (0 : Int) ≤ t := by omega
                        have hP9 : P ≤ 256 := hP8
                        go_wp2_with fail
                        refine (HCN.out t (by omega)).mono ?_
                        rintro e w9 ⟨rfl, rfl⟩
                        go_wp2_with fail
                        refine (HCO.out t (by omega)).mono ?_
                        rintro e w9 ⟨rfl, rfl⟩
                        by_cases hgt : hasS R t < needS Y t
                        · go_wp2_with fail
                          refine (HAW.out _).mono ?_
                          rintro e w9 ⟨rfl, hb9⟩
                          have HB9 := Lib.hid (HWB.out.trans (hb9.mono HWB.out.size))
                          clear hb9
                          go_wp2_with fail
                          go_ret
                          exact ⟨rfl, HB9.out⟩
                        · have HNO2 : Hid (∀ u, 1 ≤ u → u < t + 1 → needS Y u ≤ hasS R u) := Lib.hid fun u h1 h2 => by
                            rcases Nat.lt_or_ge u t with h | h
                            · exact HNO.out u h1 h
                            · obtain rfl : u = t := by omega
                              omega
                          go_wp2_with fail
                          go_roundw
                          case rel => exact ⟨t + 1, by omega, by omega, by go_num, HNO2, trivial⟩
                          case measure => exact meas9 htl
                      · exfalso
                        obtain ⟨u, u1, u2, u3⟩ := HT.out
                        have := HNO.out u u1 (by omega)
                        omega
                  · go_upto_region 31 with (at_builtin; refine wpList_append_own _ rfl _ _ 23 rfl U1.heap.size 46 i0 _ 2 16 und_piles9 hi hz0 hz1 hz2 rfl (by decide) (.slice (some ⟨V0.heap.size, 0, none⟩) 1 1) 1 _ rfl HO.out ⟨gb, offb + (p + 1) * 2, none⟩ (l.length - (p + 1)) (d - (p + 1)) (pileV (l.drop (p + 1))) rfl (by rw [pileV_len, List.length_drop]) HNX.out (pileV_one _) (by unfold maxLen; omega) (by omega) hU1 ?_; intro v' w2 hown hgr hnn; clear hnn; have HO7 := Lib.hid hown; have HG7 := Lib.hid hgr; clear hown hgr)
                    have HO8 : Hid (w2.ownsRow U1.heap.size 46 2 v' (l.length - p) (pileV (⟨(cN : Int), mq1⟩ :: l.drop (p + 1)))) := Lib.hid (by
                      rw [show l.length - p = 1 + (l.length - (p + 1)) by omega]
                      exact HO7.out)
                    have HW4 : Hid (GoW w3 Y w2) := Lib.hid ⟨Below.grown HW3.out.hb HG7.out (by have := HW3.out.ks.lt; omega) fun j e => by have := (HO.out.lt j e).1; have := HW2.out.ks.lt; omega, HW3.out.ks.kept HG7.out fun e => by have := (HO.out.lt _ e.symm).1; have := HW2.out.ks.lt; omega⟩
                    obtain ⟨gR, capR, rfl, hgR1, hgR2⟩ := own_g9 HO8.out (by omega)
                    have HPS := Lib.hid (own_piles9 (l := ⟨(cN : Int), mq1⟩ :: l.drop (p + 1)) HO8.out (by rw [List.length_cons, List.length_drop]; omega))
                    have HRL : Hid ((⟨(cN : Int), mq1⟩ :: l.drop (p + 1) : List Pile).length = l.length - p) := Lib.hid (by rw [List.length_cons, List.length_drop]; omega)
                    have HWB : Hid (Below w.heap.size w w2) := Lib.hid (HB3.out.trans (HW4.out.hb.mono HB3.out.size))
                    clear HO HO7 HO8 HG7 HNX HWW HW3 HD HAT
                    generalize (⟨(cN : Int), mq1⟩ :: l.drop (p + 1) : List Pile) = R at *
                    have HCN : Hid (∀ t : Nat, t < 256 → Calls Try.prog 24 #[.slice (some ⟨w3.heap.size, 0, none⟩) need.length need.length, .int .i64 (t : Int)] w2 fun e w' => e = .returned (.int .i64 (needS Y t)) ∧ w2 = w') := Lib.hid fun t ht => by
                      have h9 := rNeeds_any w2 (some ⟨w3.heap.size, 0, none⟩) need.length t Y ht HNIN.out (fun _ => ⟨w3.heap.size, 0, rfl, HW4.out.ks.lt, fun j hj => by
                        rw [Nat.zero_add]
                        exact HW4.out.at hj⟩)
                      rwa [hY] at h9
                    have HCO : Hid (∀ t : Nat, t < 256 → Calls Try.prog 23 #[.slice (some ⟨gR, 0, none⟩) (l.length - p) capR, .int .i64 (t : Int)] w2 fun e w' => e = .returned (.int .i64 (hasS R t)) ∧ w2 = w') := Lib.hid fun t ht => by
                      have h9 := rOf_any w2 (some ⟨gR, 0, none⟩) capR t R ht HPI2.out HPS.out
                      rwa [HRL.out] at h9
                    have hP8 : 2 ^ need.length ≤ 2 ^ 8 := Nat.pow_le_pow_right (by omega) hc8
                    have hP1 : 1 ≤ 2 ^ need.length := Nat.one_le_two_pow
                    have hpt := pow_tab need.length (by omega)
                    obtain ⟨P, hP⟩ : ∃ P : Nat, P = 2 ^ need.length := ⟨_, rfl⟩
                    rw [← hP] at hP8 hP1 hpt HT
                    clear hP HPS HPI2 HNIN HRL HW4 hwp
                    go_wp2_with fail
                    go_loopw [22] (fun tv X1 => ∃ t : Nat, 1 ≤ t ∧ t ≤ P ∧ tv = .int .i64 t ∧ Hid (∀ u, 1 ≤ u → u < t → needS Y u ≤ hasS R u) ∧ X1 = w2) (fun tv _ => P - (intOf tv).toNat)
                    case atStart => exact ⟨1, by omega, by omega, rfl, Lib.hid fun u h1 h2 => by omega, rfl⟩
                    case round =>
                      obtain ⟨t, ht1, htP, rfl, HNO, rfl⟩ := hrel
                      by_cases htl : t < P
                      · have hti : (t : Int) < P := by omega
                        have ht0 : (0 : Int) ≤ t := by omega
                        have hP9 : P ≤ 256 := hP8
                        go_wp2_with fail
                        refine (HCN.out t (by omega)).mono ?_
                        rintro e w9 ⟨rfl, rfl⟩
                        go_wp2_with fail
                        refine (HCO.out t (by omega)).mono ?_
                        rintro e w9 ⟨rfl, rfl⟩
                        by_cases hgt : hasS R t < needS Y t
                        · go_wp2_with fail
                          refine (HAW.out _).mono ?_
                          rintro e w9 ⟨rfl, hb9⟩
                          have HB9 := Lib.hid (HWB.out.trans (hb9.mono HWB.out.size))
                          clear hb9
                          go_wp2_with fail
                          go_ret
                          exact ⟨rfl, HB9.out⟩
                        · have HNO2 : Hid (∀ u, 1 ≤ u → u < t + 1 → needS Y u ≤ hasS R u) := Lib.hid fun u h1 h2 => by
                            rcases Nat.lt_or_ge u t with h | h
                            · exact HNO.out u h1 h
                            · obtain rfl : u = t := by omega
                              omega
                          go_wp2_with fail
                          go_roundw
                          case rel => exact ⟨t + 1, by omega, by omega, by go_num, HNO2, trivial⟩
                          case measure => exact meas9 htl
                      · exfalso
                        obtain ⟨u, u1, u2, u3⟩ := HT.out
                        have := HNO.out u u1 (by omega)
                        omega
      · have hF1 := fill_none hF
        rw [hF1]
        have hF2 : ((fillA need l b).2 != 0) = true := by rw [bne_iff_ne]; exact hF
        generalize (fillA need l b).2 = ee at *
        have hFi : (ee == 0) = false := by rw [beq_eq_false_iff_ne]; exact hF
        clear hr3 hF1
        go_wp2_with fail
        refine (HAW.out _).mono ?_
        rintro e w2 ⟨rfl, hb2⟩
        have HB2 := Lib.hid (HB1.out.trans (hb2.mono HB1.out.size))
        clear hb2
        go_wp2_with fail
        go_ret
        exact ⟨rfl, HB2.out⟩
end Go.Proofs.Ytngoagfkcjkeoaa
