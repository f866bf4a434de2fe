/- Walks: the law BoxUsed. -/
import Derived.Test.YthapgiajbonhgaaUs
namespace Go.Proofs.Ythapgiajbonhgaa
open Go.RowKit Go.Shelf

theorem piles_take {W : World} {b off : Nat} {l : List Pile} (h : PilesAt W b off l) (k : Nat) : PilesAt W b off (l.take k) := fun i hi => by
  have hi' : i < l.length := by rw [List.length_take] at hi; omega
  rw [List.getElem_take]
  exact h i hi'
theorem piles_drop {W : World} {b off : Nat} {l : List Pile} (h : PilesAt W b off l) (k : Nat) : PilesAt W b (off + k * 2) (l.drop k) := fun i hi => by
  have hi' : k + i < l.length := by rw [List.length_drop] at hi; omega
  rw [List.getElem_drop]
  have := h (k + i) hi'
  rw [show off + (k + i) * 2 = off + k * 2 + i * 2 by omega] at this
  exact this
theorem use_err {need : List Int} {l : List Pile} {b pile lo hi ee : Int} (h : UseR need l b pile lo hi ee) : (lo = 0 ∧ hi = 0 ∧ ((ee = 1 ∧ boxOk need l = false) ∨ ((ee = 2 ∨ ee = 10) ∧ boxOk need l = true))) ∨
    (ee = 0 ∧ boxOk need l = true ∧ errE need l b = 0 ∧ canB need l b = true ∧ (0 ≤ b ∧ b ≤ 1048576) ∧ ∃ (p : Nat) (hp : p < l.length), pile = p ∧ UsedP need l b p hp lo hi) := by
  rcases h with ⟨h1, rfl, rfl, rfl⟩ | ⟨h1, -, rfl, rfl, rfl⟩ | ⟨h1, -, -, rfl, rfl, rfl⟩ | ⟨h1, h2, rfl, p, hp, r, rfl, hg, rfl, rfl⟩
  · left
    refine ⟨rfl, rfl, ?_⟩
    unfold errE at *
    by_cases hk : boxOk need l = true
    · rw [if_pos hk] at *
      by_cases hf : fromB b 0 1048576 = true
      · rw [if_pos hf] at h1; exact absurd rfl h1
      · rw [if_neg hf] at *
        exact .inr ⟨.inl rfl, hk⟩
    · rw [if_neg hk]
      exact .inl ⟨rfl, by simpa using hk⟩
  · exact .inl ⟨rfl, rfl, .inr ⟨.inl rfl, (errE_0 h1).1⟩⟩
  · exact .inl ⟨rfl, rfl, .inr ⟨.inr rfl, (errE_0 h1).1⟩⟩
  · obtain ⟨hok, hb0, hb1⟩ := errE_0 h1
    exact .inr ⟨rfl, hok, h1, h2, ⟨hb0, hb1⟩, p, hp, rfl, used_facts hok ⟨hb0, hb1⟩ h2 hp hg⟩
set_option maxRecDepth 100000 in
set_option maxHeartbeats 8000000 in
theorem used9_any (w : World) (A B : Option Addr) (c d : Nat) (need : List Int) (l : List Pile) (b pile : Int) (hn : need.length ≤ 9223372036854775807) (hl : l.length ≤ 9223372036854775807) (hcap : l.length ≤ d) (hA : IntSl w w.heap.size A need) (hB : PileSl w w.heap.size B l) :
    Calls Try.prog 7 #[.slice A need.length c, .slice B l.length d, .int .i64 b, .int .i64 pile] w (Ret (.bool true) w) := by
  have HAW := Lib.hid fun W => awake9_any W
  have HA := Lib.hid hA
  have HB := Lib.hid hB
  clear hA hB
  go_enter Try.func7, Try.ntmps7
  go_wp2_with fail
  refine (large9_any w A B need.length l.length c d hn hl).mono ?_
  rintro e w0 ⟨rfl, rfl⟩
  cases hlg : (decide (14 < need.length) || decide (14 < l.length)) with
  | true =>
    go_wp2_with fail
    refine (HAW.out _).mono ?_
    rintro e w1 ⟨rfl, hb1⟩
    have HB1 := Lib.hid hb1
    clear hb1
    go_wp2_with fail
    go_ret
    exact ⟨rfl, HB1.out⟩
  | false =>
    clear hlg
    go_wp2_with fail
    refine (use_any w A B c d need l b pile hn hl HA.out HB.out).mono ?_
    rintro e w1 ⟨lo, hi, ee, rfl, hu, hb1⟩
    have hb2 : Below w1.heap.size w1 (w1.alloc (.cells #[.int .i64 lo, .int .i64 hi] 35)) := (Below.refl _ _).alloc (Nat.le_refl _) _
    have HK := Lib.hid (And.intro (hb1.trans (hb2.mono hb1.size)) (Blk.new w1 35 #[.int .i64 lo, .int .i64 hi]))
    have hgu : w.heap.size ≤ w1.heap.size := hb1.size
    clear hb1 hb2
    rcases use_err hu with ⟨rfl, rfl, hcase⟩ | ⟨rfl, hok, he0, hcan, hbb, p, hp, rfl, hu2⟩
    · have HOKE : Hid ((ee = 1 ∧ boxOk need l = false) ∨ ((ee = 2 ∨ ee = 10) ∧ boxOk need l = true)) := Lib.hid hcase
      clear hu hcase
      go_upto_region 4 with fail
      generalize World.alloc w1 _ = w2 at *
      generalize w1.heap.size = gu at *
      have c0 := HK.out.2.cell 0
      have c1 := HK.out.2.cell 1
      have HV := Lib.hid (rValid_any w2 A B c d need l hn hl (HA.out.on HK.out.1 (Nat.le_refl _)) (HB.out.on HK.out.1 (Nat.le_refl _)))
      rcases HOKE.out with ⟨rfl, hok⟩ | ⟨rfl | rfl, hok⟩
      all_goals
        rw [hok] at HV
        clear hok HOKE
        go_wp2_with fail
        refine HV.out.mono ?_
        rintro e w3 ⟨rfl, hb3⟩
        have HB3 := Lib.hid (HK.out.1.trans (hb3.mono HK.out.1.size))
        clear hb3
        go_wp2_with fail
        refine (HAW.out _).mono ?_
        rintro e w4 ⟨rfl, hb4⟩
        have HB4 := Lib.hid (HB3.out.trans (hb4.mono HB3.out.size))
        clear hb4
        go_wp2_with fail
        go_ret
        exact ⟨rfl, HB4.out⟩
    · obtain ⟨hN, hP, hc1, hc8⟩ := ok_in hok
      obtain ⟨gb, offb, rfl, hgb, hatb⟩ := HB.out (by intro e; rw [e] at hp; simp at hp)
      have hp1 := (hatb p hp).2
      have HAT := Lib.hid hatb
      have HU := Lib.hid hu2
      have HOK := Lib.hid hok
      have HFL0 : Hid (fillA need l b = (fillT need l b, 0)) := Lib.hid ((if_pos he0).trans (if_pos hcan))
      have HGP := Lib.hid (fill_good hok hbb hcan)
      have HP := Lib.hid hP
      have HE0 := Lib.hid he0
      have HN48 : Hid (∀ n ∈ need, 0 ≤ n ∧ n ≤ 48) := Lib.hid (by
        have h9 := hok
        unfold boxOk at h9
        rw [Bool.and_eq_true] at h9
        exact (need_parts h9.1).2.1)
      have hl8 := (ok_piles hok).1
      have hpm := ((ok_piles hok).2 _ (List.getElem_mem hp)).2
      have hlo0 := hu2.lo0
      have hlohi := hu2.lohi
      have hhim := hu2.him
      have hulo := hu2.ulo
      have huhi := hu2.uhi
      have hpi : (p : Int) < l.length := by omega
      have hp0 : (0 : Int) ≤ p := by omega
      clear hu hu2 hok hN hP he0 hcan hatb
      go_upto_region 6 with fail
      generalize World.alloc w1 _ = V6 at *
      generalize w1.heap.size = gu at *
      have HRD : Hid (∀ W9, Below V6.heap.size V6 W9 → W9.cell? ⟨gu, 0, none⟩ = some (.int .i64 lo) ∧ W9.cell? ⟨gu, 1, none⟩ = some (.int .i64 hi) ∧ W9.cell? ⟨gb, offb + p * 2 + 1, none⟩ = some (.int .i64 l[p].many)) := Lib.hid fun W9 h9 => ⟨(HK.out.2.below h9 HK.out.2.lt).cell 0, (HK.out.2.below h9 HK.out.2.lt).cell 1, ((HK.out.1.trans (h9.mono HK.out.1.size)).cell (p := ⟨gb, _, none⟩) hgb).trans hp1⟩
      have HD := Lib.hid ((Below.refl V6.heap.size V6).drew)
      have k1 : ¬ (p : Int) < 0 := by omega
      have k2 : ¬ (l.length : Int) ≤ p := by omega
      have k3 : ¬ lo < 0 := by omega
      have k4 : ¬ hi < lo := by omega
      generalize hmn : l[p].many = mn at *
      have k5 : ¬ mn < hi := by omega
      refine wp_region_held_drew (S := fun W9 => Below V6.heap.size V6 W9) (by kernel_rfl) HD.out (fun hH0 => ?_)
      generalize World.drew _ = V0 at *
      simp only [List.size_toArray, List.length_cons, List.length_nil, Nat.reduceAdd, Array.replicate_succ, Array.replicate_zero, List.push_toArray, List.nil_append, List.cons_append]
      refine wpAnyH_take (i := 0 ) (v := ?_) rfl (by kernel_rfl) (by kernel_rfl) (by kernel_rfl) (fun _ _ _ h => h) (Or.inl ⟨by rfl, ?_⟩) (by assumption) ?_; rotate_left; (· (intro w0 hSw; obtain ⟨y0, y1, y2⟩ := HRD.out _ hSw; clear hSw; go_simp); first | done | with_reducible rfl); (try simp only [Act.put, List.getElem_toArray, List.getElem_cons_zero, List.setIfInBounds_toArray, List.set_cons_zero, List.set_cons_succ])
      refine wpAnyH_take (i := 1 ) (v := ?_) rfl (by kernel_rfl) (by kernel_rfl) (by kernel_rfl) (fun _ _ _ h => h) (Or.inl ⟨by rfl, ?_⟩) (by assumption) ?_; rotate_left; (· (intro w0 hSw; obtain ⟨y0, y1, y2⟩ := HRD.out _ hSw; clear hSw; go_simp); first | done | with_reducible rfl); (try simp only [Act.put, List.getElem_toArray, List.getElem_cons_succ, List.getElem_cons_zero, List.setIfInBounds_toArray, List.set_cons_zero, List.set_cons_succ])
      refine wpAnyH_ready (rs := [2]) (by kernel_rfl) (by simp) ?_
      refine AllReadyH.cons (by simp only [List.getElem?_toArray, List.getElem?_cons_succ, List.getElem?_cons_zero]; rfl) (fun K hK => ?_) AllReadyH.nil
      go_simp
      refine (rValid_any _ A _ c d need l hn hl (HA.out.on (HK.out.1.trans (HD.out.mono HK.out.1.size)) (Nat.le_refl _)) (HB.out.on (HK.out.1.trans (HD.out.mono HK.out.1.size)) (Nat.le_refl _))).mono ?_
      rintro e X9 ⟨rfl, hb9⟩
      rw [HOK.out]
      replace HD := Lib.hid (HD.out.trans (hb9.mono HD.out.size))
      clear hb9
      refine hK.out _ _ HD.out (fun hH1 => ?_)
      clear hK K
      try simp only [List.setIfInBounds_toArray, List.set_cons_zero, List.set_cons_succ]
      refine wpAnyH_take (i := 3 ) (v := ?_) rfl (by kernel_rfl) (by kernel_rfl) (by kernel_rfl) (fun _ _ _ h => h) (Or.inl ⟨by rfl, ?_⟩) (by assumption) ?_; rotate_left; (· (intro w0 hSw; obtain ⟨y0, y1, y2⟩ := HRD.out _ hSw; clear hSw; go_simp); first | done | with_reducible rfl); (try simp only [Act.put, List.getElem_toArray, List.getElem_cons_succ, List.getElem_cons_zero, List.setIfInBounds_toArray, List.set_cons_zero, List.set_cons_succ])
      refine wpAnyH_take (i := 4 ) (v := ?_) rfl (by kernel_rfl) (by kernel_rfl) (by kernel_rfl) (fun _ _ _ h => h) (Or.inl ⟨by rfl, ?_⟩) (by assumption) ?_; rotate_left; (· (intro w0 hSw; obtain ⟨y0, y1, y2⟩ := HRD.out _ hSw; clear hSw; go_simp); first | done | with_reducible rfl); (try simp only [Act.put, List.getElem_toArray, List.getElem_cons_succ, List.getElem_cons_zero, List.setIfInBounds_toArray, List.set_cons_zero, List.set_cons_succ])
      refine wpAnyH_take (i := 5 ) (v := ?_) rfl (by kernel_rfl) (by kernel_rfl) (by kernel_rfl) (fun _ _ _ h => h) (Or.inl ⟨by rfl, ?_⟩) (by assumption) ?_; rotate_left; (· (intro w0 hSw; obtain ⟨y0, y1, y2⟩ := HRD.out _ hSw; clear hSw; go_simp); first | done | with_reducible rfl); (try simp only [Act.put, List.getElem_toArray, List.getElem_cons_succ, List.getElem_cons_zero, List.setIfInBounds_toArray, List.set_cons_zero, List.set_cons_succ])
      refine wpAnyH_take (i := 6 ) (v := ?_) rfl (by kernel_rfl) (by kernel_rfl) (by kernel_rfl) (fun _ _ _ h => h) (Or.inl ⟨by rfl, ?_⟩) (by assumption) ?_; rotate_left; (· (intro w0 hSw; obtain ⟨y0, y1, y2⟩ := HRD.out _ hSw; clear hSw; go_simp); first | done | with_reducible rfl); (try simp only [Act.put, List.getElem_toArray, List.getElem_cons_succ, List.getElem_cons_zero, List.setIfInBounds_toArray, List.set_cons_zero, List.set_cons_succ])
      refine wpAnyH_take (i := 7 ) (v := ?_) rfl (by kernel_rfl) (by kernel_rfl) (by kernel_rfl) (fun _ _ _ h => h) (Or.inl ⟨by rfl, ?_⟩) (by assumption) ?_; rotate_left; (· (intro w0 hSw; obtain ⟨y0, y1, y2⟩ := HRD.out _ hSw; clear hSw; go_simp); first | done | with_reducible rfl); (try simp only [Act.put, List.getElem_toArray, List.getElem_cons_succ, List.getElem_cons_zero, List.setIfInBounds_toArray, List.set_cons_zero, List.set_cons_succ])
      refine wpAnyH_take (i := 8 ) (v := ?_) rfl (by kernel_rfl) (by kernel_rfl) (by kernel_rfl) (fun _ _ _ h => h) (Or.inl ⟨by rfl, ?_⟩) (by assumption) ?_; rotate_left; (· (intro w0 hSw; obtain ⟨y0, y1, y2⟩ := HRD.out _ hSw; clear hSw; go_simp); first | done | with_reducible rfl); (try simp only [Act.put, List.getElem_toArray, List.getElem_cons_succ, List.getElem_cons_zero, List.setIfInBounds_toArray, List.set_cons_zero, List.set_cons_succ])
      refine wpAnyH_take (i := 9 ) (v := ?_) rfl (by kernel_rfl) (by kernel_rfl) (by kernel_rfl) (fun _ _ _ h => h) (Or.inl ⟨by rfl, ?_⟩) (by assumption) ?_; rotate_left; (· (intro w0 hSw; obtain ⟨y0, y1, y2⟩ := HRD.out _ hSw; clear hSw; go_simp); first | done | with_reducible rfl); (try simp only [Act.put, List.getElem_toArray, List.getElem_cons_succ, List.getElem_cons_zero, List.setIfInBounds_toArray, List.set_cons_zero, List.set_cons_succ])
      refine wpAnyH_take (i := 10 ) (v := ?_) rfl (by kernel_rfl) (by kernel_rfl) (by kernel_rfl) (fun _ _ _ h => h) (Or.inl ⟨by rfl, ?_⟩) (by assumption) ?_; rotate_left; (· (intro w0 hSw; obtain ⟨y0, y1, y2⟩ := HRD.out _ hSw; clear hSw; go_simp); first | done | with_reducible rfl); (try simp only [Act.put, List.getElem_toArray, List.getElem_cons_succ, List.getElem_cons_zero, List.setIfInBounds_toArray, List.set_cons_zero, List.set_cons_succ])
      refine wpAnyH_take (i := 11 ) (v := ?_) rfl (by kernel_rfl) (by kernel_rfl) (by kernel_rfl) (fun _ _ _ h => h) (Or.inl ⟨by rfl, ?_⟩) (by assumption) ?_; rotate_left; (· (intro w0 hSw; obtain ⟨y0, y1, y2⟩ := HRD.out _ hSw; clear hSw; go_simp); first | done | with_reducible rfl); (try simp only [Act.put, List.getElem_toArray, List.getElem_cons_succ, List.getElem_cons_zero, List.setIfInBounds_toArray, List.set_cons_zero, List.set_cons_succ])
      refine wpAnyH_take (i := 12 ) (v := ?_) rfl (by kernel_rfl) (by kernel_rfl) (by kernel_rfl) (fun _ _ _ h => h) (Or.inl ⟨by rfl, ?_⟩) (by assumption) ?_; rotate_left; (· (intro w0 hSw; obtain ⟨y0, y1, y2⟩ := HRD.out _ hSw; clear hSw; go_simp); first | done | with_reducible rfl); (try simp only [Act.put, List.getElem_toArray, List.getElem_cons_succ, List.getElem_cons_zero, List.setIfInBounds_toArray, List.set_cons_zero, List.set_cons_succ])
      refine wpAnyH_take (i := 13 ) (v := ?_) rfl (by kernel_rfl) (by kernel_rfl) (by kernel_rfl) (fun _ _ _ h => h) (Or.inl ⟨by rfl, ?_⟩) (by assumption) ?_; rotate_left; (· (intro w0 hSw; obtain ⟨y0, y1, y2⟩ := HRD.out _ hSw; clear hSw; go_simp); first | done | with_reducible rfl); (try simp only [Act.put, List.getElem_toArray, List.getElem_cons_succ, List.getElem_cons_zero, List.setIfInBounds_toArray, List.set_cons_zero, List.set_cons_succ])
      refine wpAnyH_take (i := 14 ) (v := ?_) rfl (by kernel_rfl) (by kernel_rfl) (by kernel_rfl) (fun _ _ _ h => h) (Or.inl ⟨by rfl, ?_⟩) (by assumption) ?_; rotate_left; (· (intro w0 hSw; obtain ⟨y0, y1, y2⟩ := HRD.out _ hSw; clear hSw; go_simp); first | done | with_reducible rfl); (try simp only [Act.put, List.getElem_toArray, List.getElem_cons_succ, List.getElem_cons_zero, List.setIfInBounds_toArray, List.set_cons_zero, List.set_cons_succ])
      refine wpAnyH_take (i := 15 ) (v := ?_) rfl (by kernel_rfl) (by kernel_rfl) (by kernel_rfl) (fun _ _ _ h => h) (Or.inl ⟨by rfl, ?_⟩) (by assumption) ?_; rotate_left; (· (intro w0 hSw; obtain ⟨y0, y1, y2⟩ := HRD.out _ hSw; clear hSw; go_simp); first | done | with_reducible rfl); (try simp only [Act.put, List.getElem_toArray, List.getElem_cons_succ, List.getElem_cons_zero, List.setIfInBounds_toArray, List.set_cons_zero, List.set_cons_succ])
      refine wpAnyH_take (i := 16 ) (v := ?_) rfl (by kernel_rfl) (by kernel_rfl) (by kernel_rfl) (fun _ _ _ h => h) (Or.inl ⟨by rfl, ?_⟩) (by assumption) ?_; rotate_left; (· (intro w0 hSw; obtain ⟨y0, y1, y2⟩ := HRD.out _ hSw; clear hSw; go_simp); first | done | with_reducible rfl); (try simp only [Act.put, List.getElem_toArray, List.getElem_cons_succ, List.getElem_cons_zero, List.setIfInBounds_toArray, List.set_cons_zero, List.set_cons_succ])
      refine wpAnyH_take (i := 17 ) (v := ?_) rfl (by kernel_rfl) (by kernel_rfl) (by kernel_rfl) (fun _ _ _ h => h) (Or.inl ⟨by rfl, ?_⟩) (by assumption) ?_; rotate_left; (· (intro w0 hSw; obtain ⟨y0, y1, y2⟩ := HRD.out _ hSw; clear hSw; go_simp); first | done | with_reducible rfl); (try simp only [Act.put, List.getElem_toArray, List.getElem_cons_succ, List.getElem_cons_zero, List.setIfInBounds_toArray, List.set_cons_zero, List.set_cons_succ])
      refine wpAnyH_take (i := 18 ) (v := ?_) rfl (by kernel_rfl) (by kernel_rfl) (by kernel_rfl) (fun _ _ _ h => h) (Or.inl ⟨by rfl, ?_⟩) (by assumption) ?_; rotate_left; (· (intro w0 hSw; obtain ⟨y0, y1, y2⟩ := HRD.out _ hSw; clear hSw; go_simp); first | done | with_reducible rfl); (try simp only [Act.put, List.getElem_toArray, List.getElem_cons_succ, List.getElem_cons_zero, List.setIfInBounds_toArray, List.set_cons_zero, List.set_cons_succ])
      refine wpAnyH_take (i := 19 ) (v := ?_) rfl (by kernel_rfl) (by kernel_rfl) (by kernel_rfl) (fun _ _ _ h => h) (Or.inl ⟨by rfl, ?_⟩) (by assumption) ?_; rotate_left; (· (intro w0 hSw; obtain ⟨y0, y1, y2⟩ := HRD.out _ hSw; clear hSw; go_simp); first | done | with_reducible rfl); (try simp only [Act.put, List.getElem_toArray, List.getElem_cons_succ, List.getElem_cons_zero, List.setIfInBounds_toArray, List.set_cons_zero, List.set_cons_succ])
      refine wpAnyH_take (i := 20 ) (v := ?_) rfl (by kernel_rfl) (by kernel_rfl) (by kernel_rfl) (fun _ _ _ h => h) (Or.inl ⟨by rfl, ?_⟩) (by assumption) ?_; rotate_left; (· (intro w0 hSw; obtain ⟨y0, y1, y2⟩ := HRD.out _ hSw; clear hSw; go_simp); first | done | with_reducible rfl); (try simp only [Act.put, List.getElem_toArray, List.getElem_cons_succ, List.getElem_cons_zero, List.setIfInBounds_toArray, List.set_cons_zero, List.set_cons_succ])
      refine wpAnyH_take (i := 21 ) (v := ?_) rfl (by kernel_rfl) (by kernel_rfl) (by kernel_rfl) (fun _ _ _ h => h) (Or.inl ⟨by rfl, ?_⟩) (by assumption) ?_; rotate_left; (· (intro w0 hSw; obtain ⟨y0, y1, y2⟩ := HRD.out _ hSw; clear hSw; go_simp); first | done | with_reducible rfl); (try simp only [Act.put, List.getElem_toArray, List.getElem_cons_succ, List.getElem_cons_zero, List.setIfInBounds_toArray, List.set_cons_zero, List.set_cons_succ])
      refine wpAnyH_take (i := 22 ) (v := ?_) rfl (by kernel_rfl) (by kernel_rfl) (by kernel_rfl) (fun _ _ _ h => h) (Or.inl ⟨by rfl, ?_⟩) (by assumption) ?_; rotate_left; (· (intro w0 hSw; obtain ⟨y0, y1, y2⟩ := HRD.out _ hSw; clear hSw; go_simp); first | done | with_reducible rfl); (try simp only [Act.put, List.getElem_toArray, List.getElem_cons_succ, List.getElem_cons_zero, List.setIfInBounds_toArray, List.set_cons_zero, List.set_cons_succ])
      refine wpAnyH_take (i := 23 ) (v := ?_) rfl (by kernel_rfl) (by kernel_rfl) (by kernel_rfl) (fun _ _ _ h => h) (Or.inl ⟨by rfl, ?_⟩) (by assumption) ?_; rotate_left; (· (intro w0 hSw; obtain ⟨y0, y1, y2⟩ := HRD.out _ hSw; clear hSw; go_simp); first | done | with_reducible rfl); (try simp only [Act.put, List.getElem_toArray, List.getElem_cons_succ, List.getElem_cons_zero, List.setIfInBounds_toArray, List.set_cons_zero, List.set_cons_succ])
      refine wpAnyH_take (i := 24 ) (v := ?_) rfl (by kernel_rfl) (by kernel_rfl) (by kernel_rfl) (fun _ _ _ h => h) (Or.inl ⟨by rfl, ?_⟩) (by assumption) ?_; rotate_left; (· (intro w0 hSw; obtain ⟨y0, y1, y2⟩ := HRD.out _ hSw; clear hSw; go_simp); first | done | with_reducible rfl); (try simp only [Act.put, List.getElem_toArray, List.getElem_cons_succ, List.getElem_cons_zero, List.setIfInBounds_toArray, List.set_cons_zero, List.set_cons_succ])
      refine wpAnyH_take (i := 25 ) (v := ?_) rfl (by kernel_rfl) (by kernel_rfl) (by kernel_rfl) (fun _ _ _ h => h) (Or.inl ⟨by rfl, ?_⟩) (by assumption) ?_; rotate_left; (· (intro w0 hSw; obtain ⟨y0, y1, y2⟩ := HRD.out _ hSw; clear hSw; go_simp); first | done | with_reducible rfl); (try simp only [Act.put, List.getElem_toArray, List.getElem_cons_succ, List.getElem_cons_zero, List.setIfInBounds_toArray, List.set_cons_zero, List.set_cons_succ])
      refine wpAnyH_take (i := 26 ) (v := ?_) rfl (by kernel_rfl) (by kernel_rfl) (by kernel_rfl) (fun _ _ _ h => h) (Or.inl ⟨by rfl, ?_⟩) (by assumption) ?_; rotate_left; (· (intro w0 hSw; obtain ⟨y0, y1, y2⟩ := HRD.out _ hSw; clear hSw; go_simp); first | done | with_reducible rfl); (try simp only [Act.put, List.getElem_toArray, List.getElem_cons_succ, List.getElem_cons_zero, List.setIfInBounds_toArray, List.set_cons_zero, List.set_cons_succ])
      refine wpAnyH_take (i := 27 ) (v := ?_) rfl (by kernel_rfl) (by kernel_rfl) (by kernel_rfl) (fun _ _ _ h => h) (Or.inl ⟨by rfl, ?_⟩) (by assumption) ?_; rotate_left; (· (intro w0 hSw; obtain ⟨y0, y1, y2⟩ := HRD.out _ hSw; clear hSw; go_simp); first | done | with_reducible rfl); (try simp only [Act.put, List.getElem_toArray, List.getElem_cons_succ, List.getElem_cons_zero, List.setIfInBounds_toArray, List.set_cons_zero, List.set_cons_succ])
      refine wpAnyH_take (i := 28 ) (v := ?_) rfl (by kernel_rfl) (by kernel_rfl) (by kernel_rfl) (fun _ _ _ h => h) (Or.inl ⟨by rfl, ?_⟩) (by assumption) ?_; rotate_left; (· (intro w0 hSw; obtain ⟨y0, y1, y2⟩ := HRD.out _ hSw; clear hSw; go_simp); first | done | with_reducible rfl); (try simp only [Act.put, List.getElem_toArray, List.getElem_cons_succ, List.getElem_cons_zero, List.setIfInBounds_toArray, List.set_cons_zero, List.set_cons_succ])
      refine wpAnyH_take (i := 29 ) (v := ?_) rfl (by kernel_rfl) (by kernel_rfl) (by kernel_rfl) (fun _ _ _ h => h) (Or.inl ⟨by rfl, ?_⟩) (by assumption) ?_; rotate_left; (· (intro w0 hSw; obtain ⟨y0, y1, y2⟩ := HRD.out _ hSw; clear hSw; go_simp); first | done | with_reducible rfl); (try simp only [Act.put, List.getElem_toArray, List.getElem_cons_succ, List.getElem_cons_zero, List.setIfInBounds_toArray, List.set_cons_zero, List.set_cons_succ])
      refine wpAnyH_take (i := 30 ) (v := ?_) rfl (by kernel_rfl) (by kernel_rfl) (by kernel_rfl) (fun _ _ _ h => h) (Or.inl ⟨by rfl, ?_⟩) (by assumption) ?_; rotate_left; (· (intro w0 hSw; obtain ⟨y0, y1, y2⟩ := HRD.out _ hSw; clear hSw; go_simp); first | done | with_reducible rfl); (try simp only [Act.put, List.getElem_toArray, List.getElem_cons_succ, List.getElem_cons_zero, List.setIfInBounds_toArray, List.set_cons_zero, List.set_cons_succ])
      refine wpAnyH_take (i := 31 ) (v := ?_) rfl (by kernel_rfl) (by kernel_rfl) (by kernel_rfl) (fun _ _ _ h => h) (Or.inl ⟨by rfl, ?_⟩) (by assumption) ?_; rotate_left; (· (intro w0 hSw; obtain ⟨y0, y1, y2⟩ := HRD.out _ hSw; clear hSw; go_simp); first | done | with_reducible rfl); (try simp only [Act.put, List.getElem_toArray, List.getElem_cons_succ, List.getElem_cons_zero, List.setIfInBounds_toArray, List.set_cons_zero, List.set_cons_succ])
      refine wpAnyH_take (i := 32 ) (v := ?_) rfl (by kernel_rfl) (by kernel_rfl) (by kernel_rfl) (fun _ _ _ h => h) (Or.inl ⟨by rfl, ?_⟩) (by assumption) ?_; rotate_left; (· (intro w0 hSw; obtain ⟨y0, y1, y2⟩ := HRD.out _ hSw; clear hSw; go_simp); first | done | with_reducible rfl); (try simp only [Act.put, List.getElem_toArray, List.getElem_cons_succ, List.getElem_cons_zero, List.setIfInBounds_toArray, List.set_cons_zero, List.set_cons_succ])
      refine wpAnyH_take (i := 33 ) (v := ?_) rfl (by kernel_rfl) (by kernel_rfl) (by kernel_rfl) (fun _ _ _ h => h) (Or.inl ⟨by rfl, ?_⟩) (by assumption) ?_; rotate_left; (· (intro w0 hSw; obtain ⟨y0, y1, y2⟩ := HRD.out _ hSw; clear hSw; go_simp); first | done | with_reducible rfl); (try simp only [Act.put, List.getElem_toArray, List.getElem_cons_succ, List.getElem_cons_zero, List.setIfInBounds_toArray, List.set_cons_zero, List.set_cons_succ])
      refine wpAnyH_take (i := 34 ) (v := ?_) rfl (by kernel_rfl) (by kernel_rfl) (by kernel_rfl) (fun _ _ _ h => h) (Or.inl ⟨by rfl, ?_⟩) (by assumption) ?_; rotate_left; (· (intro w0 hSw; obtain ⟨y0, y1, y2⟩ := HRD.out _ hSw; clear hSw; go_simp); first | done | with_reducible rfl); (try simp only [Act.put, List.getElem_toArray, List.getElem_cons_succ, List.getElem_cons_zero, List.setIfInBounds_toArray, List.set_cons_zero, List.set_cons_succ])
      refine wpAnyH_take (i := 35 ) (v := ?_) rfl (by kernel_rfl) (by kernel_rfl) (by kernel_rfl) (fun _ _ _ h => h) (Or.inl ⟨by rfl, ?_⟩) (by assumption) ?_; rotate_left; (· (intro w0 hSw; obtain ⟨y0, y1, y2⟩ := HRD.out _ hSw; clear hSw; go_simp); first | done | with_reducible rfl); (try simp only [Act.put, List.getElem_toArray, List.getElem_cons_succ, List.getElem_cons_zero, List.setIfInBounds_toArray, List.set_cons_zero, List.set_cons_succ])
      refine wpAnyH_done (by kernel_rfl) ?_ _
      have HX := Lib.hid (And.intro (HK.out.1.trans (HD.out.mono HK.out.1.size)) (HK.out.2.below HD.out HK.out.2.lt))
      clear HD HK hH0 hH1 k1 k2 k3 k4 k5 HRD
      have HFL := Lib.hid (fill_any _ A (some ⟨gb, offb, none⟩) c d need l b hn hl (HA.out.on HX.out.1 (Nat.le_refl _)) (HB.out.on HX.out.1 (Nat.le_refl _)))
      go_wp2_with fail
      refine HFL.out.mono ?_
      rintro e V8 ⟨A3, c3, rfl, hr3, hb3⟩
      rw [HFL0.out] at *
      dsimp only at *
      replace HX := Lib.hid (And.intro (HX.out.1.trans (hb3.mono HX.out.1.size)) (HX.out.2.below hb3 HX.out.2.lt))
      have HGD := Lib.hid (good_any V8 A (some ⟨gb, offb, none⟩) A3 c d c3 need l b (fillT need l b) hc8 HN48.out HP.out hbb HGP.out (HA.out.on HX.out.1 (Nat.le_refl _)) (HB.out.on HX.out.1 (Nat.le_refl _)) hr3)
      have hOlen : (fillT need l b).length = l.length := fill_len _ _ _
      have HOL := Lib.hid hOlen
      have HUA : Hid (∀ h : p < ((fillT need l b).map List.sum).length, ((fillT need l b).map List.sum)[p] = ((fillT need l b).getD p []).sum) := Lib.hid fun h => by
        rw [List.length_map] at h
        rw [List.getElem_map, List.getD_eq_getElem?_getD, List.getElem?_eq_getElem h, Option.getD_some]
      clear hr3 hb3 HFL HFL0 HGP hOlen
      generalize fillT need l b = O at *
      go_wp2_with fail
      refine HGD.out.mono ?_
      rintro e V9 ⟨A4, c4, rfl, hs4, hb4⟩
      replace HX := Lib.hid (And.intro (HX.out.1.trans (hb4.mono HX.out.1.size)) (HX.out.2.below hb4 HX.out.2.lt))
      obtain ⟨g4, off4, rfl, hg4, hat4⟩ := hs4 (by intro e; have := congrArg List.length e; rw [List.length_map, HOL.out, List.length_nil] at this; omega)
      have hpm4 : p < (O.map List.sum).length := by rw [List.length_map, HOL.out]; exact hp
      have u0 := hat4 p hpm4
      rw [HUA.out hpm4] at u0
      have hpO : (p : Int) < O.length := by rw [HOL.out]; omega
      have c0 := HX.out.2.cell 0
      have c1 := HX.out.2.cell 1
      have k6 : ¬ (O.getD p []).sum < lo := by omega
      have k7 : ¬ hi < (O.getD p []).sum := by omega
      clear hb4 hs4 hat4 HGD hpm4 HUA hulo huhi
      generalize (O.getD p []).sum = us at *
      have k8 : decide (us < lo) = false := decide_eq_false k6
      have k9 : decide (hi < us) = false := decide_eq_false k7
      go_upto_region 10 with fail
      go_quiet (fail)
      have HX2 := Lib.hid (And.intro (below_drewN HX.out.1 nq) (HX.out.2.below (below_drewN (Below.refl _ _) nq) HX.out.2.lt))
      clear u0 c0 c1 HX
      generalize World.drewN V9 _ = VB at *
      obtain ⟨i0, hi, hz0, hz1, hz2⟩ := info9 pileInfo9
      have HI := Lib.hid (And.intro hi (And.intro hz0 (And.intro hz1 hz2)))
      clear hi hz0 hz1 hz2
      have HNW : Hid (∀ W, Below VB.heap.size VB W → ∀ (j : Nat) u, (pileV l)[j]? = some u → W.cell? ((⟨gb, offb, none⟩ : Addr).add j) = some u) := Lib.hid fun W hW => pile_cells9 ((HAT.out.below HX2.out.1 hgb).below hW (Nat.lt_of_lt_of_le hgb HX2.out.1.size))
      have HFS : Hid (∀ W g cap x, PileSl W W.heap.size (some ⟨g, 0, none⟩) (l.set p ⟨l[p].shades, x⟩) → IntSl W W.heap.size A need → Calls Try.prog 17 #[.slice A need.length c, .slice (some ⟨g, 0, none⟩) l.length cap, .int .i64 b] W fun e w' => ∃ A' f' c', e = .returned (.tuple #[.slice A' f' c', .int .i64 (fillA need (l.set p ⟨l[p].shades, x⟩) b).2]) ∧ Below W.heap.size W w') := Lib.hid fun W g cap x h1 h2 => by
        have h9 := fill_any W A (some ⟨g, 0, none⟩) c cap need (l.set p ⟨l[p].shades, x⟩) b hn (by rw [List.length_set]; exact hl) h2 h1
        rw [List.length_set] at h9
        refine h9.mono ?_
        rintro e w' ⟨A', c', rfl, -, hb⟩
        exact ⟨A', _, c', rfl, hb⟩
      have HFA : Hid ((fillA need (l.set p ⟨l[p].shades, lo⟩) b).2 = 0 ∧ (0 < lo → (fillA need (l.set p ⟨l[p].shades, lo - 1⟩) b).2 = 10)) := Lib.hid ⟨by
        unfold fillA; rw [if_pos (err_zero HU.out.fewok hbb.1 hbb.2), if_pos HU.out.few], fun h => by
        unfold fillA; rw [if_pos (err_zero (HU.out.lessok h).1 hbb.1 hbb.2), if_neg (by rw [(HU.out.lessok h).2]; simp)]⟩
      have HPV : Hid (∀ x, (pileV l).set (p * 2 + 1) (.int .i64 x) = pileV (l.set p ⟨l[p].shades, x⟩)) := Lib.hid fun x => pileV_set x l p hp
      have HPV2 : Hid (∀ x y, (pileV (l.set p ⟨l[p].shades, y⟩)).set (p * 2 + 1) (.int .i64 x) = pileV (l.set p ⟨l[p].shades, x⟩)) := Lib.hid fun x y => by
        have h9 := pileV_set x (l.set p ⟨l[p].shades, y⟩) p (by rw [List.length_set]; exact hp)
        rw [h9, List.getElem_set_self, List.set_set]
      have HZ0 := Lib.hid (own_zero9 (t := 46) VB VB.heap.size (Nat.le_refl _) 2)
      have HB0 := Lib.hid (show Below VB.heap.size VB (VB.alloc (.cells #[] 46)) from (Below.refl _ _).alloc (Nat.le_refl _) _)
      go_upto_region 13 with (at_builtin; refine wpList_append_own _ rfl _ _ 23 rfl VB.heap.size 46 i0 _ 2 16 und_piles9 HI.out.1 HI.out.2.1 HI.out.2.2.1 HI.out.2.2.2 rfl (by decide) (.slice (some ⟨VB.heap.size, 0, none⟩) 0 0) 0 [] rfl HZ0.out ⟨gb, offb, none⟩ l.length d (pileV l) rfl (pileV_len l) (HNW.out _ HB0.out) (pileV_one l) (by unfold maxLen; omega) (by omega) (by simp) ?_; intro v' w2 hown hgr hnn; clear hnn; have HO := Lib.hid hown; have HG := Lib.hid hgr; clear hown hgr)
      have HB2 : Hid (Below VB.heap.size VB w2) := Lib.hid (Below.grown HB0.out HG.out (by simp) fun j e => (HZ0.out.lt j e).1)
      rw [Nat.zero_add, List.nil_append] at HO
      obtain ⟨g15, cap15, rfl, h15a, h15b⟩ := own_g9 HO.out (by omega)
      have hgug : gu < VB.heap.size := HX2.out.2.lt
      have HX3 := Lib.hid (And.intro (HX2.out.1.trans (HB2.out.mono HX2.out.1.size)) (HX2.out.2.below HB2.out HX2.out.2.lt))
      have c5 : w2.cell? ⟨g15, p * 2 + 1, none⟩ = some (.int .i64 mn) := by rw [HO.out.cellAt _ (by omega), (pileV_at l p hp).2, hmn]
      have c6 := HO.out.frozenAt (p * 2 + 1)
      have c0 := HX3.out.2.cell 0
      have hwB : w.heap.size ≤ VB.heap.size := HX2.out.1.size
      have HX4 : Hid (Below w.heap.size w (w2.setCell ⟨g15, p * 2 + 1, none⟩ (.int .i64 lo)) ∧ Blk (w2.setCell ⟨g15, p * 2 + 1, none⟩ (.int .i64 lo)) gu 35 #[.int .i64 lo, .int .i64 hi]) := Lib.hid ⟨HX3.out.1.setCell (p := ⟨g15, _, none⟩) (by simp only []; omega) _, HX3.out.2.far (by simp only []; omega) _⟩
      have HO4 : Hid ((w2.setCell ⟨g15, p * 2 + 1, none⟩ (.int .i64 lo)).ownsRow VB.heap.size 46 2 (.slice (some ⟨g15, 0, none⟩) l.length cap15) l.length (pileV (l.set p ⟨l[p].shades, lo⟩))) := Lib.hid (by have := (HO.out.stored (p * 2 + 1) (.int .i64 lo)).1; rwa [HPV.out] at this)
      clear HO HG HB2 HX2 HX3 HZ0 HB0 HNW HPV
      go_upto_region 14 with fail
      clear c5 c6 c0
      generalize World.setCell w2 _ _ = VC at *
      have HFC := Lib.hid (HFS.out VC g15 cap15 lo (own_piles9 HO4.out List.length_set) (HA.out.on HX4.out.1 (Nat.le_refl _)))
      rw [HFA.out.1] at HFC
      go_wp2_with fail
      refine HFC.out.mono ?_
      rintro e VD ⟨A5, f5, c5', rfl, hb5⟩
      have HX5 := Lib.hid (And.intro (HX4.out.1.trans (hb5.mono HX4.out.1.size)) (HX4.out.2.below hb5 HX4.out.2.lt))
      have HO5 := Lib.hid (own_low9 HO4.out hb5)
      clear hb5 HFC HX4 HO4
      have c0 := HX5.out.2.cell 0
      by_cases hlp : 0 < lo
      · have c7 : VD.cell? ⟨g15, p * 2 + 1, none⟩ = some (.int .i64 lo) := by
          rw [HO5.out.cellAt _ (by omega), (pileV_at (l.set p ⟨l[p].shades, lo⟩) p (by rw [List.length_set]; exact hp)).2, List.getElem_set_self]
        have c8 := HO5.out.frozenAt (p * 2 + 1)
        have hwl : IntKind.i64.wrap (lo - 1) = lo - 1 := IntWalk.i64_in _ ⟨by omega, by omega⟩
        have HX6 : Hid (Below w.heap.size w (VD.setCell ⟨g15, p * 2 + 1, none⟩ (.int .i64 (lo - 1))) ∧ Blk (VD.setCell ⟨g15, p * 2 + 1, none⟩ (.int .i64 (lo - 1))) gu 35 #[.int .i64 lo, .int .i64 hi]) := Lib.hid ⟨HX5.out.1.setCell (p := ⟨g15, _, none⟩) (by simp only []; omega) _, HX5.out.2.far (by simp only []; omega) _⟩
        have HO6 : Hid ((VD.setCell ⟨g15, p * 2 + 1, none⟩ (.int .i64 (lo - 1))).ownsRow VB.heap.size 46 2 (.slice (some ⟨g15, 0, none⟩) l.length cap15) l.length (pileV (l.set p ⟨l[p].shades, lo - 1⟩))) := Lib.hid (by have := (HO5.out.stored (p * 2 + 1) (.int .i64 (lo - 1))).1; rwa [HPV2.out] at this)
        clear HX5 HO5
        go_upto_region 19 with fail
        clear c7 c8 c0
        generalize World.setCell VD _ _ = VF at *
        have HFC := Lib.hid (HFS.out VF g15 cap15 (lo - 1) (own_piles9 HO6.out List.length_set) (HA.out.on HX6.out.1 (Nat.le_refl _)))
        rw [HFA.out.2 hlp] at HFC
        go_wp2_with fail
        refine HFC.out.mono ?_
        rintro e VE ⟨A7, f7, c7', rfl, hb7⟩
        have HX7 := Lib.hid (And.intro (HX6.out.1.trans (hb7.mono HX6.out.1.size)) (HX6.out.2.below hb7 HX6.out.2.lt))
        clear hb7 HFC HX6 HO6 hwl
        as_aux_lemma =>
          clear HFS HFA HPV2
          have hsh1 := (HAT.out.below HX7.out.1 hgb p hp).1
          have hsh2 := (HAT.out.below HX7.out.1 hgb p hp).2
          rw [hmn] at hsh2
          have HNW : Hid (∀ W, Below VE.heap.size VE W → ∀ (j : Nat) u, (pileV (l.take p))[j]? = some u → W.cell? ((⟨gb, offb, none⟩ : Addr).add j) = some u) := Lib.hid fun W hW => pile_cells9 (piles_take ((HAT.out.below HX7.out.1 hgb).below hW (Nat.lt_of_lt_of_le hgb HX7.out.1.size)) p)
          have HNX : Hid (∀ W, Below VE.heap.size VE W → ∀ (j : Nat) u, (pileV (l.drop (p + 1)))[j]? = some u → W.cell? ((⟨gb, offb + (p + 1) * 2, none⟩ : Addr).add j) = some u) := Lib.hid fun W hW => pile_cells9 (piles_drop ((HAT.out.below HX7.out.1 hgb).below hW (Nat.lt_of_lt_of_le hgb HX7.out.1.size)) (p + 1))
          have HFRS : Hid ((#[Value.int .i64 l[p].shades, .int .i64 mn] : Array Value).toList ++ pileV (l.take p) ++ pileV (l.drop (p + 1)) = pileV (frontP l p hp)) := Lib.hid (by
            unfold frontP
            rw [← hmn]
            have : ∀ (a b : List Pile), pileV (a ++ b) = pileV a ++ pileV b := by
              intro a b
              induction a with
              | nil => rfl
              | cons q a ih => simp only [List.cons_append, pileV, ih]
            rw [pileV, this]
            rfl)
          have HRD : Hid (∀ W9, Below VE.heap.size VE W9 → W9.cell? ⟨gb, offb + p * 2, none⟩ = some (.int .i64 l[p].shades) ∧ W9.cell? ⟨gb, offb + p * 2 + 1, none⟩ = some (.int .i64 mn)) := Lib.hid fun W9 h9 => ⟨(h9.cell (p := ⟨gb, _, none⟩) (Nat.lt_of_lt_of_le hgb HX7.out.1.size)).trans hsh1, (h9.cell (p := ⟨gb, _, none⟩) (Nat.lt_of_lt_of_le hgb HX7.out.1.size)).trans hsh2⟩
          have hpd : (p : Int) ≤ d := by omega
          have hpl : (p : Int) + 1 ≤ l.length := by omega
          have hll9 : (l.length : Int) ≤ d := by omega
          have hld : (l.length : Int) ≤ 9223372036854775807 := by omega
          have HD := Lib.hid ((Below.refl VE.heap.size VE).drew)
          clear hsh1 hsh2
          generalize l[p].shades = sh at *
          go_upto_region 22 with fail
          try clear c0
          refine wp_region_held_drew (S := fun W9 => Below VE.heap.size VE W9) (by kernel_rfl) HD.out (fun hH0 => ?_)
          generalize World.drew _ = V0 at *
          simp only [List.size_toArray, List.length_cons, List.length_nil, Nat.reduceAdd, Array.replicate_succ, Array.replicate_zero, List.push_toArray, List.nil_append, List.cons_append]
          refine wpAnyH_take (i := 0 ) (v := ?_) rfl (by kernel_rfl) (by kernel_rfl) (by kernel_rfl) (fun _ _ _ h => h) (Or.inl ⟨by rfl, ?_⟩) (by assumption) ?_; rotate_left; (· (intro w0 hSw; obtain ⟨y0, y1⟩ := HRD.out _ hSw; clear hSw; go_simp); first | done | with_reducible rfl); (try simp only [Act.put, List.getElem_toArray, List.getElem_cons_zero, List.setIfInBounds_toArray, List.set_cons_zero, List.set_cons_succ])
          refine wpAnyH_take (i := 1 ) (v := ?_) rfl (by kernel_rfl) (by kernel_rfl) (by kernel_rfl) (fun _ _ _ h => h) (Or.inl ⟨by rfl, ?_⟩) (by assumption) ?_; rotate_left; (· (intro w0 hSw; obtain ⟨y0, y1⟩ := HRD.out _ hSw; clear hSw; go_simp); first | done | with_reducible rfl); (try simp only [Act.put, List.getElem_toArray, List.getElem_cons_succ, List.getElem_cons_zero, List.setIfInBounds_toArray, List.set_cons_zero, List.set_cons_succ])
          refine wpAnyH_take (i := 2 ) (v := ?_) rfl (by kernel_rfl) (by kernel_rfl) (by kernel_rfl) (fun _ _ _ h => h) (Or.inl ⟨by rfl, ?_⟩) (by assumption) ?_; rotate_left; (· (intro w0 hSw; obtain ⟨y0, y1⟩ := HRD.out _ hSw; clear hSw; go_simp); first | done | with_reducible rfl); (try simp only [Act.put, List.getElem_toArray, List.getElem_cons_succ, List.getElem_cons_zero, List.setIfInBounds_toArray, List.set_cons_zero, List.set_cons_succ])
          refine wpAnyH_take (i := 3 ) (v := ?_) rfl (by kernel_rfl) (by kernel_rfl) (by kernel_rfl) (fun _ _ _ h => h) (Or.inl ⟨by rfl, ?_⟩) (by assumption) ?_; rotate_left; (· (intro w0 hSw; obtain ⟨y0, y1⟩ := HRD.out _ hSw; clear hSw; go_simp); first | done | with_reducible rfl); (try simp only [Act.put, List.getElem_toArray, List.getElem_cons_succ, List.getElem_cons_zero, List.setIfInBounds_toArray, List.set_cons_zero, List.set_cons_succ])
          refine wpAnyH_take (i := 5 ) (v := ?_) rfl (by kernel_rfl) (by kernel_rfl) (by kernel_rfl) (fun _ _ _ h => h) (Or.inl ⟨by rfl, ?_⟩) (by assumption) ?_; rotate_left; (· (intro w0 hSw; obtain ⟨y0, y1⟩ := HRD.out _ hSw; clear hSw; go_simp); first | done | with_reducible rfl); (try simp only [Act.put, List.getElem_toArray, List.getElem_cons_succ, List.getElem_cons_zero, List.setIfInBounds_toArray, List.set_cons_zero, List.set_cons_succ])
          refine wpAnyH_take (i := 6 ) (v := ?_) rfl (by kernel_rfl) (by kernel_rfl) (by kernel_rfl) (fun _ _ _ h => h) (Or.inl ⟨by rfl, ?_⟩) (by assumption) ?_; rotate_left; (· (intro w0 hSw; obtain ⟨y0, y1⟩ := HRD.out _ hSw; clear hSw; go_simp); first | done | with_reducible rfl); (try simp only [Act.put, List.getElem_toArray, List.getElem_cons_succ, List.getElem_cons_zero, List.setIfInBounds_toArray, List.set_cons_zero, List.set_cons_succ])
          refine wpAnyH_take (i := 7 ) (v := ?_) rfl (by kernel_rfl) (by kernel_rfl) (by kernel_rfl) (fun _ _ _ h => h) (Or.inl ⟨by rfl, ?_⟩) (by assumption) ?_; rotate_left; (· (intro w0 hSw; obtain ⟨y0, y1⟩ := HRD.out _ hSw; clear hSw; go_simp); first | done | with_reducible rfl); (try simp only [Act.put, List.getElem_toArray, List.getElem_cons_succ, List.getElem_cons_zero, List.setIfInBounds_toArray, List.set_cons_zero, List.set_cons_succ])
          refine wpAnyH_ready (rs := [4]) (by kernel_rfl) (by simp) ?_
          refine AllReadyH.cons (by simp only [List.getElem?_toArray, List.getElem?_cons_succ, List.getElem?_cons_zero]; rfl) (fun K hK => ?_) AllReadyH.nil
          rw [if_pos (by rfl)]
          refine wp_bs 23 46 1 _ (by rfl) #[.int .i64 sh, .int .i64 mn] [.agg #[.int .i64 sh, .int .i64 mn]] (.agg #[.int .i64 0, .int .i64 0]) 2 (by kernel_rfl) (by kernel_rfl) (by decide) (by rfl) (by rfl) (by rfl) (by rfl) ?_
          simp only [Act.put, List.setIfInBounds_toArray, List.set_cons_zero, List.set_cons_succ]
          have HO := Lib.hid (World.ownsRow_lit (base := VE.heap.size) (e := 46) (size := 2) V0 #[.int .i64 sh, .int .i64 mn] 1 HD.out.size (by unfold maxLen; omega) (by rfl))
          replace HD := Lib.hid (HD.out.alloc HD.out.size (.cells #[.int .i64 sh, .int .i64 mn] 46))
          generalize hV1 : World.alloc V0 _ = V1 at *
          clear hV1
          refine hK.out _ _ HD.out (fun hH1 => ?_)
          clear hK K
          try simp only [List.setIfInBounds_toArray, List.set_cons_zero, List.set_cons_succ]
          refine wpAnyH_ready (rs := [8]) (by kernel_rfl) (by simp) ?_
          refine AllReadyH.cons (by simp only [List.getElem?_toArray, List.getElem?_cons_succ, List.getElem?_cons_zero]; rfl) (fun K hK => ?_) AllReadyH.nil
          rw [if_pos (by rfl)]
          refine wp_append_own _ _ _ 23 (by rfl) VE.heap.size 46 i0 _ 2 16 und_piles9 HI.out.1 HI.out.2.1 HI.out.2.2.1 HI.out.2.2.2 rfl (by decide) (.slice (some ⟨V0.heap.size, 0, none⟩) 1 1) 1 _ (by rfl) HO.out ⟨gb, offb, none⟩ p d (pileV (l.take p)) (by rfl) (by rw [pileV_len, List.length_take, Nat.min_eq_left (Nat.le_of_lt hp)]) (HNW.out V1 HD.out) (pileV_one _) (by unfold maxLen; omega) (by omega) HD.out.size ?_
          intro v1 V2 hown hgr hnn
          clear hnn
          simp only [Act.put, List.setIfInBounds_toArray, List.set_cons_zero, List.set_cons_succ]
          replace HD := Lib.hid (Below.grown HD.out hgr HD.out.size fun j e => (HO.out.lt j e).1)
          replace HO := Lib.hid hown
          clear hown hgr
          refine hK.out _ _ HD.out (fun hH2 => ?_)
          clear hK K
          try simp only [List.setIfInBounds_toArray, List.set_cons_zero, List.set_cons_succ]
          refine wpAnyH_take (i := 9 ) (v := ?_) rfl (by kernel_rfl) (by kernel_rfl) (by kernel_rfl) (fun _ _ _ h => h) (Or.inl ⟨by rfl, ?_⟩) (by assumption) ?_; rotate_left; (· (intro w0 hSw; obtain ⟨y0, y1⟩ := HRD.out _ hSw; clear hSw; go_simp); first | done | with_reducible rfl); (try simp only [Act.put, List.getElem_toArray, List.getElem_cons_succ, List.getElem_cons_zero, List.setIfInBounds_toArray, List.set_cons_zero, List.set_cons_succ])
          refine wpAnyH_done (by kernel_rfl) ?_ _
          have HX8 := Lib.hid (And.intro (HX7.out.1.trans (HD.out.mono HX7.out.1.size)) (HX7.out.2.below HD.out HX7.out.2.lt))
          have HVE : Hid (w.heap.size ≤ VE.heap.size ∧ gu < VE.heap.size) := Lib.hid ⟨HX7.out.1.size, HX7.out.2.lt⟩
          have hwp : IntKind.i64.wrap ((p : Int) + 1) = (p : Int) + 1 := IntWalk.i64_in _ ⟨by omega, by omega⟩
          clear HX7 hH0 hH1 hH2 HNW HRD
          have HFW : Hid (∀ W g cap, PileSl W W.heap.size (some ⟨g, 0, none⟩) (frontP l p hp) → IntSl W W.heap.size A need → Calls Try.prog 17 #[.slice A need.length c, .slice (some ⟨g, 0, none⟩) l.length cap, .int .i64 b] W fun e w' => ∃ A' c', e = .returned (.tuple #[.slice A' l.length c', .int .i64 0]) ∧ RowSl w' A' (fillT need (frontP l p hp) b) ∧ Below W.heap.size W w') := Lib.hid fun W g cap h1 h2 => by
            have h9 := fill_any W A (some ⟨g, 0, none⟩) c cap need (frontP l p hp) b hn (by rw [front_len]; exact hl) h2 h1
            rw [front_len] at h9
            have e9 : fillA need (frontP l p hp) b = (fillT need (frontP l p hp) b, 0) := (if_pos (err_zero HU.out.frok hbb.1 hbb.2)).trans (if_pos HU.out.frcan)
            refine h9.mono ?_
            rintro e w' ⟨A', c', rfl, hr, hb⟩
            rw [e9] at *
            exact ⟨A', c', by rw [show (fillT need (frontP l p hp) b).length = l.length by rw [fill_len, front_len]], hr, hb⟩
          have HGW : Hid (∀ W g cap A' c', PileSl W W.heap.size (some ⟨g, 0, none⟩) (frontP l p hp) → IntSl W W.heap.size A need → RowSl W A' (fillT need (frontP l p hp) b) → Calls Try.prog 25 #[.slice A need.length c, .slice (some ⟨g, 0, none⟩) l.length cap, .int .i64 b, .slice A' l.length c'] W fun e w' => ∃ g' o' c9, e = .returned (.tuple #[.slice (some ⟨g', o', none⟩) l.length c9, .bool true]) ∧ g' < w'.heap.size ∧ w'.cell? ⟨g', o', none⟩ = some (.int .i64 hi) ∧ Below W.heap.size W w') := Lib.hid fun W g cap A' c' h1 h2 h3 => by
            have hO : (fillT need (frontP l p hp) b).length = l.length := by rw [fill_len, front_len]
            have h9 := good_any W A (some ⟨g, 0, none⟩) A' c cap c' need (frontP l p hp) b (fillT need (frontP l p hp) b) hc8 HN48.out (ok_in HU.out.frok).2.1 hbb (fill_good HU.out.frok hbb HU.out.frcan) h2 h1 h3
            rw [front_len, hO] at h9
            refine h9.mono ?_
            rintro e w' ⟨A2, c2, rfl, hs, hb⟩
            obtain ⟨g', o', rfl, hg', hat⟩ := hs (by intro e; have := congrArg List.length e; rw [List.length_map, hO, List.length_nil] at this; omega)
            have h0 := hat 0 (by rw [List.length_map, hO]; omega)
            refine ⟨g', o', c2, by rw [hO], hg', ?_, hb⟩
            rw [List.getElem_map] at h0
            have h8 := HU.out.frhi
            rw [List.getD_eq_getElem?_getD, List.getElem?_eq_getElem (by rw [hO]; omega), Option.getD_some] at h8
            rw [h8] at h0
            exact h0
          clear HU HOK HP HE0 HN48
          by_cases hd1 : d = p + 1
          · subst hd1
            have hlp1 : l.length = p + 1 := by omega
            have hdrop : l.drop (p + 1) = [] := by rw [← hlp1]; exact List.drop_length
            have HLN := Lib.hid (And.intro hlp1 hdrop)
            have HFR2 : Hid ((#[Value.int .i64 sh, .int .i64 mn] : Array Value).toList ++ pileV (l.take p) = pileV (frontP l p hp)) := Lib.hid (by have := HFRS.out; rwa [hdrop, show pileV [] = [] from rfl, List.append_nil] at this)
            clear hlp1 hdrop
            go_upto_region 24 with (at_builtin; refine wpList_append_own _ rfl _ _ 23 rfl VE.heap.size 46 i0 _ 2 16 und_piles9 HI.out.1 HI.out.2.1 HI.out.2.2.1 HI.out.2.2.2 rfl (by decide) v1 (1 + p) _ rfl HO.out ⟨gb, offb, none⟩ 0 0 [] rfl rfl (fun j u hj => by simp at hj) (fun u hu => by simp at hu) (by unfold maxLen; omega) (by omega) HD.out.size ?_; intro v' w2 hown hgr hnn; clear hnn; have HO7 := Lib.hid hown; have HG7 := Lib.hid hgr; clear hown hgr)
            rw [List.append_nil, HFR2.out, show 1 + p + 0 = l.length by rw [HLN.out.1]; omega] at HO7
            clear HFR2
            obtain ⟨g18, cap18, rfl, h18a, h18b⟩ := own_g9 HO7.out (by omega)
            have HB7 : Hid (Below V2.heap.size V2 w2 → True) := Lib.hid fun _ => trivial
            have HX9 : Hid (Below w.heap.size w w2 ∧ Blk w2 gu 35 #[.int .i64 lo, .int .i64 hi]) := Lib.hid ⟨Below.grown HX8.out.1 HG7.out (Nat.le_trans (Nat.le_trans HX8.out.1.size (Nat.le_refl _)) (Nat.le_refl _)) fun j e => by have := (HO.out.lt j e).1; have := HX8.out.1.size; have := HVE.out; omega, HX8.out.2.kept HG7.out fun e => by have := (HO.out.lt _ e.symm).1; have := HVE.out; omega⟩
            clear HB7 HO HG7 HX8 HD HNX HFRS
            have HPF := Lib.hid (own_piles9 HO7.out (front_len l p hp))
            have HFC := Lib.hid (HFW.out w2 g18 cap18 HPF.out (HA.out.on HX9.out.1 (Nat.le_refl _)))
            go_wp2_with fail
            refine HFC.out.mono ?_
            rintro e W3 ⟨A8, c8, rfl, hr8, hb8⟩
            have HX10 := Lib.hid (And.intro (HX9.out.1.trans (hb8.mono HX9.out.1.size)) (HX9.out.2.below hb8 HX9.out.2.lt))
            have HGC := Lib.hid (HGW.out W3 g18 cap18 A8 c8 (HPF.out.on hb8 (Nat.le_refl _)) (HA.out.on HX10.out.1 (Nat.le_refl _)) hr8)
            clear hr8 hb8 HFC HX9 HPF HO7
            go_wp2_with fail
            refine HGC.out.mono ?_
            rintro e W4 ⟨g20, o20, c20, rfl, hg20, hc20, hb9⟩
            have HX11 := Lib.hid (And.intro (HX10.out.1.trans (hb9.mono HX10.out.1.size)) (HX10.out.2.below hb9 HX10.out.2.lt))
            have HRD : Hid (∀ W9, Below W4.heap.size W4 W9 → W9.cell? ⟨g20, o20, none⟩ = some (.int .i64 hi) ∧ W9.cell? ⟨gu, 1, none⟩ = some (.int .i64 hi)) := Lib.hid fun W9 h9 => ⟨(h9.cell (p := ⟨g20, o20, none⟩) hg20).trans hc20, (HX11.out.2.below h9 HX11.out.2.lt).cell 1⟩
            have hl1 : 0 < l.length := by omega
            clear hb9 HGC HX10 hc20
            go_upto_region 26 with fail
            have HD := Lib.hid ((Below.refl W4.heap.size W4).drew)
            refine wp_region_held_drew (S := fun W9 => Below W4.heap.size W4 W9) (by kernel_rfl) HD.out (fun hH0 => ?_)
            generalize World.drew _ = V0 at *
            simp only [List.size_toArray, List.length_cons, List.length_nil, Nat.reduceAdd, Array.replicate_succ, Array.replicate_zero, List.push_toArray, List.nil_append, List.cons_append]
            refine wpAnyH_take (i := 0 ) (v := ?_) rfl (by kernel_rfl) (by kernel_rfl) (by kernel_rfl) (fun _ _ _ h => h) (Or.inl ⟨by rfl, ?_⟩) (by assumption) ?_; rotate_left; (· (intro w0 hSw; obtain ⟨y0, y1⟩ := HRD.out _ hSw; clear hSw; go_simp); first | done | with_reducible rfl); (try simp only [Act.put, List.getElem_toArray, List.getElem_cons_zero, List.setIfInBounds_toArray, List.set_cons_zero, List.set_cons_succ])
            refine wpAnyH_take (i := 1 ) (v := ?_) rfl (by kernel_rfl) (by kernel_rfl) (by kernel_rfl) (fun _ _ _ h => h) (Or.inl ⟨by rfl, ?_⟩) (by assumption) ?_; rotate_left; (· (intro w0 hSw; obtain ⟨y0, y1⟩ := HRD.out _ hSw; clear hSw; go_simp); first | done | with_reducible rfl); (try simp only [Act.put, List.getElem_toArray, List.getElem_cons_succ, List.getElem_cons_zero, List.setIfInBounds_toArray, List.set_cons_zero, List.set_cons_succ])
            refine wpAnyH_take (i := 2 ) (v := ?_) rfl (by kernel_rfl) (by kernel_rfl) (by kernel_rfl) (fun _ _ _ h => h) (Or.inl ⟨by rfl, ?_⟩) (by assumption) ?_; rotate_left; (· (intro w0 hSw; obtain ⟨y0, y1⟩ := HRD.out _ hSw; clear hSw; go_simp); first | done | with_reducible rfl); (try simp only [Act.put, List.getElem_toArray, List.getElem_cons_succ, List.getElem_cons_zero, List.setIfInBounds_toArray, List.set_cons_zero, List.set_cons_succ])
            refine wpAnyH_take (i := 3 ) (v := ?_) rfl (by kernel_rfl) (by kernel_rfl) (by kernel_rfl) (fun _ _ _ h => h) (Or.inl ⟨by rfl, ?_⟩) (by assumption) ?_; rotate_left; (· (intro w0 hSw; obtain ⟨y0, y1⟩ := HRD.out _ hSw; clear hSw; go_simp); first | done | with_reducible rfl); (try simp only [Act.put, List.getElem_toArray, List.getElem_cons_succ, List.getElem_cons_zero, List.setIfInBounds_toArray, List.set_cons_zero, List.set_cons_succ])
            refine wpAnyH_take (i := 4 ) (v := ?_) rfl (by kernel_rfl) (by kernel_rfl) (by kernel_rfl) (fun _ _ _ h => h) (Or.inl ⟨by rfl, ?_⟩) (by assumption) ?_; rotate_left; (· (intro w0 hSw; obtain ⟨y0, y1⟩ := HRD.out _ hSw; clear hSw; go_simp); first | done | with_reducible rfl); (try simp only [Act.put, List.getElem_toArray, List.getElem_cons_succ, List.getElem_cons_zero, List.setIfInBounds_toArray, List.set_cons_zero, List.set_cons_succ])
            refine wpAnyH_take (i := 5 ) (v := ?_) rfl (by kernel_rfl) (by kernel_rfl) (by kernel_rfl) (fun _ _ _ h => h) (Or.inl ⟨by rfl, ?_⟩) (by assumption) ?_; rotate_left; (· (intro w0 hSw; obtain ⟨y0, y1⟩ := HRD.out _ hSw; clear hSw; go_simp); first | done | with_reducible rfl); (try simp only [Act.put, List.getElem_toArray, List.getElem_cons_succ, List.getElem_cons_zero, List.setIfInBounds_toArray, List.set_cons_zero, List.set_cons_succ])
            refine wpAnyH_take (i := 6 ) (v := ?_) rfl (by kernel_rfl) (by kernel_rfl) (by kernel_rfl) (fun _ _ _ h => h) (Or.inl ⟨by rfl, ?_⟩) (by assumption) ?_; rotate_left; (· (intro w0 hSw; obtain ⟨y0, y1⟩ := HRD.out _ hSw; clear hSw; go_simp); first | done | with_reducible rfl); (try simp only [Act.put, List.getElem_toArray, List.getElem_cons_succ, List.getElem_cons_zero, List.setIfInBounds_toArray, List.set_cons_zero, List.set_cons_succ])
            refine wpAnyH_take (i := 7 ) (v := ?_) rfl (by kernel_rfl) (by kernel_rfl) (by kernel_rfl) (fun _ _ _ h => h) (Or.inl ⟨by rfl, ?_⟩) (by assumption) ?_; rotate_left; (· (intro w0 hSw; obtain ⟨y0, y1⟩ := HRD.out _ hSw; clear hSw; go_simp); first | done | with_reducible rfl); (try simp only [Act.put, List.getElem_toArray, List.getElem_cons_succ, List.getElem_cons_zero, List.setIfInBounds_toArray, List.set_cons_zero, List.set_cons_succ])
            refine wpAnyH_take (i := 8 ) (v := ?_) rfl (by kernel_rfl) (by kernel_rfl) (by kernel_rfl) (fun _ _ _ h => h) (Or.inl ⟨by rfl, ?_⟩) (by assumption) ?_; rotate_left; (· (intro w0 hSw; obtain ⟨y0, y1⟩ := HRD.out _ hSw; clear hSw; go_simp); first | done | with_reducible rfl); (try simp only [Act.put, List.getElem_toArray, List.getElem_cons_succ, List.getElem_cons_zero, List.setIfInBounds_toArray, List.set_cons_zero, List.set_cons_succ])
            refine wpAnyH_take (i := 9 ) (v := ?_) rfl (by kernel_rfl) (by kernel_rfl) (by kernel_rfl) (fun _ _ _ h => h) (Or.inl ⟨by rfl, ?_⟩) (by assumption) ?_; rotate_left; (· (intro w0 hSw; obtain ⟨y0, y1⟩ := HRD.out _ hSw; clear hSw; go_simp); first | done | with_reducible rfl); (try simp only [Act.put, List.getElem_toArray, List.getElem_cons_succ, List.getElem_cons_zero, List.setIfInBounds_toArray, List.set_cons_zero, List.set_cons_succ])
            refine wpAnyH_take (i := 10 ) (v := ?_) rfl (by kernel_rfl) (by kernel_rfl) (by kernel_rfl) (fun _ _ _ h => h) (Or.inl ⟨by rfl, ?_⟩) (by assumption) ?_; rotate_left; (· (intro w0 hSw; obtain ⟨y0, y1⟩ := HRD.out _ hSw; clear hSw; go_simp); first | done | with_reducible rfl); (try simp only [Act.put, List.getElem_toArray, List.getElem_cons_succ, List.getElem_cons_zero, List.setIfInBounds_toArray, List.set_cons_zero, List.set_cons_succ])
            refine wpAnyH_take (i := 11 ) (v := ?_) rfl (by kernel_rfl) (by kernel_rfl) (by kernel_rfl) (fun _ _ _ h => h) (Or.inl ⟨by rfl, ?_⟩) (by assumption) ?_; rotate_left; (· (intro w0 hSw; obtain ⟨y0, y1⟩ := HRD.out _ hSw; clear hSw; go_simp); first | done | with_reducible rfl); (try simp only [Act.put, List.getElem_toArray, List.getElem_cons_succ, List.getElem_cons_zero, List.setIfInBounds_toArray, List.set_cons_zero, List.set_cons_succ])
            refine wpAnyH_take (i := 12 ) (v := ?_) rfl (by kernel_rfl) (by kernel_rfl) (by kernel_rfl) (fun _ _ _ h => h) (Or.inl ⟨by rfl, ?_⟩) (by assumption) ?_; rotate_left; (· (intro w0 hSw; obtain ⟨y0, y1⟩ := HRD.out _ hSw; clear hSw; go_simp); first | done | with_reducible rfl); (try simp only [Act.put, List.getElem_toArray, List.getElem_cons_succ, List.getElem_cons_zero, List.setIfInBounds_toArray, List.set_cons_zero, List.set_cons_succ])
            refine wpAnyH_take (i := 13 ) (v := ?_) rfl (by kernel_rfl) (by kernel_rfl) (by kernel_rfl) (fun _ _ _ h => h) (Or.inl ⟨by rfl, ?_⟩) (by assumption) ?_; rotate_left; (· (intro w0 hSw; obtain ⟨y0, y1⟩ := HRD.out _ hSw; clear hSw; go_simp); first | done | with_reducible rfl); (try simp only [Act.put, List.getElem_toArray, List.getElem_cons_succ, List.getElem_cons_zero, List.setIfInBounds_toArray, List.set_cons_zero, List.set_cons_succ])
            refine wpAnyH_ready (rs := [14]) (by kernel_rfl) (by simp) ?_
            refine AllReadyH.cons (by simp only [List.getElem?_toArray, List.getElem?_cons_succ, List.getElem?_cons_zero]; rfl) (fun K hK => ?_) AllReadyH.nil
            go_simp
            refine (HAW.out _).mono ?_
            rintro e W5 ⟨rfl, hb5⟩
            replace HD := Lib.hid (HD.out.trans (hb5.mono HD.out.size))
            clear hb5
            refine hK.out _ _ HD.out (fun hH1 => ?_)
            clear hK K
            try simp only [List.setIfInBounds_toArray, List.set_cons_zero, List.set_cons_succ]
            refine wpAnyH_take (i := 15 ) (v := ?_) rfl (by kernel_rfl) (by kernel_rfl) (by kernel_rfl) (fun _ _ _ h => h) (Or.inl ⟨by rfl, ?_⟩) (by assumption) ?_; rotate_left; (· (intro w0 hSw; obtain ⟨y0, y1⟩ := HRD.out _ hSw; clear hSw; go_simp); first | done | with_reducible rfl); (try simp only [Act.put, List.getElem_toArray, List.getElem_cons_succ, List.getElem_cons_zero, List.setIfInBounds_toArray, List.set_cons_zero, List.set_cons_succ])
            refine wpAnyH_take (i := 16 ) (v := ?_) rfl (by kernel_rfl) (by kernel_rfl) (by kernel_rfl) (fun _ _ _ h => h) (Or.inl ⟨by rfl, ?_⟩) (by assumption) ?_; rotate_left; (· (intro w0 hSw; obtain ⟨y0, y1⟩ := HRD.out _ hSw; clear hSw; go_simp); first | done | with_reducible rfl); (try simp only [Act.put, List.getElem_toArray, List.getElem_cons_succ, List.getElem_cons_zero, List.setIfInBounds_toArray, List.set_cons_zero, List.set_cons_succ])
            refine wpAnyH_done (by kernel_rfl) ?_ _
            go_wp2_with fail
            go_ret
            exact ⟨rfl, HX11.out.1.trans (HD.out.mono HX11.out.1.size)⟩
          · go_upto_region 24 with (at_builtin; refine wpList_append_own _ rfl _ _ 23 rfl VE.heap.size 46 i0 _ 2 16 und_piles9 HI.out.1 HI.out.2.1 HI.out.2.2.1 HI.out.2.2.2 rfl (by decide) v1 (1 + p) _ rfl HO.out ⟨gb, offb + (p + 1) * 2, none⟩ (l.length - (p + 1)) (d - (p + 1)) (pileV (l.drop (p + 1))) rfl (by rw [pileV_len, List.length_drop]) (HNX.out _ HD.out) (pileV_one _) (by unfold maxLen; omega) (by omega) HD.out.size ?_; intro v' w2 hown hgr hnn; clear hnn; have HO7 := Lib.hid hown; have HG7 := Lib.hid hgr; clear hown hgr)
            rw [HFRS.out, show 1 + p + (l.length - (p + 1)) = l.length by omega] at HO7
            obtain ⟨g18, cap18, rfl, h18a, h18b⟩ := own_g9 HO7.out (by omega)
            have HB7 : Hid (Below V2.heap.size V2 w2 → True) := Lib.hid fun _ => trivial
            have HX9 : Hid (Below w.heap.size w w2 ∧ Blk w2 gu 35 #[.int .i64 lo, .int .i64 hi]) := Lib.hid ⟨Below.grown HX8.out.1 HG7.out (Nat.le_trans (Nat.le_trans HX8.out.1.size (Nat.le_refl _)) (Nat.le_refl _)) fun j e => by have := (HO.out.lt j e).1; have := HX8.out.1.size; have := HVE.out; omega, HX8.out.2.kept HG7.out fun e => by have := (HO.out.lt _ e.symm).1; have := HVE.out; omega⟩
            clear HB7 HO HG7 HX8 HD HNX HFRS
            have HPF := Lib.hid (own_piles9 HO7.out (front_len l p hp))
            have HFC := Lib.hid (HFW.out w2 g18 cap18 HPF.out (HA.out.on HX9.out.1 (Nat.le_refl _)))
            go_wp2_with fail
            refine HFC.out.mono ?_
            rintro e W3 ⟨A8, c8, rfl, hr8, hb8⟩
            have HX10 := Lib.hid (And.intro (HX9.out.1.trans (hb8.mono HX9.out.1.size)) (HX9.out.2.below hb8 HX9.out.2.lt))
            have HGC := Lib.hid (HGW.out W3 g18 cap18 A8 c8 (HPF.out.on hb8 (Nat.le_refl _)) (HA.out.on HX10.out.1 (Nat.le_refl _)) hr8)
            clear hr8 hb8 HFC HX9 HPF HO7
            go_wp2_with fail
            refine HGC.out.mono ?_
            rintro e W4 ⟨g20, o20, c20, rfl, hg20, hc20, hb9⟩
            have HX11 := Lib.hid (And.intro (HX10.out.1.trans (hb9.mono HX10.out.1.size)) (HX10.out.2.below hb9 HX10.out.2.lt))
            have HRD : Hid (∀ W9, Below W4.heap.size W4 W9 → W9.cell? ⟨g20, o20, none⟩ = some (.int .i64 hi) ∧ W9.cell? ⟨gu, 1, none⟩ = some (.int .i64 hi)) := Lib.hid fun W9 h9 => ⟨(h9.cell (p := ⟨g20, o20, none⟩) hg20).trans hc20, (HX11.out.2.below h9 HX11.out.2.lt).cell 1⟩
            have hl1 : 0 < l.length := by omega
            clear hb9 HGC HX10 hc20
            go_upto_region 26 with fail
            have HD := Lib.hid ((Below.refl W4.heap.size W4).drew)
            refine wp_region_held_drew (S := fun W9 => Below W4.heap.size W4 W9) (by kernel_rfl) HD.out (fun hH0 => ?_)
            generalize World.drew _ = V0 at *
            simp only [List.size_toArray, List.length_cons, List.length_nil, Nat.reduceAdd, Array.replicate_succ, Array.replicate_zero, List.push_toArray, List.nil_append, List.cons_append]
            refine wpAnyH_take (i := 0 ) (v := ?_) rfl (by kernel_rfl) (by kernel_rfl) (by kernel_rfl) (fun _ _ _ h => h) (Or.inl ⟨by rfl, ?_⟩) (by assumption) ?_; rotate_left; (· (intro w0 hSw; obtain ⟨y0, y1⟩ := HRD.out _ hSw; clear hSw; go_simp); first | done | with_reducible rfl); (try simp only [Act.put, List.getElem_toArray, List.getElem_cons_zero, List.setIfInBounds_toArray, List.set_cons_zero, List.set_cons_succ])
            refine wpAnyH_take (i := 1 ) (v := ?_) rfl (by kernel_rfl) (by kernel_rfl) (by kernel_rfl) (fun _ _ _ h => h) (Or.inl ⟨by rfl, ?_⟩) (by assumption) ?_; rotate_left; (· (intro w0 hSw; obtain ⟨y0, y1⟩ := HRD.out _ hSw; clear hSw; go_simp); first | done | with_reducible rfl); (try simp only [Act.put, List.getElem_toArray, List.getElem_cons_succ, List.getElem_cons_zero, List.setIfInBounds_toArray, List.set_cons_zero, List.set_cons_succ])
            refine wpAnyH_take (i := 2 ) (v := ?_) rfl (by kernel_rfl) (by kernel_rfl) (by kernel_rfl) (fun _ _ _ h => h) (Or.inl ⟨by rfl, ?_⟩) (by assumption) ?_; rotate_left; (· (intro w0 hSw; obtain ⟨y0, y1⟩ := HRD.out _ hSw; clear hSw; go_simp); first | done | with_reducible rfl); (try simp only [Act.put, List.getElem_toArray, List.getElem_cons_succ, List.getElem_cons_zero, List.setIfInBounds_toArray, List.set_cons_zero, List.set_cons_succ])
            refine wpAnyH_take (i := 3 ) (v := ?_) rfl (by kernel_rfl) (by kernel_rfl) (by kernel_rfl) (fun _ _ _ h => h) (Or.inl ⟨by rfl, ?_⟩) (by assumption) ?_; rotate_left; (· (intro w0 hSw; obtain ⟨y0, y1⟩ := HRD.out _ hSw; clear hSw; go_simp); first | done | with_reducible rfl); (try simp only [Act.put, List.getElem_toArray, List.getElem_cons_succ, List.getElem_cons_zero, List.setIfInBounds_toArray, List.set_cons_zero, List.set_cons_succ])
            refine wpAnyH_take (i := 4 ) (v := ?_) rfl (by kernel_rfl) (by kernel_rfl) (by kernel_rfl) (fun _ _ _ h => h) (Or.inl ⟨by rfl, ?_⟩) (by assumption) ?_; rotate_left; (· (intro w0 hSw; obtain ⟨y0, y1⟩ := HRD.out _ hSw; clear hSw; go_simp); first | done | with_reducible rfl); (try simp only [Act.put, List.getElem_toArray, List.getElem_cons_succ, List.getElem_cons_zero, List.setIfInBounds_toArray, List.set_cons_zero, List.set_cons_succ])
            refine wpAnyH_take (i := 5 ) (v := ?_) rfl (by kernel_rfl) (by kernel_rfl) (by kernel_rfl) (fun _ _ _ h => h) (Or.inl ⟨by rfl, ?_⟩) (by assumption) ?_; rotate_left; (· (intro w0 hSw; obtain ⟨y0, y1⟩ := HRD.out _ hSw; clear hSw; go_simp); first | done | with_reducible rfl); (try simp only [Act.put, List.getElem_toArray, List.getElem_cons_succ, List.getElem_cons_zero, List.setIfInBounds_toArray, List.set_cons_zero, List.set_cons_succ])
            refine wpAnyH_take (i := 6 ) (v := ?_) rfl (by kernel_rfl) (by kernel_rfl) (by kernel_rfl) (fun _ _ _ h => h) (Or.inl ⟨by rfl, ?_⟩) (by assumption) ?_; rotate_left; (· (intro w0 hSw; obtain ⟨y0, y1⟩ := HRD.out _ hSw; clear hSw; go_simp); first | done | with_reducible rfl); (try simp only [Act.put, List.getElem_toArray, List.getElem_cons_succ, List.getElem_cons_zero, List.setIfInBounds_toArray, List.set_cons_zero, List.set_cons_succ])
            refine wpAnyH_take (i := 7 ) (v := ?_) rfl (by kernel_rfl) (by kernel_rfl) (by kernel_rfl) (fun _ _ _ h => h) (Or.inl ⟨by rfl, ?_⟩) (by assumption) ?_; rotate_left; (· (intro w0 hSw; obtain ⟨y0, y1⟩ := HRD.out _ hSw; clear hSw; go_simp); first | done | with_reducible rfl); (try simp only [Act.put, List.getElem_toArray, List.getElem_cons_succ, List.getElem_cons_zero, List.setIfInBounds_toArray, List.set_cons_zero, List.set_cons_succ])
            refine wpAnyH_take (i := 8 ) (v := ?_) rfl (by kernel_rfl) (by kernel_rfl) (by kernel_rfl) (fun _ _ _ h => h) (Or.inl ⟨by rfl, ?_⟩) (by assumption) ?_; rotate_left; (· (intro w0 hSw; obtain ⟨y0, y1⟩ := HRD.out _ hSw; clear hSw; go_simp); first | done | with_reducible rfl); (try simp only [Act.put, List.getElem_toArray, List.getElem_cons_succ, List.getElem_cons_zero, List.setIfInBounds_toArray, List.set_cons_zero, List.set_cons_succ])
            refine wpAnyH_take (i := 9 ) (v := ?_) rfl (by kernel_rfl) (by kernel_rfl) (by kernel_rfl) (fun _ _ _ h => h) (Or.inl ⟨by rfl, ?_⟩) (by assumption) ?_; rotate_left; (· (intro w0 hSw; obtain ⟨y0, y1⟩ := HRD.out _ hSw; clear hSw; go_simp); first | done | with_reducible rfl); (try simp only [Act.put, List.getElem_toArray, List.getElem_cons_succ, List.getElem_cons_zero, List.setIfInBounds_toArray, List.set_cons_zero, List.set_cons_succ])
            refine wpAnyH_take (i := 10 ) (v := ?_) rfl (by kernel_rfl) (by kernel_rfl) (by kernel_rfl) (fun _ _ _ h => h) (Or.inl ⟨by rfl, ?_⟩) (by assumption) ?_; rotate_left; (· (intro w0 hSw; obtain ⟨y0, y1⟩ := HRD.out _ hSw; clear hSw; go_simp); first | done | with_reducible rfl); (try simp only [Act.put, List.getElem_toArray, List.getElem_cons_succ, List.getElem_cons_zero, List.setIfInBounds_toArray, List.set_cons_zero, List.set_cons_succ])
            refine wpAnyH_take (i := 11 ) (v := ?_) rfl (by kernel_rfl) (by kernel_rfl) (by kernel_rfl) (fun _ _ _ h => h) (Or.inl ⟨by rfl, ?_⟩) (by assumption) ?_; rotate_left; (· (intro w0 hSw; obtain ⟨y0, y1⟩ := HRD.out _ hSw; clear hSw; go_simp); first | done | with_reducible rfl); (try simp only [Act.put, List.getElem_toArray, List.getElem_cons_succ, List.getElem_cons_zero, List.setIfInBounds_toArray, List.set_cons_zero, List.set_cons_succ])
            refine wpAnyH_take (i := 12 ) (v := ?_) rfl (by kernel_rfl) (by kernel_rfl) (by kernel_rfl) (fun _ _ _ h => h) (Or.inl ⟨by rfl, ?_⟩) (by assumption) ?_; rotate_left; (· (intro w0 hSw; obtain ⟨y0, y1⟩ := HRD.out _ hSw; clear hSw; go_simp); first | done | with_reducible rfl); (try simp only [Act.put, List.getElem_toArray, List.getElem_cons_succ, List.getElem_cons_zero, List.setIfInBounds_toArray, List.set_cons_zero, List.set_cons_succ])
            refine wpAnyH_take (i := 13 ) (v := ?_) rfl (by kernel_rfl) (by kernel_rfl) (by kernel_rfl) (fun _ _ _ h => h) (Or.inl ⟨by rfl, ?_⟩) (by assumption) ?_; rotate_left; (· (intro w0 hSw; obtain ⟨y0, y1⟩ := HRD.out _ hSw; clear hSw; go_simp); first | done | with_reducible rfl); (try simp only [Act.put, List.getElem_toArray, List.getElem_cons_succ, List.getElem_cons_zero, List.setIfInBounds_toArray, List.set_cons_zero, List.set_cons_succ])
            refine wpAnyH_ready (rs := [14]) (by kernel_rfl) (by simp) ?_
            refine AllReadyH.cons (by simp only [List.getElem?_toArray, List.getElem?_cons_succ, List.getElem?_cons_zero]; rfl) (fun K hK => ?_) AllReadyH.nil
            go_simp
            refine (HAW.out _).mono ?_
            rintro e W5 ⟨rfl, hb5⟩
            replace HD := Lib.hid (HD.out.trans (hb5.mono HD.out.size))
            clear hb5
            refine hK.out _ _ HD.out (fun hH1 => ?_)
            clear hK K
            try simp only [List.setIfInBounds_toArray, List.set_cons_zero, List.set_cons_succ]
            refine wpAnyH_take (i := 15 ) (v := ?_) rfl (by kernel_rfl) (by kernel_rfl) (by kernel_rfl) (fun _ _ _ h => h) (Or.inl ⟨by rfl, ?_⟩) (by assumption) ?_; rotate_left; (· (intro w0 hSw; obtain ⟨y0, y1⟩ := HRD.out _ hSw; clear hSw; go_simp); first | done | with_reducible rfl); (try simp only [Act.put, List.getElem_toArray, List.getElem_cons_succ, List.getElem_cons_zero, List.setIfInBounds_toArray, List.set_cons_zero, List.set_cons_succ])
            refine wpAnyH_take (i := 16 ) (v := ?_) rfl (by kernel_rfl) (by kernel_rfl) (by kernel_rfl) (fun _ _ _ h => h) (Or.inl ⟨by rfl, ?_⟩) (by assumption) ?_; rotate_left; (· (intro w0 hSw; obtain ⟨y0, y1⟩ := HRD.out _ hSw; clear hSw; go_simp); first | done | with_reducible rfl); (try simp only [Act.put, List.getElem_toArray, List.getElem_cons_succ, List.getElem_cons_zero, List.setIfInBounds_toArray, List.set_cons_zero, List.set_cons_succ])
            refine wpAnyH_done (by kernel_rfl) ?_ _
            go_wp2_with fail
            go_ret
            exact ⟨rfl, HX11.out.1.trans (HD.out.mono HX11.out.1.size)⟩
      · have HX7 := HX5
        rename World => VE
        clear HX5 HO5
        as_aux_lemma =>
          clear HFS HFA HPV2
          have hsh1 := (HAT.out.below HX7.out.1 hgb p hp).1
          have hsh2 := (HAT.out.below HX7.out.1 hgb p hp).2
          rw [hmn] at hsh2
          have HNW : Hid (∀ W, Below VE.heap.size VE W → ∀ (j : Nat) u, (pileV (l.take p))[j]? = some u → W.cell? ((⟨gb, offb, none⟩ : Addr).add j) = some u) := Lib.hid fun W hW => pile_cells9 (piles_take ((HAT.out.below HX7.out.1 hgb).below hW (Nat.lt_of_lt_of_le hgb HX7.out.1.size)) p)
          have HNX : Hid (∀ W, Below VE.heap.size VE W → ∀ (j : Nat) u, (pileV (l.drop (p + 1)))[j]? = some u → W.cell? ((⟨gb, offb + (p + 1) * 2, none⟩ : Addr).add j) = some u) := Lib.hid fun W hW => pile_cells9 (piles_drop ((HAT.out.below HX7.out.1 hgb).below hW (Nat.lt_of_lt_of_le hgb HX7.out.1.size)) (p + 1))
          have HFRS : Hid ((#[Value.int .i64 l[p].shades, .int .i64 mn] : Array Value).toList ++ pileV (l.take p) ++ pileV (l.drop (p + 1)) = pileV (frontP l p hp)) := Lib.hid (by
            unfold frontP
            rw [← hmn]
            have : ∀ (a b : List Pile), pileV (a ++ b) = pileV a ++ pileV b := by
              intro a b
              induction a with
              | nil => rfl
              | cons q a ih => simp only [List.cons_append, pileV, ih]
            rw [pileV, this]
            rfl)
          have HRD : Hid (∀ W9, Below VE.heap.size VE W9 → W9.cell? ⟨gb, offb + p * 2, none⟩ = some (.int .i64 l[p].shades) ∧ W9.cell? ⟨gb, offb + p * 2 + 1, none⟩ = some (.int .i64 mn)) := Lib.hid fun W9 h9 => ⟨(h9.cell (p := ⟨gb, _, none⟩) (Nat.lt_of_lt_of_le hgb HX7.out.1.size)).trans hsh1, (h9.cell (p := ⟨gb, _, none⟩) (Nat.lt_of_lt_of_le hgb HX7.out.1.size)).trans hsh2⟩
          have hpd : (p : Int) ≤ d := by omega
          have hpl : (p : Int) + 1 ≤ l.length := by omega
          have hll9 : (l.length : Int) ≤ d := by omega
          have hld : (l.length : Int) ≤ 9223372036854775807 := by omega
          have HD := Lib.hid ((Below.refl VE.heap.size VE).drew)
          clear hsh1 hsh2
          generalize l[p].shades = sh at *
          go_upto_region 22 with fail
          try clear c0
          refine wp_region_held_drew (S := fun W9 => Below VE.heap.size VE W9) (by kernel_rfl) HD.out (fun hH0 => ?_)
          generalize World.drew _ = V0 at *
          simp only [List.size_toArray, List.length_cons, List.length_nil, Nat.reduceAdd, Array.replicate_succ, Array.replicate_zero, List.push_toArray, List.nil_append, List.cons_append]
          refine wpAnyH_take (i := 0 ) (v := ?_) rfl (by kernel_rfl) (by kernel_rfl) (by kernel_rfl) (fun _ _ _ h => h) (Or.inl ⟨by rfl, ?_⟩) (by assumption) ?_; rotate_left; (· (intro w0 hSw; obtain ⟨y0, y1⟩ := HRD.out _ hSw; clear hSw; go_simp); first | done | with_reducible rfl); (try simp only [Act.put, List.getElem_toArray, List.getElem_cons_zero, List.setIfInBounds_toArray, List.set_cons_zero, List.set_cons_succ])
          refine wpAnyH_take (i := 1 ) (v := ?_) rfl (by kernel_rfl) (by kernel_rfl) (by kernel_rfl) (fun _ _ _ h => h) (Or.inl ⟨by rfl, ?_⟩) (by assumption) ?_; rotate_left; (· (intro w0 hSw; obtain ⟨y0, y1⟩ := HRD.out _ hSw; clear hSw; go_simp); first | done | with_reducible rfl); (try simp only [Act.put, List.getElem_toArray, List.getElem_cons_succ, List.getElem_cons_zero, List.setIfInBounds_toArray, List.set_cons_zero, List.set_cons_succ])
          refine wpAnyH_take (i := 2 ) (v := ?_) rfl (by kernel_rfl) (by kernel_rfl) (by kernel_rfl) (fun _ _ _ h => h) (Or.inl ⟨by rfl, ?_⟩) (by assumption) ?_; rotate_left; (· (intro w0 hSw; obtain ⟨y0, y1⟩ := HRD.out _ hSw; clear hSw; go_simp); first | done | with_reducible rfl); (try simp only [Act.put, List.getElem_toArray, List.getElem_cons_succ, List.getElem_cons_zero, List.setIfInBounds_toArray, List.set_cons_zero, List.set_cons_succ])
          refine wpAnyH_take (i := 3 ) (v := ?_) rfl (by kernel_rfl) (by kernel_rfl) (by kernel_rfl) (fun _ _ _ h => h) (Or.inl ⟨by rfl, ?_⟩) (by assumption) ?_; rotate_left; (· (intro w0 hSw; obtain ⟨y0, y1⟩ := HRD.out _ hSw; clear hSw; go_simp); first | done | with_reducible rfl); (try simp only [Act.put, List.getElem_toArray, List.getElem_cons_succ, List.getElem_cons_zero, List.setIfInBounds_toArray, List.set_cons_zero, List.set_cons_succ])
          refine wpAnyH_take (i := 5 ) (v := ?_) rfl (by kernel_rfl) (by kernel_rfl) (by kernel_rfl) (fun _ _ _ h => h) (Or.inl ⟨by rfl, ?_⟩) (by assumption) ?_; rotate_left; (· (intro w0 hSw; obtain ⟨y0, y1⟩ := HRD.out _ hSw; clear hSw; go_simp); first | done | with_reducible rfl); (try simp only [Act.put, List.getElem_toArray, List.getElem_cons_succ, List.getElem_cons_zero, List.setIfInBounds_toArray, List.set_cons_zero, List.set_cons_succ])
          refine wpAnyH_take (i := 6 ) (v := ?_) rfl (by kernel_rfl) (by kernel_rfl) (by kernel_rfl) (fun _ _ _ h => h) (Or.inl ⟨by rfl, ?_⟩) (by assumption) ?_; rotate_left; (· (intro w0 hSw; obtain ⟨y0, y1⟩ := HRD.out _ hSw; clear hSw; go_simp); first | done | with_reducible rfl); (try simp only [Act.put, List.getElem_toArray, List.getElem_cons_succ, List.getElem_cons_zero, List.setIfInBounds_toArray, List.set_cons_zero, List.set_cons_succ])
          refine wpAnyH_take (i := 7 ) (v := ?_) rfl (by kernel_rfl) (by kernel_rfl) (by kernel_rfl) (fun _ _ _ h => h) (Or.inl ⟨by rfl, ?_⟩) (by assumption) ?_; rotate_left; (· (intro w0 hSw; obtain ⟨y0, y1⟩ := HRD.out _ hSw; clear hSw; go_simp); first | done | with_reducible rfl); (try simp only [Act.put, List.getElem_toArray, List.getElem_cons_succ, List.getElem_cons_zero, List.setIfInBounds_toArray, List.set_cons_zero, List.set_cons_succ])
          refine wpAnyH_ready (rs := [4]) (by kernel_rfl) (by simp) ?_
          refine AllReadyH.cons (by simp only [List.getElem?_toArray, List.getElem?_cons_succ, List.getElem?_cons_zero]; rfl) (fun K hK => ?_) AllReadyH.nil
          rw [if_pos (by rfl)]
          refine wp_bs 23 46 1 _ (by rfl) #[.int .i64 sh, .int .i64 mn] [.agg #[.int .i64 sh, .int .i64 mn]] (.agg #[.int .i64 0, .int .i64 0]) 2 (by kernel_rfl) (by kernel_rfl) (by decide) (by rfl) (by rfl) (by rfl) (by rfl) ?_
          simp only [Act.put, List.setIfInBounds_toArray, List.set_cons_zero, List.set_cons_succ]
          have HO := Lib.hid (World.ownsRow_lit (base := VE.heap.size) (e := 46) (size := 2) V0 #[.int .i64 sh, .int .i64 mn] 1 HD.out.size (by unfold maxLen; omega) (by rfl))
          replace HD := Lib.hid (HD.out.alloc HD.out.size (.cells #[.int .i64 sh, .int .i64 mn] 46))
          generalize hV1 : World.alloc V0 _ = V1 at *
          clear hV1
          refine hK.out _ _ HD.out (fun hH1 => ?_)
          clear hK K
          try simp only [List.setIfInBounds_toArray, List.set_cons_zero, List.set_cons_succ]
          refine wpAnyH_ready (rs := [8]) (by kernel_rfl) (by simp) ?_
          refine AllReadyH.cons (by simp only [List.getElem?_toArray, List.getElem?_cons_succ, List.getElem?_cons_zero]; rfl) (fun K hK => ?_) AllReadyH.nil
          rw [if_pos (by rfl)]
          refine wp_append_own _ _ _ 23 (by rfl) VE.heap.size 46 i0 _ 2 16 und_piles9 HI.out.1 HI.out.2.1 HI.out.2.2.1 HI.out.2.2.2 rfl (by decide) (.slice (some ⟨V0.heap.size, 0, none⟩) 1 1) 1 _ (by rfl) HO.out ⟨gb, offb, none⟩ p d (pileV (l.take p)) (by rfl) (by rw [pileV_len, List.length_take, Nat.min_eq_left (Nat.le_of_lt hp)]) (HNW.out V1 HD.out) (pileV_one _) (by unfold maxLen; omega) (by omega) HD.out.size ?_
          intro v1 V2 hown hgr hnn
          clear hnn
          simp only [Act.put, List.setIfInBounds_toArray, List.set_cons_zero, List.set_cons_succ]
          replace HD := Lib.hid (Below.grown HD.out hgr HD.out.size fun j e => (HO.out.lt j e).1)
          replace HO := Lib.hid hown
          clear hown hgr
          refine hK.out _ _ HD.out (fun hH2 => ?_)
          clear hK K
          try simp only [List.setIfInBounds_toArray, List.set_cons_zero, List.set_cons_succ]
          refine wpAnyH_take (i := 9 ) (v := ?_) rfl (by kernel_rfl) (by kernel_rfl) (by kernel_rfl) (fun _ _ _ h => h) (Or.inl ⟨by rfl, ?_⟩) (by assumption) ?_; rotate_left; (· (intro w0 hSw; obtain ⟨y0, y1⟩ := HRD.out _ hSw; clear hSw; go_simp); first | done | with_reducible rfl); (try simp only [Act.put, List.getElem_toArray, List.getElem_cons_succ, List.getElem_cons_zero, List.setIfInBounds_toArray, List.set_cons_zero, List.set_cons_succ])
          refine wpAnyH_done (by kernel_rfl) ?_ _
          have HX8 := Lib.hid (And.intro (HX7.out.1.trans (HD.out.mono HX7.out.1.size)) (HX7.out.2.below HD.out HX7.out.2.lt))
          have HVE : Hid (w.heap.size ≤ VE.heap.size ∧ gu < VE.heap.size) := Lib.hid ⟨HX7.out.1.size, HX7.out.2.lt⟩
          have hwp : IntKind.i64.wrap ((p : Int) + 1) = (p : Int) + 1 := IntWalk.i64_in _ ⟨by omega, by omega⟩
          clear HX7 hH0 hH1 hH2 HNW HRD
          have HFW : Hid (∀ W g cap, PileSl W W.heap.size (some ⟨g, 0, none⟩) (frontP l p hp) → IntSl W W.heap.size A need → Calls Try.prog 17 #[.slice A need.length c, .slice (some ⟨g, 0, none⟩) l.length cap, .int .i64 b] W fun e w' => ∃ A' c', e = .returned (.tuple #[.slice A' l.length c', .int .i64 0]) ∧ RowSl w' A' (fillT need (frontP l p hp) b) ∧ Below W.heap.size W w') := Lib.hid fun W g cap h1 h2 => by
            have h9 := fill_any W A (some ⟨g, 0, none⟩) c cap need (frontP l p hp) b hn (by rw [front_len]; exact hl) h2 h1
            rw [front_len] at h9
            have e9 : fillA need (frontP l p hp) b = (fillT need (frontP l p hp) b, 0) := (if_pos (err_zero HU.out.frok hbb.1 hbb.2)).trans (if_pos HU.out.frcan)
            refine h9.mono ?_
            rintro e w' ⟨A', c', rfl, hr, hb⟩
            rw [e9] at *
            exact ⟨A', c', by rw [show (fillT need (frontP l p hp) b).length = l.length by rw [fill_len, front_len]], hr, hb⟩
          have HGW : Hid (∀ W g cap A' c', PileSl W W.heap.size (some ⟨g, 0, none⟩) (frontP l p hp) → IntSl W W.heap.size A need → RowSl W A' (fillT need (frontP l p hp) b) → Calls Try.prog 25 #[.slice A need.length c, .slice (some ⟨g, 0, none⟩) l.length cap, .int .i64 b, .slice A' l.length c'] W fun e w' => ∃ g' o' c9, e = .returned (.tuple #[.slice (some ⟨g', o', none⟩) l.length c9, .bool true]) ∧ g' < w'.heap.size ∧ w'.cell? ⟨g', o', none⟩ = some (.int .i64 hi) ∧ Below W.heap.size W w') := Lib.hid fun W g cap A' c' h1 h2 h3 => by
            have hO : (fillT need (frontP l p hp) b).length = l.length := by rw [fill_len, front_len]
            have h9 := good_any W A (some ⟨g, 0, none⟩) A' c cap c' need (frontP l p hp) b (fillT need (frontP l p hp) b) hc8 HN48.out (ok_in HU.out.frok).2.1 hbb (fill_good HU.out.frok hbb HU.out.frcan) h2 h1 h3
            rw [front_len, hO] at h9
            refine h9.mono ?_
            rintro e w' ⟨A2, c2, rfl, hs, hb⟩
            obtain ⟨g', o', rfl, hg', hat⟩ := hs (by intro e; have := congrArg List.length e; rw [List.length_map, hO, List.length_nil] at this; omega)
            have h0 := hat 0 (by rw [List.length_map, hO]; omega)
            refine ⟨g', o', c2, by rw [hO], hg', ?_, hb⟩
            rw [List.getElem_map] at h0
            have h8 := HU.out.frhi
            rw [List.getD_eq_getElem?_getD, List.getElem?_eq_getElem (by rw [hO]; omega), Option.getD_some] at h8
            rw [h8] at h0
            exact h0
          clear HU HOK HP HE0 HN48
          by_cases hd1 : d = p + 1
          · subst hd1
            have hlp1 : l.length = p + 1 := by omega
            have hdrop : l.drop (p + 1) = [] := by rw [← hlp1]; exact List.drop_length
            have HLN := Lib.hid (And.intro hlp1 hdrop)
            have HFR2 : Hid ((#[Value.int .i64 sh, .int .i64 mn] : Array Value).toList ++ pileV (l.take p) = pileV (frontP l p hp)) := Lib.hid (by have := HFRS.out; rwa [hdrop, show pileV [] = [] from rfl, List.append_nil] at this)
            clear hlp1 hdrop
            go_upto_region 24 with (at_builtin; refine wpList_append_own _ rfl _ _ 23 rfl VE.heap.size 46 i0 _ 2 16 und_piles9 HI.out.1 HI.out.2.1 HI.out.2.2.1 HI.out.2.2.2 rfl (by decide) v1 (1 + p) _ rfl HO.out ⟨gb, offb, none⟩ 0 0 [] rfl rfl (fun j u hj => by simp at hj) (fun u hu => by simp at hu) (by unfold maxLen; omega) (by omega) HD.out.size ?_; intro v' w2 hown hgr hnn; clear hnn; have HO7 := Lib.hid hown; have HG7 := Lib.hid hgr; clear hown hgr)
            rw [List.append_nil, HFR2.out, show 1 + p + 0 = l.length by rw [HLN.out.1]; omega] at HO7
            clear HFR2
            obtain ⟨g18, cap18, rfl, h18a, h18b⟩ := own_g9 HO7.out (by omega)
            have HB7 : Hid (Below V2.heap.size V2 w2 → True) := Lib.hid fun _ => trivial
            have HX9 : Hid (Below w.heap.size w w2 ∧ Blk w2 gu 35 #[.int .i64 lo, .int .i64 hi]) := Lib.hid ⟨Below.grown HX8.out.1 HG7.out (Nat.le_trans (Nat.le_trans HX8.out.1.size (Nat.le_refl _)) (Nat.le_refl _)) fun j e => by have := (HO.out.lt j e).1; have := HX8.out.1.size; have := HVE.out; omega, HX8.out.2.kept HG7.out fun e => by have := (HO.out.lt _ e.symm).1; have := HVE.out; omega⟩
            clear HB7 HO HG7 HX8 HD HNX HFRS
            have HPF := Lib.hid (own_piles9 HO7.out (front_len l p hp))
            have HFC := Lib.hid (HFW.out w2 g18 cap18 HPF.out (HA.out.on HX9.out.1 (Nat.le_refl _)))
            go_wp2_with fail
            refine HFC.out.mono ?_
            rintro e W3 ⟨A8, c8, rfl, hr8, hb8⟩
            have HX10 := Lib.hid (And.intro (HX9.out.1.trans (hb8.mono HX9.out.1.size)) (HX9.out.2.below hb8 HX9.out.2.lt))
            have HGC := Lib.hid (HGW.out W3 g18 cap18 A8 c8 (HPF.out.on hb8 (Nat.le_refl _)) (HA.out.on HX10.out.1 (Nat.le_refl _)) hr8)
            clear hr8 hb8 HFC HX9 HPF HO7
            go_wp2_with fail
            refine HGC.out.mono ?_
            rintro e W4 ⟨g20, o20, c20, rfl, hg20, hc20, hb9⟩
            have HX11 := Lib.hid (And.intro (HX10.out.1.trans (hb9.mono HX10.out.1.size)) (HX10.out.2.below hb9 HX10.out.2.lt))
            have HRD : Hid (∀ W9, Below W4.heap.size W4 W9 → W9.cell? ⟨g20, o20, none⟩ = some (.int .i64 hi) ∧ W9.cell? ⟨gu, 1, none⟩ = some (.int .i64 hi)) := Lib.hid fun W9 h9 => ⟨(h9.cell (p := ⟨g20, o20, none⟩) hg20).trans hc20, (HX11.out.2.below h9 HX11.out.2.lt).cell 1⟩
            have hl1 : 0 < l.length := by omega
            clear hb9 HGC HX10 hc20
            go_upto_region 26 with fail
            have HD := Lib.hid ((Below.refl W4.heap.size W4).drew)
            refine wp_region_held_drew (S := fun W9 => Below W4.heap.size W4 W9) (by kernel_rfl) HD.out (fun hH0 => ?_)
            generalize World.drew _ = V0 at *
            simp only [List.size_toArray, List.length_cons, List.length_nil, Nat.reduceAdd, Array.replicate_succ, Array.replicate_zero, List.push_toArray, List.nil_append, List.cons_append]
            refine wpAnyH_take (i := 0 ) (v := ?_) rfl (by kernel_rfl) (by kernel_rfl) (by kernel_rfl) (fun _ _ _ h => h) (Or.inl ⟨by rfl, ?_⟩) (by assumption) ?_; rotate_left; (· (intro w0 hSw; obtain ⟨y0, y1⟩ := HRD.out _ hSw; clear hSw; go_simp); first | done | with_reducible rfl); (try simp only [Act.put, List.getElem_toArray, List.getElem_cons_zero, List.setIfInBounds_toArray, List.set_cons_zero, List.set_cons_succ])
            refine wpAnyH_take (i := 1 ) (v := ?_) rfl (by kernel_rfl) (by kernel_rfl) (by kernel_rfl) (fun _ _ _ h => h) (Or.inl ⟨by rfl, ?_⟩) (by assumption) ?_; rotate_left; (· (intro w0 hSw; obtain ⟨y0, y1⟩ := HRD.out _ hSw; clear hSw; go_simp); first | done | with_reducible rfl); (try simp only [Act.put, List.getElem_toArray, List.getElem_cons_succ, List.getElem_cons_zero, List.setIfInBounds_toArray, List.set_cons_zero, List.set_cons_succ])
            refine wpAnyH_take (i := 2 ) (v := ?_) rfl (by kernel_rfl) (by kernel_rfl) (by kernel_rfl) (fun _ _ _ h => h) (Or.inl ⟨by rfl, ?_⟩) (by assumption) ?_; rotate_left; (· (intro w0 hSw; obtain ⟨y0, y1⟩ := HRD.out _ hSw; clear hSw; go_simp); first | done | with_reducible rfl); (try simp only [Act.put, List.getElem_toArray, List.getElem_cons_succ, List.getElem_cons_zero, List.setIfInBounds_toArray, List.set_cons_zero, List.set_cons_succ])
            refine wpAnyH_take (i := 3 ) (v := ?_) rfl (by kernel_rfl) (by kernel_rfl) (by kernel_rfl) (fun _ _ _ h => h) (Or.inl ⟨by rfl, ?_⟩) (by assumption) ?_; rotate_left; (· (intro w0 hSw; obtain ⟨y0, y1⟩ := HRD.out _ hSw; clear hSw; go_simp); first | done | with_reducible rfl); (try simp only [Act.put, List.getElem_toArray, List.getElem_cons_succ, List.getElem_cons_zero, List.setIfInBounds_toArray, List.set_cons_zero, List.set_cons_succ])
            refine wpAnyH_take (i := 4 ) (v := ?_) rfl (by kernel_rfl) (by kernel_rfl) (by kernel_rfl) (fun _ _ _ h => h) (Or.inl ⟨by rfl, ?_⟩) (by assumption) ?_; rotate_left; (· (intro w0 hSw; obtain ⟨y0, y1⟩ := HRD.out _ hSw; clear hSw; go_simp); first | done | with_reducible rfl); (try simp only [Act.put, List.getElem_toArray, List.getElem_cons_succ, List.getElem_cons_zero, List.setIfInBounds_toArray, List.set_cons_zero, List.set_cons_succ])
            refine wpAnyH_take (i := 5 ) (v := ?_) rfl (by kernel_rfl) (by kernel_rfl) (by kernel_rfl) (fun _ _ _ h => h) (Or.inl ⟨by rfl, ?_⟩) (by assumption) ?_; rotate_left; (· (intro w0 hSw; obtain ⟨y0, y1⟩ := HRD.out _ hSw; clear hSw; go_simp); first | done | with_reducible rfl); (try simp only [Act.put, List.getElem_toArray, List.getElem_cons_succ, List.getElem_cons_zero, List.setIfInBounds_toArray, List.set_cons_zero, List.set_cons_succ])
            refine wpAnyH_take (i := 6 ) (v := ?_) rfl (by kernel_rfl) (by kernel_rfl) (by kernel_rfl) (fun _ _ _ h => h) (Or.inl ⟨by rfl, ?_⟩) (by assumption) ?_; rotate_left; (· (intro w0 hSw; obtain ⟨y0, y1⟩ := HRD.out _ hSw; clear hSw; go_simp); first | done | with_reducible rfl); (try simp only [Act.put, List.getElem_toArray, List.getElem_cons_succ, List.getElem_cons_zero, List.setIfInBounds_toArray, List.set_cons_zero, List.set_cons_succ])
            refine wpAnyH_take (i := 7 ) (v := ?_) rfl (by kernel_rfl) (by kernel_rfl) (by kernel_rfl) (fun _ _ _ h => h) (Or.inl ⟨by rfl, ?_⟩) (by assumption) ?_; rotate_left; (· (intro w0 hSw; obtain ⟨y0, y1⟩ := HRD.out _ hSw; clear hSw; go_simp); first | done | with_reducible rfl); (try simp only [Act.put, List.getElem_toArray, List.getElem_cons_succ, List.getElem_cons_zero, List.setIfInBounds_toArray, List.set_cons_zero, List.set_cons_succ])
            refine wpAnyH_take (i := 8 ) (v := ?_) rfl (by kernel_rfl) (by kernel_rfl) (by kernel_rfl) (fun _ _ _ h => h) (Or.inl ⟨by rfl, ?_⟩) (by assumption) ?_; rotate_left; (· (intro w0 hSw; obtain ⟨y0, y1⟩ := HRD.out _ hSw; clear hSw; go_simp); first | done | with_reducible rfl); (try simp only [Act.put, List.getElem_toArray, List.getElem_cons_succ, List.getElem_cons_zero, List.setIfInBounds_toArray, List.set_cons_zero, List.set_cons_succ])
            refine wpAnyH_take (i := 9 ) (v := ?_) rfl (by kernel_rfl) (by kernel_rfl) (by kernel_rfl) (fun _ _ _ h => h) (Or.inl ⟨by rfl, ?_⟩) (by assumption) ?_; rotate_left; (· (intro w0 hSw; obtain ⟨y0, y1⟩ := HRD.out _ hSw; clear hSw; go_simp); first | done | with_reducible rfl); (try simp only [Act.put, List.getElem_toArray, List.getElem_cons_succ, List.getElem_cons_zero, List.setIfInBounds_toArray, List.set_cons_zero, List.set_cons_succ])
            refine wpAnyH_take (i := 10 ) (v := ?_) rfl (by kernel_rfl) (by kernel_rfl) (by kernel_rfl) (fun _ _ _ h => h) (Or.inl ⟨by rfl, ?_⟩) (by assumption) ?_; rotate_left; (· (intro w0 hSw; obtain ⟨y0, y1⟩ := HRD.out _ hSw; clear hSw; go_simp); first | done | with_reducible rfl); (try simp only [Act.put, List.getElem_toArray, List.getElem_cons_succ, List.getElem_cons_zero, List.setIfInBounds_toArray, List.set_cons_zero, List.set_cons_succ])
            refine wpAnyH_take (i := 11 ) (v := ?_) rfl (by kernel_rfl) (by kernel_rfl) (by kernel_rfl) (fun _ _ _ h => h) (Or.inl ⟨by rfl, ?_⟩) (by assumption) ?_; rotate_left; (· (intro w0 hSw; obtain ⟨y0, y1⟩ := HRD.out _ hSw; clear hSw; go_simp); first | done | with_reducible rfl); (try simp only [Act.put, List.getElem_toArray, List.getElem_cons_succ, List.getElem_cons_zero, List.setIfInBounds_toArray, List.set_cons_zero, List.set_cons_succ])
            refine wpAnyH_take (i := 12 ) (v := ?_) rfl (by kernel_rfl) (by kernel_rfl) (by kernel_rfl) (fun _ _ _ h => h) (Or.inl ⟨by rfl, ?_⟩) (by assumption) ?_; rotate_left; (· (intro w0 hSw; obtain ⟨y0, y1⟩ := HRD.out _ hSw; clear hSw; go_simp); first | done | with_reducible rfl); (try simp only [Act.put, List.getElem_toArray, List.getElem_cons_succ, List.getElem_cons_zero, List.setIfInBounds_toArray, List.set_cons_zero, List.set_cons_succ])
            refine wpAnyH_take (i := 13 ) (v := ?_) rfl (by kernel_rfl) (by kernel_rfl) (by kernel_rfl) (fun _ _ _ h => h) (Or.inl ⟨by rfl, ?_⟩) (by assumption) ?_; rotate_left; (· (intro w0 hSw; obtain ⟨y0, y1⟩ := HRD.out _ hSw; clear hSw; go_simp); first | done | with_reducible rfl); (try simp only [Act.put, List.getElem_toArray, List.getElem_cons_succ, List.getElem_cons_zero, List.setIfInBounds_toArray, List.set_cons_zero, List.set_cons_succ])
            refine wpAnyH_ready (rs := [14]) (by kernel_rfl) (by simp) ?_
            refine AllReadyH.cons (by simp only [List.getElem?_toArray, List.getElem?_cons_succ, List.getElem?_cons_zero]; rfl) (fun K hK => ?_) AllReadyH.nil
            go_simp
            refine (HAW.out _).mono ?_
            rintro e W5 ⟨rfl, hb5⟩
            replace HD := Lib.hid (HD.out.trans (hb5.mono HD.out.size))
            clear hb5
            refine hK.out _ _ HD.out (fun hH1 => ?_)
            clear hK K
            try simp only [List.setIfInBounds_toArray, List.set_cons_zero, List.set_cons_succ]
            refine wpAnyH_take (i := 15 ) (v := ?_) rfl (by kernel_rfl) (by kernel_rfl) (by kernel_rfl) (fun _ _ _ h => h) (Or.inl ⟨by rfl, ?_⟩) (by assumption) ?_; rotate_left; (· (intro w0 hSw; obtain ⟨y0, y1⟩ := HRD.out _ hSw; clear hSw; go_simp); first | done | with_reducible rfl); (try simp only [Act.put, List.getElem_toArray, List.getElem_cons_succ, List.getElem_cons_zero, List.setIfInBounds_toArray, List.set_cons_zero, List.set_cons_succ])
            refine wpAnyH_take (i := 16 ) (v := ?_) rfl (by kernel_rfl) (by kernel_rfl) (by kernel_rfl) (fun _ _ _ h => h) (Or.inl ⟨by rfl, ?_⟩) (by assumption) ?_; rotate_left; (· (intro w0 hSw; obtain ⟨y0, y1⟩ := HRD.out _ hSw; clear hSw; go_simp); first | done | with_reducible rfl); (try simp only [Act.put, List.getElem_toArray, List.getElem_cons_succ, List.getElem_cons_zero, List.setIfInBounds_toArray, List.set_cons_zero, List.set_cons_succ])
            refine wpAnyH_done (by kernel_rfl) ?_ _
            go_wp2_with fail
            go_ret
            exact ⟨rfl, HX11.out.1.trans (HD.out.mono HX11.out.1.size)⟩
          · go_upto_region 24 with (at_builtin; refine wpList_append_own _ rfl _ _ 23 rfl VE.heap.size 46 i0 _ 2 16 und_piles9 HI.out.1 HI.out.2.1 HI.out.2.2.1 HI.out.2.2.2 rfl (by decide) v1 (1 + p) _ rfl HO.out ⟨gb, offb + (p + 1) * 2, none⟩ (l.length - (p + 1)) (d - (p + 1)) (pileV (l.drop (p + 1))) rfl (by rw [pileV_len, List.length_drop]) (HNX.out _ HD.out) (pileV_one _) (by unfold maxLen; omega) (by omega) HD.out.size ?_; intro v' w2 hown hgr hnn; clear hnn; have HO7 := Lib.hid hown; have HG7 := Lib.hid hgr; clear hown hgr)
            rw [HFRS.out, show 1 + p + (l.length - (p + 1)) = l.length by omega] at HO7
            obtain ⟨g18, cap18, rfl, h18a, h18b⟩ := own_g9 HO7.out (by omega)
            have HB7 : Hid (Below V2.heap.size V2 w2 → True) := Lib.hid fun _ => trivial
            have HX9 : Hid (Below w.heap.size w w2 ∧ Blk w2 gu 35 #[.int .i64 lo, .int .i64 hi]) := Lib.hid ⟨Below.grown HX8.out.1 HG7.out (Nat.le_trans (Nat.le_trans HX8.out.1.size (Nat.le_refl _)) (Nat.le_refl _)) fun j e => by have := (HO.out.lt j e).1; have := HX8.out.1.size; have := HVE.out; omega, HX8.out.2.kept HG7.out fun e => by have := (HO.out.lt _ e.symm).1; have := HVE.out; omega⟩
            clear HB7 HO HG7 HX8 HD HNX HFRS
            have HPF := Lib.hid (own_piles9 HO7.out (front_len l p hp))
            have HFC := Lib.hid (HFW.out w2 g18 cap18 HPF.out (HA.out.on HX9.out.1 (Nat.le_refl _)))
            go_wp2_with fail
            refine HFC.out.mono ?_
            rintro e W3 ⟨A8, c8, rfl, hr8, hb8⟩
            have HX10 := Lib.hid (And.intro (HX9.out.1.trans (hb8.mono HX9.out.1.size)) (HX9.out.2.below hb8 HX9.out.2.lt))
            have HGC := Lib.hid (HGW.out W3 g18 cap18 A8 c8 (HPF.out.on hb8 (Nat.le_refl _)) (HA.out.on HX10.out.1 (Nat.le_refl _)) hr8)
            clear hr8 hb8 HFC HX9 HPF HO7
            go_wp2_with fail
            refine HGC.out.mono ?_
            rintro e W4 ⟨g20, o20, c20, rfl, hg20, hc20, hb9⟩
            have HX11 := Lib.hid (And.intro (HX10.out.1.trans (hb9.mono HX10.out.1.size)) (HX10.out.2.below hb9 HX10.out.2.lt))
            have HRD : Hid (∀ W9, Below W4.heap.size W4 W9 → W9.cell? ⟨g20, o20, none⟩ = some (.int .i64 hi) ∧ W9.cell? ⟨gu, 1, none⟩ = some (.int .i64 hi)) := Lib.hid fun W9 h9 => ⟨(h9.cell (p := ⟨g20, o20, none⟩) hg20).trans hc20, (HX11.out.2.below h9 HX11.out.2.lt).cell 1⟩
            have hl1 : 0 < l.length := by omega
            clear hb9 HGC HX10 hc20
            go_upto_region 26 with fail
            have HD := Lib.hid ((Below.refl W4.heap.size W4).drew)
            refine wp_region_held_drew (S := fun W9 => Below W4.heap.size W4 W9) (by kernel_rfl) HD.out (fun hH0 => ?_)
            generalize World.drew _ = V0 at *
            simp only [List.size_toArray, List.length_cons, List.length_nil, Nat.reduceAdd, Array.replicate_succ, Array.replicate_zero, List.push_toArray, List.nil_append, List.cons_append]
            refine wpAnyH_take (i := 0 ) (v := ?_) rfl (by kernel_rfl) (by kernel_rfl) (by kernel_rfl) (fun _ _ _ h => h) (Or.inl ⟨by rfl, ?_⟩) (by assumption) ?_; rotate_left; (· (intro w0 hSw; obtain ⟨y0, y1⟩ := HRD.out _ hSw; clear hSw; go_simp); first | done | with_reducible rfl); (try simp only [Act.put, List.getElem_toArray, List.getElem_cons_zero, List.setIfInBounds_toArray, List.set_cons_zero, List.set_cons_succ])
            refine wpAnyH_take (i := 1 ) (v := ?_) rfl (by kernel_rfl) (by kernel_rfl) (by kernel_rfl) (fun _ _ _ h => h) (Or.inl ⟨by rfl, ?_⟩) (by assumption) ?_; rotate_left; (· (intro w0 hSw; obtain ⟨y0, y1⟩ := HRD.out _ hSw; clear hSw; go_simp); first | done | with_reducible rfl); (try simp only [Act.put, List.getElem_toArray, List.getElem_cons_succ, List.getElem_cons_zero, List.setIfInBounds_toArray, List.set_cons_zero, List.set_cons_succ])
            refine wpAnyH_take (i := 2 ) (v := ?_) rfl (by kernel_rfl) (by kernel_rfl) (by kernel_rfl) (fun _ _ _ h => h) (Or.inl ⟨by rfl, ?_⟩) (by assumption) ?_; rotate_left; (· (intro w0 hSw; obtain ⟨y0, y1⟩ := HRD.out _ hSw; clear hSw; go_simp); first | done | with_reducible rfl); (try simp only [Act.put, List.getElem_toArray, List.getElem_cons_succ, List.getElem_cons_zero, List.setIfInBounds_toArray, List.set_cons_zero, List.set_cons_succ])
            refine wpAnyH_take (i := 3 ) (v := ?_) rfl (by kernel_rfl) (by kernel_rfl) (by kernel_rfl) (fun _ _ _ h => h) (Or.inl ⟨by rfl, ?_⟩) (by assumption) ?_; rotate_left; (· (intro w0 hSw; obtain ⟨y0, y1⟩ := HRD.out _ hSw; clear hSw; go_simp); first | done | with_reducible rfl); (try simp only [Act.put, List.getElem_toArray, List.getElem_cons_succ, List.getElem_cons_zero, List.setIfInBounds_toArray, List.set_cons_zero, List.set_cons_succ])
            refine wpAnyH_take (i := 4 ) (v := ?_) rfl (by kernel_rfl) (by kernel_rfl) (by kernel_rfl) (fun _ _ _ h => h) (Or.inl ⟨by rfl, ?_⟩) (by assumption) ?_; rotate_left; (· (intro w0 hSw; obtain ⟨y0, y1⟩ := HRD.out _ hSw; clear hSw; go_simp); first | done | with_reducible rfl); (try simp only [Act.put, List.getElem_toArray, List.getElem_cons_succ, List.getElem_cons_zero, List.setIfInBounds_toArray, List.set_cons_zero, List.set_cons_succ])
            refine wpAnyH_take (i := 5 ) (v := ?_) rfl (by kernel_rfl) (by kernel_rfl) (by kernel_rfl) (fun _ _ _ h => h) (Or.inl ⟨by rfl, ?_⟩) (by assumption) ?_; rotate_left; (· (intro w0 hSw; obtain ⟨y0, y1⟩ := HRD.out _ hSw; clear hSw; go_simp); first | done | with_reducible rfl); (try simp only [Act.put, List.getElem_toArray, List.getElem_cons_succ, List.getElem_cons_zero, List.setIfInBounds_toArray, List.set_cons_zero, List.set_cons_succ])
            refine wpAnyH_take (i := 6 ) (v := ?_) rfl (by kernel_rfl) (by kernel_rfl) (by kernel_rfl) (fun _ _ _ h => h) (Or.inl ⟨by rfl, ?_⟩) (by assumption) ?_; rotate_left; (· (intro w0 hSw; obtain ⟨y0, y1⟩ := HRD.out _ hSw; clear hSw; go_simp); first | done | with_reducible rfl); (try simp only [Act.put, List.getElem_toArray, List.getElem_cons_succ, List.getElem_cons_zero, List.setIfInBounds_toArray, List.set_cons_zero, List.set_cons_succ])
            refine wpAnyH_take (i := 7 ) (v := ?_) rfl (by kernel_rfl) (by kernel_rfl) (by kernel_rfl) (fun _ _ _ h => h) (Or.inl ⟨by rfl, ?_⟩) (by assumption) ?_; rotate_left; (· (intro w0 hSw; obtain ⟨y0, y1⟩ := HRD.out _ hSw; clear hSw; go_simp); first | done | with_reducible rfl); (try simp only [Act.put, List.getElem_toArray, List.getElem_cons_succ, List.getElem_cons_zero, List.setIfInBounds_toArray, List.set_cons_zero, List.set_cons_succ])
            refine wpAnyH_take (i := 8 ) (v := ?_) rfl (by kernel_rfl) (by kernel_rfl) (by kernel_rfl) (fun _ _ _ h => h) (Or.inl ⟨by rfl, ?_⟩) (by assumption) ?_; rotate_left; (· (intro w0 hSw; obtain ⟨y0, y1⟩ := HRD.out _ hSw; clear hSw; go_simp); first | done | with_reducible rfl); (try simp only [Act.put, List.getElem_toArray, List.getElem_cons_succ, List.getElem_cons_zero, List.setIfInBounds_toArray, List.set_cons_zero, List.set_cons_succ])
            refine wpAnyH_take (i := 9 ) (v := ?_) rfl (by kernel_rfl) (by kernel_rfl) (by kernel_rfl) (fun _ _ _ h => h) (Or.inl ⟨by rfl, ?_⟩) (by assumption) ?_; rotate_left; (· (intro w0 hSw; obtain ⟨y0, y1⟩ := HRD.out _ hSw; clear hSw; go_simp); first | done | with_reducible rfl); (try simp only [Act.put, List.getElem_toArray, List.getElem_cons_succ, List.getElem_cons_zero, List.setIfInBounds_toArray, List.set_cons_zero, List.set_cons_succ])
            refine wpAnyH_take (i := 10 ) (v := ?_) rfl (by kernel_rfl) (by kernel_rfl) (by kernel_rfl) (fun _ _ _ h => h) (Or.inl ⟨by rfl, ?_⟩) (by assumption) ?_; rotate_left; (· (intro w0 hSw; obtain ⟨y0, y1⟩ := HRD.out _ hSw; clear hSw; go_simp); first | done | with_reducible rfl); (try simp only [Act.put, List.getElem_toArray, List.getElem_cons_succ, List.getElem_cons_zero, List.setIfInBounds_toArray, List.set_cons_zero, List.set_cons_succ])
            refine wpAnyH_take (i := 11 ) (v := ?_) rfl (by kernel_rfl) (by kernel_rfl) (by kernel_rfl) (fun _ _ _ h => h) (Or.inl ⟨by rfl, ?_⟩) (by assumption) ?_; rotate_left; (· (intro w0 hSw; obtain ⟨y0, y1⟩ := HRD.out _ hSw; clear hSw; go_simp); first | done | with_reducible rfl); (try simp only [Act.put, List.getElem_toArray, List.getElem_cons_succ, List.getElem_cons_zero, List.setIfInBounds_toArray, List.set_cons_zero, List.set_cons_succ])
            refine wpAnyH_take (i := 12 ) (v := ?_) rfl (by kernel_rfl) (by kernel_rfl) (by kernel_rfl) (fun _ _ _ h => h) (Or.inl ⟨by rfl, ?_⟩) (by assumption) ?_; rotate_left; (· (intro w0 hSw; obtain ⟨y0, y1⟩ := HRD.out _ hSw; clear hSw; go_simp); first | done | with_reducible rfl); (try simp only [Act.put, List.getElem_toArray, List.getElem_cons_succ, List.getElem_cons_zero, List.setIfInBounds_toArray, List.set_cons_zero, List.set_cons_succ])
            refine wpAnyH_take (i := 13 ) (v := ?_) rfl (by kernel_rfl) (by kernel_rfl) (by kernel_rfl) (fun _ _ _ h => h) (Or.inl ⟨by rfl, ?_⟩) (by assumption) ?_; rotate_left; (· (intro w0 hSw; obtain ⟨y0, y1⟩ := HRD.out _ hSw; clear hSw; go_simp); first | done | with_reducible rfl); (try simp only [Act.put, List.getElem_toArray, List.getElem_cons_succ, List.getElem_cons_zero, List.setIfInBounds_toArray, List.set_cons_zero, List.set_cons_succ])
            refine wpAnyH_ready (rs := [14]) (by kernel_rfl) (by simp) ?_
            refine AllReadyH.cons (by simp only [List.getElem?_toArray, List.getElem?_cons_succ, List.getElem?_cons_zero]; rfl) (fun K hK => ?_) AllReadyH.nil
            go_simp
            refine (HAW.out _).mono ?_
            rintro e W5 ⟨rfl, hb5⟩
            replace HD := Lib.hid (HD.out.trans (hb5.mono HD.out.size))
            clear hb5
            refine hK.out _ _ HD.out (fun hH1 => ?_)
            clear hK K
            try simp only [List.setIfInBounds_toArray, List.set_cons_zero, List.set_cons_succ]
            refine wpAnyH_take (i := 15 ) (v := ?_) rfl (by kernel_rfl) (by kernel_rfl) (by kernel_rfl) (fun _ _ _ h => h) (Or.inl ⟨by rfl, ?_⟩) (by assumption) ?_; rotate_left; (· (intro w0 hSw; obtain ⟨y0, y1⟩ := HRD.out _ hSw; clear hSw; go_simp); first | done | with_reducible rfl); (try simp only [Act.put, List.getElem_toArray, List.getElem_cons_succ, List.getElem_cons_zero, List.setIfInBounds_toArray, List.set_cons_zero, List.set_cons_succ])
            refine wpAnyH_take (i := 16 ) (v := ?_) rfl (by kernel_rfl) (by kernel_rfl) (by kernel_rfl) (fun _ _ _ h => h) (Or.inl ⟨by rfl, ?_⟩) (by assumption) ?_; rotate_left; (· (intro w0 hSw; obtain ⟨y0, y1⟩ := HRD.out _ hSw; clear hSw; go_simp); first | done | with_reducible rfl); (try simp only [Act.put, List.getElem_toArray, List.getElem_cons_succ, List.getElem_cons_zero, List.setIfInBounds_toArray, List.set_cons_zero, List.set_cons_succ])
            refine wpAnyH_done (by kernel_rfl) ?_ _
            go_wp2_with fail
            go_ret
            exact ⟨rfl, HX11.out.1.trans (HD.out.mono HX11.out.1.size)⟩
end Go.Proofs.Ythapgiajbonhgaa
