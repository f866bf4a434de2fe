/- Walks: the law BoxLack. -/
import Derived.Test.YthapgiajbonhgaaOa
import Derived.Test.YthapgiajbonhgaaAi
namespace Go.Proofs.Ythapgiajbonhgaa
open Go.RowKit Go.Shelf

structure LkW (w : World) (A B : Option Addr) (c d n m : Nat) (b : Int) (W : World) : Prop where
  hb : Below w.heap.size w W
  k4 : Blk W w.heap.size 22 #[.slice A n c]
  k5 : Blk W (w.heap.size + 1) 23 #[.slice B m d]
  k6 : Blk W (w.heap.size + 1 + 1) 3 #[.int .i64 b]
theorem LkW.call {w : World} {A B : Option Addr} {c d n m : Nat} {b : Int} {W W' : World} (h : LkW w A B c d n m b W) (hb : Below W.heap.size W W') : LkW w A B c d n m b W' :=
  ⟨h.hb.trans (hb.mono h.hb.size), h.k4.below hb h.k4.lt, h.k5.below hb h.k5.lt, h.k6.below hb h.k6.lt⟩
theorem err_cases {need : List Int} {l : List Pile} {b : Int} (h : errE need l b ≠ 0) : errE need l b = 1 ∨ errE need l b = 2 := by
  unfold errE at *
  split
  · rename_i h1
    rw [if_pos h1] at h
    split
    · rename_i h2; rw [if_pos h2] at h; exact absurd rfl h
    · right; rfl
  · left; rfl
theorem cast_lt {x m : Nat} (h : x < 2 ^ m) : (x : Int) < 2 ^ m := by exact_mod_cast h
theorem pileV_app : ∀ (l : List Pile) (p : Pile), pileV (l ++ [p]) = pileV l ++ [.int .i64 p.shades, .int .i64 p.many]
  | [], _ => rfl
  | q :: l, p => by simp only [List.cons_append, pileV, pileV_app l p]
theorem need_full_nonneg {l : List Pile} (h : PilesIn l) : ∀ p ∈ l, 0 ≤ p.many := fun p hp => (h.2 p hp).2.1
theorem wp_app_none {P : Program} {w : World} {o : Oper} {a : Act} {K : Act → World → Prop} {Q : Exit → Act → World → Prop} (s x : Operand) (t : TypeId)
    (ho : o.op = .call { callee := .builtin .append, args := #[s, x], argTypes := #[t, t] })
    (base : Nat) (e : TypeId) (i : TypeInfo) (size : Nat) (ht : P.underlying t = some (.slice e)) (hi : P.info? e = some i)
    (v : Value) (n : Nat) (xs : List Value) (hs : a.eval s = v) (hown : w.ownsRow base e size v n xs) (hx : a.eval x = .slice none 0 0)
    (h : K (a.put o.dst v) w) : o.wp P a w K Q := by
  have hrun := run_append_owned_none (P := P) (w := w) base t o.type e i size ht hi v n xs hown
  unfold Oper.wp
  simp [execOp, ho, resolve, invoke, builtin, hs, hx, hrun, Result.andThen]
  exact h
theorem wrap_tab : ∀ k < 9, wrap64 ((2 : Int) ^ k - 1) = ((2 ^ k - 1 : Nat) : Int) := by decide +kernel
theorem wrap_tab3 : ∀ k < 9, IntKind.i64.wrap (IntKind.i64.wrap ((2 : Int) ^ k) - 1) = ((2 ^ k - 1 : Nat) : Int) := by decide +kernel
theorem wrap_tab2 : ∀ x < 256, wrap64 (1 + (x : Nat)) = ((1 + x : Nat) : Int) := by decide +kernel
theorem other_eq {other : Int} {m : Nat} (h0 : 0 ≤ other) (h1 : other ≤ 255) (h2 : 1 ≤ m) (h3 : m ≤ 8) : wrap64 (1 + other % wrap64 (2 ^ m - 1)) = ((1 + other.toNat % (2 ^ m - 1) : Nat) : Int) := by
  rw [wrap_tab m (by omega)]
  obtain ⟨x, rfl⟩ : ∃ x : Nat, other = x := ⟨other.toNat, by omega⟩
  rw [← Int.natCast_emod, Int.toNat_natCast]
  exact wrap_tab2 _ (Nat.lt_of_le_of_lt (Nat.mod_le _ _) (by omega))
set_option maxRecDepth 100000 in
set_option maxHeartbeats 8000000 in
theorem lacks9_any (w : World) (A B : Option Addr) (c d : Nat) (need : List Int) (l : List Pile) (b other : Int) (hn : need.length ≤ 9223372036854775807) (hl : l.length ≤ 9223372036854775807) (hA : IntSl w w.heap.size A need) (hB : PileSl w w.heap.size B l) (hot : 0 ≤ other ∧ other ≤ 255) (hnil : B = none → l.length = 0 ∧ d = 0) :
    Calls Try.prog 8 #[.slice A need.length c, .slice B l.length d, .int .i64 b, .int .u8 other] w (Ret (.bool true) w) := by
  have HAW := Lib.hid fun W => awake9_any W
  have HW : Hid (LkW w A B c d need.length l.length b (((w.alloc (.cells #[.slice A need.length c] 22)).alloc (.cells #[.slice B l.length d] 23)).alloc (.cells #[.int .i64 b] 3))) := Lib.hid ⟨by repeat (first | exact Below.refl _ _ | assumption | refine Below.drew ?_ | refine Below.alloc ?_ (by first | omega | (simp only [World.size_alloc]; omega) | simp) _ | refine Below.setCell ?_ (by first | omega | (simp only [World.size_alloc]; omega) | simp) _), ((Blk.new _ _ _).alloc _).alloc _, (blk9 _ _ (by simp)).alloc _, blk9 _ _ (by simp)⟩
  have HA := Lib.hid hA
  have HB := Lib.hid hB
  have HNI := Lib.hid hnil
  clear hA hB hnil
  go_enter Try.func8, Try.ntmps8
  go_upto_region 1 with fail
  generalize World.alloc (World.alloc (World.alloc w _) _) _ = w0 at *
  have y4 := HW.out.k4.cell 0; have y5 := HW.out.k5.cell 0; have y6 := HW.out.k6.cell 0
  go_wp2_with fail
  refine (large9_any w0 A B need.length l.length c d hn hl).mono ?_
  rintro e w' ⟨rfl, rfl⟩
  cases hlg : (decide (14 < need.length) || decide (14 < l.length)) with
  | true =>
    go_wp2_with fail
    refine (HAW.out _).mono ?_
    rintro e w1 ⟨rfl, hb1⟩
    replace HW := Lib.hid (HW.out.call hb1)
    clear hb1
    go_wp2_with fail
    go_ret
    exact ⟨rfl, HW.out.hb⟩
  | false =>
    clear hlg
    go_wp2_with fail
    refine (lack_any w0 A B c d need l b hn hl (HA.out.on HW.out.hb (Nat.le_refl _)) (HB.out.on HW.out.hb (Nat.le_refl _))).mono ?_
    rintro e w1 ⟨rfl, hb1⟩
    replace HW := Lib.hid (HW.out.call hb1)
    clear y4 y5 y6 hb1
    have y4 := HW.out.k4.cell 0; have y5 := HW.out.k5.cell 0; have y6 := HW.out.k6.cell 0
    go_wp2_with fail
    refine (fill_any w1 A B c d need l b hn hl (HA.out.on HW.out.hb (Nat.le_refl _)) (HB.out.on HW.out.hb (Nat.le_refl _))).mono ?_
    rintro e w2 ⟨A2, c2, rfl, -, hb2⟩
    replace HW := Lib.hid (HW.out.call hb2)
    clear y4 y5 y6 hb2
    by_cases h0 : errE need l b = 0
    · obtain ⟨hok, hb0, hb1⟩ := errE_0 h0
      obtain ⟨hN, hP, hc1, hc8⟩ := ok_in hok
      by_cases hpos : 0 < (lackR need l b).2
      · obtain ⟨⟨hs1, hs2⟩, hs3, hs4⟩ := lackR_spec hpos
        have hcan : canB need l b = false := by
          cases h : canB need l b with
          | false => rfl
          | true => have := can_lack.1 h; omega
        have eL : lackA need l b = (((lackR need l b).1 : Int), (lackR need l b).2, 0) := by unfold lackA; rw [if_pos h0, if_pos hpos]
        have eF : (fillA need l b).2 = 10 := by unfold fillA; rw [if_pos h0, if_neg (by rw [hcan]; simp)]
        have HF1 := Lib.hid (fun h => lack_filled (need := need) (l := l) (b := b) h hpos)
        have HF2 := Lib.hid (lack_short (need := need) (l := l) (b := b) hpos)
        have HLL := Lib.hid (fun t h1 h2 => lackR_le (need := need) (l := l) (b := b) (t := t) h1 h2)
        have HOK := Lib.hid hok
        rw [eL, eF]
        generalize (fillA need l b).1.length = fl at *
        have HS4 := Lib.hid hs4
        have HS3 := Lib.hid hs3
        generalize (lackR need l b).1 = sN at *
        generalize (lackR need l b).2 = n at *
        clear eL eF hcan hok hN hs4 hs3
        go_upto_region 7 with fail
        have y4 := HW.out.k4.cell 0; have y5 := HW.out.k5.cell 0; have y6 := HW.out.k6.cell 0
        go_wp2_with fail
        refine (rValid_any w2 A B c d need l hn hl (HA.out.on HW.out.hb (Nat.le_refl _)) (HB.out.on HW.out.hb (Nat.le_refl _))).mono ?_
        rintro e w3 ⟨rfl, hb3⟩
        rw [HOK.out]
        replace HW := Lib.hid (HW.out.call hb3)
        clear y4 y5 y6 hb3
        have y4 := HW.out.k4.cell 0; have y5 := HW.out.k5.cell 0; have y6 := HW.out.k6.cell 0
        go_upto_region 10 with fail
        have hp64 := pow_tab need.length (by omega)
        have hP1 : 2 ^ 1 ≤ 2 ^ need.length := Nat.pow_le_pow_right (by omega) hc1
        have hP2 : 2 ^ need.length ≤ 2 ^ 8 := Nat.pow_le_pow_right (by omega) hc8
        have hoN := other_eq hot.1 hot.2 hc1 hc8
        have hnz : ¬ wrap64 ((2 : Int) ^ need.length - 1) = 0 := by rw [wrap_tab need.length (by omega)]; omega
        have hnz2 : (wrap64 ((2 : Int) ^ need.length - 1) == 0) = false := beq_eq_false_iff_ne.2 hnz
        have hL0 : (0 : Int) ≤ need.length := by omega
        have hL1 : (need.length : Int) ≤ 8 := by omega
        go_upto_region 11 with fail
        rw [hoN]
        obtain ⟨oN, hoE⟩ : ∃ x : Nat, x = 1 + other.toNat % (2 ^ need.length - 1) := ⟨_, rfl⟩
        have ho1 : 1 ≤ oN := by omega
        have ho2 : oN < 2 ^ need.length := by have := Nat.mod_lt other.toNat (show 0 < 2 ^ need.length - 1 by omega); omega
        rw [← hoE]
        have hlo := HLL.out oN ho1 ho2
        have hlf := HS4.out oN ho1 ho2
        have HLK : Hid (∀ W (s : Nat), s < 256 → LkW w A B c d need.length l.length b W → Calls Try.prog 27 #[.int .i64 (s : Int), .pointer (some ⟨w.heap.size + 1 + 1, 0, none⟩), .pointer (some ⟨w.heap.size, 0, none⟩), .pointer (some ⟨w.heap.size + 1, 0, none⟩)] W (Ret (.int .i64 (lackS need l b s)) W)) := Lib.hid fun W s hs hW => lk1_any W _ _ _ c d s A B need l b hs HOK.out ⟨hb0, hb1⟩ hW.k6 hW.k4 hW.k5 (HA.out.on hW.hb (Nat.le_refl _)) (HB.out.on hW.hb (Nat.le_refl _))
        have hs8 : sN < 256 := by omega
        have ho8 : oN < 256 := by omega
        have HSN : Hid (lackS need l b sN = n) := HS3
        have hsi1 : ¬ (sN : Int) < 1 := by omega
        have hsi2 : ¬ wrap64 ((2 : Int) ^ need.length) ≤ (sN : Int) := by rw [hp64]; omega
        have hni : ¬ n < 1 := by omega
        have HLKS : Hid (∀ W, LkW w A B c d need.length l.length b W → Calls Try.prog 27 #[.int .i64 (sN : Int), .pointer (some ⟨w.heap.size + 1 + 1, 0, none⟩), .pointer (some ⟨w.heap.size, 0, none⟩), .pointer (some ⟨w.heap.size + 1, 0, none⟩)] W (Ret (.int .i64 n) W)) := Lib.hid fun W hW => by have := HLK.out W sN hs8 hW; rwa [HSN.out] at this
        have HLKO := Lib.hid fun W hW => HLK.out W oN ho8 hW
        clear HLK HSN HS3 HS4 HLL
        generalize lackS need l b oN = lo at *
        have hlon : (lo == n && decide ((oN : Int) < (sN : Int))) = false := by
          cases h : (lo == n) with
          | false => rfl
          | true =>
            have h1 : lo = n := by simpa using h
            have : ¬ (oN : Int) < sN := fun h2 => by have := hlf (by omega); omega
            rw [decide_eq_false this]
            rfl
        have hgt : ¬ n < lo := by omega
        have HLON := Lib.hid hlon
        clear hlf hlo hlon hoN hp64 hoE
        go_upto_region 13 with fail
        go_cut [147] (fun s wx => s = .bool false ∧ Hid (LkW w A B c d need.length l.length b wx))
        case first => as_aux_lemma =>
          have y4 := HW.out.k4.cell 0; have y5 := HW.out.k5.cell 0; have y6 := HW.out.k6.cell 0
          go_wp2_with fail
          refine (HLKS.out _ HW.out).mono ?_
          rintro e w4 ⟨rfl, hb4⟩
          replace HW := Lib.hid (HW.out.call hb4)
          clear y4 y5 y6 hb4
          have y4 := HW.out.k4.cell 0; have y5 := HW.out.k5.cell 0; have y6 := HW.out.k6.cell 0
          go_wp2_with fail
          refine (HLKO.out _ HW.out).mono ?_
          rintro e w5 ⟨rfl, hb5⟩
          replace HW := Lib.hid (HW.out.call hb5)
          clear y4 y5 y6 hb5
          have y4 := HW.out.k4.cell 0; have y5 := HW.out.k5.cell 0; have y6 := HW.out.k6.cell 0
          go_wp2_with fail
          refine (HLKO.out _ HW.out).mono ?_
          rintro e w6 ⟨rfl, hb6⟩
          replace HW := Lib.hid (HW.out.call hb6)
          clear y4 y5 y6 hb6
          cases hln : (lo == n) with
          | true =>
            have hno : ¬ (oN : Int) < sN := fun h => by have := HLON.out; rw [hln, decide_eq_true h] at this; cases this
            go_wp2_with fail
            go_meet
            exact ⟨by rw [show decide (n < lo) = false from decide_eq_false (by omega), show decide (oN < sN) = false from decide_eq_false (by omega)]; rfl, HW⟩
          | false =>
            go_wp2_with fail
            go_meet
            exact ⟨by rw [show decide (n < lo) = false from decide_eq_false (by omega)], HW⟩
        case rest =>
          obtain ⟨rfl, HW⟩ := hcut
          rename World => w7
          clear HLKS HLKO HLON hgt hnz hnz2
          have y4 := HW.out.k4.cell 0; have y5 := HW.out.k5.cell 0; have y6 := HW.out.k6.cell 0
          have hll0 : (0 : Int) ≤ l.length := by omega
          by_cases hl8 : 8 ≤ l.length
          · have hl8' : (8 : Int) ≤ l.length := by omega
            go_wp2_with fail
            refine (HAW.out _).mono ?_
            rintro e w8 ⟨rfl, hb8⟩
            go_wp2_with fail
            go_ret
            exact ⟨rfl, (HW.out.call hb8).hb⟩
          · have hl8' : ¬ (8 : Int) ≤ l.length := by omega
            by_cases hn20 : 1048576 < n
            · go_wp2_with fail
              refine (HAW.out _).mono ?_
              rintro e w8 ⟨rfl, hb8⟩
              go_wp2_with fail
              go_ret
              exact ⟨rfl, (HW.out.call hb8).hb⟩
            · go_upto_region 17 with fail
              have hok1 : boxOk need (l ++ [⟨(sN : Int), n⟩]) = true := boxOk_app HOK.out (by omega) ⟨Int.natCast_nonneg _, cast_lt hs2⟩ ⟨by show 0 ≤ n; omega, by show n ≤ 1048576; omega⟩
              have hok2 : boxOk need (l ++ [⟨((2 ^ need.length - 1 : Nat) : Int), n - 1⟩]) = true := boxOk_app HOK.out (by omega) ⟨Int.natCast_nonneg _, cast_lt (by omega)⟩ ⟨by show 0 ≤ n - 1; omega, by show n - 1 ≤ 1048576; omega⟩
              have he1 := errE_app h0 HOK.out hok1
              have he2 := errE_app h0 HOK.out hok2
              have hc1' := HF1.out (need_full_nonneg hP)
              have HFL1 : Hid (∀ W g cz, PileSl W W.heap.size (some ⟨g, 0, none⟩) (l ++ [⟨(sN : Int), n⟩]) → IntSl W W.heap.size A need → Calls Try.prog 17 #[.slice A need.length c, .slice (some ⟨g, 0, none⟩) (l.length + 1) cz, .int .i64 b] W fun e w' => ∃ A' f' c', e = .returned (.tuple #[.slice A' f' c', .int .i64 0]) ∧ Below W.heap.size W w') := Lib.hid fun W g cz h1 h2 => by
                have h9 := fill_any W A (some ⟨g, 0, none⟩) c cz need (l ++ [⟨(sN : Int), n⟩]) b hn (by rw [List.length_append]; simp; omega) h2 h1
                rw [show (l ++ [(⟨(sN : Int), n⟩ : Pile)]).length = l.length + 1 by rw [List.length_append]; rfl] at h9
                refine h9.mono ?_
                rintro e w' ⟨A', c', rfl, -, hb⟩
                exact ⟨A', _, c', by rw [show (fillA need (l ++ [(⟨(sN : Int), n⟩ : Pile)]) b).2 = 0 by unfold fillA; rw [if_pos he1, if_pos hc1']], hb⟩
              have HFL2 : Hid (∀ W g cz, PileSl W W.heap.size (some ⟨g, 0, none⟩) (l ++ [⟨((2 ^ need.length - 1 : Nat) : Int), n - 1⟩]) → IntSl W W.heap.size A need → Calls Try.prog 17 #[.slice A need.length c, .slice (some ⟨g, 0, none⟩) (l.length + 1) cz, .int .i64 b] W fun e w' => ∃ A' f' c', e = .returned (.tuple #[.slice A' f' c', .int .i64 10]) ∧ Below W.heap.size W w') := Lib.hid fun W g cz h1 h2 => by
                have h9 := fill_any W A (some ⟨g, 0, none⟩) c cz need (l ++ [⟨((2 ^ need.length - 1 : Nat) : Int), n - 1⟩]) b hn (by rw [List.length_append]; simp; omega) h2 h1
                rw [show (l ++ [(⟨((2 ^ need.length - 1 : Nat) : Int), n - 1⟩ : Pile)]).length = l.length + 1 by rw [List.length_append]; rfl] at h9
                refine h9.mono ?_
                rintro e w' ⟨A', c', rfl, -, hb⟩
                exact ⟨A', _, c', by rw [show (fillA need (l ++ [(⟨((2 ^ need.length - 1 : Nat) : Int), n - 1⟩ : Pile)]) b).2 = 10 by unfold fillA; rw [if_pos he2, if_neg (by rw [HF2.out]; simp)]], hb⟩
              clear hok1 hok2 he1 he2 hc1' HF1 HF2 hsi1 hsi2 hni hs1 hs2 y4 y5 y6 hll0 hl8'
              obtain ⟨i0, hi, hz0, hz1, hz2⟩ := info9 pileInfo9
              have HI := Lib.hid (And.intro hi (And.intro hz0 (And.intro hz1 hz2)))
              clear hi hz0 hz1 hz2
              go_cut [16, 17] (fun _ s17 wx => s17 = .int .i64 0 ∧ Hid (LkW w A B c d need.length l.length b wx))
              case first => as_aux_lemma =>
                have HRD : Hid (∀ W9, Below w7.heap.size w7 W9 → W9.cell? ⟨w.heap.size, 0, none⟩ = some (.slice A need.length c) ∧ W9.cell? ⟨w.heap.size + 1, 0, none⟩ = some (.slice B l.length d) ∧ W9.cell? ⟨w.heap.size + 1 + 1, 0, none⟩ = some (.int .i64 b)) := Lib.hid fun W9 h9 => ⟨(HW.out.call h9).k4.cell 0, (HW.out.call h9).k5.cell 0, (HW.out.call h9).k6.cell 0⟩
                have HD := Lib.hid ((Below.refl w7.heap.size w7).drew)
                rcases hB? : B with _ | ad
                · subst hB?
                  obtain ⟨hl00, rfl⟩ := HNI.out rfl
                  have HNIL : Hid (l = []) := Lib.hid (List.eq_nil_of_length_eq_zero hl00)
                  have HL0E : Hid (Value.slice none 0 0 = Value.slice none l.length 0) := Lib.hid (by rw [hl00])
                  rw [hl00] at HRD ⊢
                  clear hl00
                  as_aux_lemma =>
                    refine wp_region_held_drew (S := fun W9 => Below w7.heap.size w7 W9) (by kernel_rfl) HD.out (fun hH0 => ?_)
                    generalize World.drew _ = V0 at *
                    simp only [List.size_toArray, List.length_cons, List.length_nil, Nat.reduceAdd, Array.replicate_succ, Array.replicate_zero, List.push_toArray, List.nil_append, List.cons_append]
                    refine wpAnyH_take (i := 0 ) (v := ?_) rfl (by kernel_rfl) (by kernel_rfl) (by kernel_rfl) (fun _ _ _ h => h) (Or.inl ⟨by rfl, ?_⟩) (by assumption) ?_; rotate_left; (· (intro w0 hSw; obtain ⟨y4, y5, y6⟩ := HRD.out _ hSw; clear hSw; go_simp); first | done | with_reducible rfl); (try simp only [Act.put, List.getElem_toArray, List.getElem_cons_zero, List.setIfInBounds_toArray, List.set_cons_zero, List.set_cons_succ])
                    refine wpAnyH_take (i := 2 ) (v := ?_) rfl (by kernel_rfl) (by kernel_rfl) (by kernel_rfl) (fun _ _ _ h => h) (Or.inl ⟨by rfl, ?_⟩) (by assumption) ?_; rotate_left; (· (intro w0 hSw; obtain ⟨y4, y5, y6⟩ := HRD.out _ hSw; clear hSw; go_simp); first | done | with_reducible rfl); (try simp only [Act.put, List.getElem_toArray, List.getElem_cons_succ, List.getElem_cons_zero, List.setIfInBounds_toArray, List.set_cons_zero, List.set_cons_succ])
                    refine wpAnyH_take (i := 4 ) (v := ?_) rfl (by kernel_rfl) (by kernel_rfl) (by kernel_rfl) (fun _ _ _ h => h) (Or.inl ⟨by rfl, ?_⟩) (by assumption) ?_; rotate_left; (· (intro w0 hSw; obtain ⟨y4, y5, y6⟩ := HRD.out _ hSw; clear hSw; go_simp); first | done | with_reducible rfl); (try simp only [Act.put, List.getElem_toArray, List.getElem_cons_succ, List.getElem_cons_zero, List.setIfInBounds_toArray, List.set_cons_zero, List.set_cons_succ])
                    refine wpAnyH_take (i := 5 ) (v := ?_) rfl (by kernel_rfl) (by kernel_rfl) (by kernel_rfl) (fun _ _ _ h => h) (Or.inl ⟨by rfl, ?_⟩) (by assumption) ?_; rotate_left; (· (intro w0 hSw; obtain ⟨y4, y5, y6⟩ := HRD.out _ hSw; clear hSw; go_simp); first | done | with_reducible rfl); (try simp only [Act.put, List.getElem_toArray, List.getElem_cons_succ, List.getElem_cons_zero, List.setIfInBounds_toArray, List.set_cons_zero, List.set_cons_succ])
                    refine wpAnyH_take (i := 6 ) (v := ?_) rfl (by kernel_rfl) (by kernel_rfl) (by kernel_rfl) (fun _ _ _ h => h) (Or.inl ⟨by rfl, ?_⟩) (by assumption) ?_; rotate_left; (· (intro w0 hSw; obtain ⟨y4, y5, y6⟩ := HRD.out _ hSw; clear hSw; go_simp); first | done | with_reducible rfl); (try simp only [Act.put, List.getElem_toArray, List.getElem_cons_succ, List.getElem_cons_zero, List.setIfInBounds_toArray, List.set_cons_zero, List.set_cons_succ])
                    refine wpAnyH_take (i := 9 ) (v := ?_) rfl (by kernel_rfl) (by kernel_rfl) (by kernel_rfl) (fun _ _ _ h => h) (Or.inl ⟨by rfl, ?_⟩) (by assumption) ?_; rotate_left; (· (intro w0 hSw; obtain ⟨y4, y5, y6⟩ := HRD.out _ hSw; clear hSw; go_simp); first | done | with_reducible rfl); (try simp only [Act.put, List.getElem_toArray, List.getElem_cons_succ, List.getElem_cons_zero, List.setIfInBounds_toArray, List.set_cons_zero, List.set_cons_succ])
                    refine wpAnyH_ready (rs := [1, 7]) (by kernel_rfl) (by simp) ?_
                    refine AllReadyH.cons (by simp only [List.getElem?_toArray, List.getElem?_cons_succ, List.getElem?_cons_zero]; rfl) (fun K hK => ?_) ?_
                    · go_simp
                      have HO := Lib.hid (own_zero9 (t := 46) V0 w7.heap.size HD.out.size 2)
                      replace HD := Lib.hid (HD.out.alloc HD.out.size (.cells #[] 46))
                      have HSZ0 : Hid ((World.alloc V0 (.cells #[] 46)).heap.size = V0.heap.size + 1) := Lib.hid (by simp)
                      generalize World.alloc V0 _ = V1 at *
                      refine hK.out _ _ HD.out (fun hH1 => ?_)
                      clear hK K
                      try simp only [List.setIfInBounds_toArray, List.set_cons_zero, List.set_cons_succ]
                      refine wpAnyH_ready (rs := [3, 7]) (by kernel_rfl) (by simp) ?_
                      refine AllReadyH.cons (by simp only [List.getElem?_toArray, List.getElem?_cons_succ, List.getElem?_cons_zero]; rfl) (fun K hK => ?_) ?_
                      · rw [if_pos (by rfl)]
                        refine wp_app_none _ _ 23 (by rfl) w7.heap.size 46 i0 2 und_piles9 HI.out.1 (.slice (some ⟨V0.heap.size, 0, none⟩) 0 0) 0 [] (by rfl) HO.out (by rfl) ?_
                        simp only [Act.put, List.setIfInBounds_toArray, List.set_cons_zero, List.set_cons_succ]
                        replace HO : Hid (V1.ownsRow w7.heap.size 46 2 (.slice (some ⟨V0.heap.size, 0, none⟩) 0 0) l.length (pileV l)) := Lib.hid (by rw [HNIL.out]; exact HO.out)
                        refine hK.out _ _ HD.out (fun hH2 => ?_)
                        clear hK K
                        try simp only [List.setIfInBounds_toArray, List.set_cons_zero, List.set_cons_succ]
                        refine wpAnyH_ready (rs := [7]) (by kernel_rfl) (by simp) ?_
                        refine AllReadyH.cons (by simp only [List.getElem?_toArray, List.getElem?_cons_succ, List.getElem?_cons_zero]; rfl) (fun K hK => ?_) ?_
                        · rw [if_pos (by rfl)]
                          refine wp_bs 23 46 1 _ (by rfl) #[.int .i64 (sN : Int), .int .i64 n] [.agg #[.int .i64 (sN : Int), .int .i64 n]] (.agg #[.int .i64 0, .int .i64 0]) 2 (by kernel_rfl) (by kernel_rfl) (by decide) (by rfl) (by rfl) (by rfl) (by rfl) ?_
                          simp only [Act.put, List.setIfInBounds_toArray, List.set_cons_zero, List.set_cons_succ]
                          have KC := Lib.hid (Blk.new V1 46 #[.int .i64 (sN : Int), .int .i64 n])
                          replace HO := Lib.hid (own_low9 HO.out ((Below.refl V1.heap.size V1).alloc (Nat.le_refl _) (.cells #[.int .i64 (sN : Int), .int .i64 n] 46)))
                          replace HD := Lib.hid (HD.out.alloc HD.out.size (.cells #[.int .i64 (sN : Int), .int .i64 n] 46))
                          have HSZ1 : Hid ((World.alloc V1 (.cells #[.int .i64 (sN : Int), .int .i64 n] 46)).heap.size = V1.heap.size + 1) := Lib.hid (by simp)
                          generalize World.alloc V1 _ = V2 at *
                          refine hK.out _ _ HD.out (fun hH3 => ?_)
                          clear hK K
                          try simp only [List.setIfInBounds_toArray, List.set_cons_zero, List.set_cons_succ]
                          refine wpAnyH_ready (rs := [8]) (by kernel_rfl) (by simp) ?_
                          refine AllReadyH.cons (by simp only [List.getElem?_toArray, List.getElem?_cons_succ, List.getElem?_cons_zero]; rfl) (fun K hK => ?_) ?_
                          · rw [if_pos (by rfl)]
                            refine wp_append_own _ _ _ 23 (by rfl) w7.heap.size 46 i0 _ 2 16 und_piles9 HI.out.1 HI.out.2.1 HI.out.2.2.1 HI.out.2.2.2 rfl (by decide) (.slice (some ⟨V0.heap.size, 0, none⟩) 0 0) l.length (pileV l) (by rfl) HO.out ⟨V1.heap.size, 0, none⟩ 1 1 [.int .i64 (sN : Int), .int .i64 n] (by rfl) (by rfl) (World.news_of_block (cs := #[.int .i64 (sN : Int), .int .i64 n]) (t := 46) (fr := (0, 0)) KC.out) (by simp [Value.oneCell']) (by unfold maxLen; omega) (by omega) HD.out.size ?_
                            intro v2 VZ hown hgr hnn
                            clear hnn
                            simp only [Act.put, List.setIfInBounds_toArray, List.set_cons_zero, List.set_cons_succ]
                            replace HD := Lib.hid (Below.grown HD.out hgr HD.out.size fun j e => (HO.out.lt j e).1)
                            replace HO := Lib.hid hown
                            clear hown hgr KC
                            obtain ⟨gz, cz, rfl, hz1, hz2⟩ := own_g9 HO.out (by omega)
                            have HPS := Lib.hid (own_piles9 (l := l ++ [⟨(sN : Int), n⟩]) (by rw [pileV_app]; exact HO.out) (by simp))
                            clear HO
                            refine hK.out _ _ HD.out (fun hH4 => ?_)
                            clear hK K
                            try simp only [List.setIfInBounds_toArray, List.set_cons_zero, List.set_cons_succ]
                            refine wpAnyH_ready (rs := [10]) (by kernel_rfl) (by simp) ?_
                            refine AllReadyH.cons (by simp only [List.getElem?_toArray, List.getElem?_cons_succ, List.getElem?_cons_zero]; rfl) (fun K hK => ?_) AllReadyH.nil
                            go_simp
                            refine (HFL1.out VZ gz cz HPS.out (HA.out.on (HW.out.call HD.out).hb (Nat.le_refl _))).mono ?_
                            rintro e VY ⟨AZ, fz, c9, rfl, hb9⟩
                            replace HD := Lib.hid (HD.out.trans (hb9.mono HD.out.size))
                            clear hb9 HPS
                            refine hK.out _ _ HD.out (fun hH5 => ?_)
                            clear hK K
                            try simp only [List.setIfInBounds_toArray, List.set_cons_zero, List.set_cons_succ]
                            refine wpAnyH_take (i := 11 ) (v := ?_) rfl (by kernel_rfl) (by kernel_rfl) (by kernel_rfl) (fun _ _ _ h => h) (Or.inl ⟨by rfl, ?_⟩) (by assumption) ?_; rotate_left; (· (intro w0 hSw; obtain ⟨y4, y5, y6⟩ := HRD.out _ hSw; clear hSw; go_simp); first | done | with_reducible rfl); (try simp only [Act.put, List.getElem_toArray, List.getElem_cons_succ, List.getElem_cons_zero, List.setIfInBounds_toArray, List.set_cons_zero, List.set_cons_succ])
                            refine wpAnyH_take (i := 12 ) (v := ?_) rfl (by kernel_rfl) (by kernel_rfl) (by kernel_rfl) (fun _ _ _ h => h) (Or.inl ⟨by rfl, ?_⟩) (by assumption) ?_; rotate_left; (· (intro w0 hSw; obtain ⟨y4, y5, y6⟩ := HRD.out _ hSw; clear hSw; go_simp); first | done | with_reducible rfl); (try simp only [Act.put, List.getElem_toArray, List.getElem_cons_succ, List.getElem_cons_zero, List.setIfInBounds_toArray, List.set_cons_zero, List.set_cons_succ])
                            refine wpAnyH_take (i := 13 ) (v := ?_) rfl (by kernel_rfl) (by kernel_rfl) (by kernel_rfl) (fun _ _ _ h => h) (Or.inl ⟨by rfl, ?_⟩) (by assumption) ?_; rotate_left; (· (intro w0 hSw; obtain ⟨y4, y5, y6⟩ := HRD.out _ hSw; clear hSw; go_simp); first | done | with_reducible rfl); (try simp only [Act.put, List.getElem_toArray, List.getElem_cons_succ, List.getElem_cons_zero, List.setIfInBounds_toArray, List.set_cons_zero, List.set_cons_succ])
                            refine wpAnyH_take (i := 14 ) (v := ?_) rfl (by kernel_rfl) (by kernel_rfl) (by kernel_rfl) (fun _ _ _ h => h) (Or.inl ⟨by rfl, ?_⟩) (by assumption) ?_; rotate_left; (· (intro w0 hSw; obtain ⟨y4, y5, y6⟩ := HRD.out _ hSw; clear hSw; go_simp); first | done | with_reducible rfl); (try simp only [Act.put, List.getElem_toArray, List.getElem_cons_succ, List.getElem_cons_zero, List.setIfInBounds_toArray, List.set_cons_zero, List.set_cons_succ])
                            refine wpAnyH_take (i := 15 ) (v := ?_) rfl (by kernel_rfl) (by kernel_rfl) (by kernel_rfl) (fun _ _ _ h => h) (Or.inl ⟨by rfl, ?_⟩) (by assumption) ?_; rotate_left; (· (intro w0 hSw; obtain ⟨y4, y5, y6⟩ := HRD.out _ hSw; clear hSw; go_simp); first | done | with_reducible rfl); (try simp only [Act.put, List.getElem_toArray, List.getElem_cons_succ, List.getElem_cons_zero, List.setIfInBounds_toArray, List.set_cons_zero, List.set_cons_succ])
                            refine wpAnyH_done (by kernel_rfl) ?_ _
                            go_wp2_with fail
                            rw [HL0E.out]
                            go_meet
                            exact ⟨rfl, Lib.hid (HW.out.call HD.out)⟩
                          exact AllReadyH.nil
                        exact AllReadyH.nil
                      refine AllReadyH.cons (by simp only [List.getElem?_toArray, List.getElem?_cons_succ, List.getElem?_cons_zero]; rfl) (fun K hK => ?_) ?_
                      · rw [if_pos (by rfl)]
                        refine wp_bs 23 46 1 _ (by rfl) #[.int .i64 (sN : Int), .int .i64 n] [.agg #[.int .i64 (sN : Int), .int .i64 n]] (.agg #[.int .i64 0, .int .i64 0]) 2 (by kernel_rfl) (by kernel_rfl) (by decide) (by rfl) (by rfl) (by rfl) (by rfl) ?_
                        simp only [Act.put, List.setIfInBounds_toArray, List.set_cons_zero, List.set_cons_succ]
                        have KC := Lib.hid (Blk.new V1 46 #[.int .i64 (sN : Int), .int .i64 n])
                        replace HO := Lib.hid (own_low9 HO.out ((Below.refl V1.heap.size V1).alloc (Nat.le_refl _) (.cells #[.int .i64 (sN : Int), .int .i64 n] 46)))
                        replace HD := Lib.hid (HD.out.alloc HD.out.size (.cells #[.int .i64 (sN : Int), .int .i64 n] 46))
                        have HSZ1 : Hid ((World.alloc V1 (.cells #[.int .i64 (sN : Int), .int .i64 n] 46)).heap.size = V1.heap.size + 1) := Lib.hid (by simp)
                        generalize World.alloc V1 _ = V2 at *
                        refine hK.out _ _ HD.out (fun hH2 => ?_)
                        clear hK K
                        try simp only [List.setIfInBounds_toArray, List.set_cons_zero, List.set_cons_succ]
                        refine wpAnyH_ready (rs := [3]) (by kernel_rfl) (by simp) ?_
                        refine AllReadyH.cons (by simp only [List.getElem?_toArray, List.getElem?_cons_succ, List.getElem?_cons_zero]; rfl) (fun K hK => ?_) ?_
                        · rw [if_pos (by rfl)]
                          refine wp_app_none _ _ 23 (by rfl) w7.heap.size 46 i0 2 und_piles9 HI.out.1 (.slice (some ⟨V0.heap.size, 0, none⟩) 0 0) 0 [] (by rfl) HO.out (by rfl) ?_
                          simp only [Act.put, List.setIfInBounds_toArray, List.set_cons_zero, List.set_cons_succ]
                          replace HO : Hid (V2.ownsRow w7.heap.size 46 2 (.slice (some ⟨V0.heap.size, 0, none⟩) 0 0) l.length (pileV l)) := Lib.hid (by rw [HNIL.out]; exact HO.out)
                          refine hK.out _ _ HD.out (fun hH3 => ?_)
                          clear hK K
                          try simp only [List.setIfInBounds_toArray, List.set_cons_zero, List.set_cons_succ]
                          refine wpAnyH_ready (rs := [8]) (by kernel_rfl) (by simp) ?_
                          refine AllReadyH.cons (by simp only [List.getElem?_toArray, List.getElem?_cons_succ, List.getElem?_cons_zero]; rfl) (fun K hK => ?_) ?_
                          · rw [if_pos (by rfl)]
                            refine wp_append_own _ _ _ 23 (by rfl) w7.heap.size 46 i0 _ 2 16 und_piles9 HI.out.1 HI.out.2.1 HI.out.2.2.1 HI.out.2.2.2 rfl (by decide) (.slice (some ⟨V0.heap.size, 0, none⟩) 0 0) l.length (pileV l) (by rfl) HO.out ⟨V1.heap.size, 0, none⟩ 1 1 [.int .i64 (sN : Int), .int .i64 n] (by rfl) (by rfl) (World.news_of_block (cs := #[.int .i64 (sN : Int), .int .i64 n]) (t := 46) (fr := (0, 0)) KC.out) (by simp [Value.oneCell']) (by unfold maxLen; omega) (by omega) HD.out.size ?_
                            intro v2 VZ hown hgr hnn
                            clear hnn
                            simp only [Act.put, List.setIfInBounds_toArray, List.set_cons_zero, List.set_cons_succ]
                            replace HD := Lib.hid (Below.grown HD.out hgr HD.out.size fun j e => (HO.out.lt j e).1)
                            replace HO := Lib.hid hown
                            clear hown hgr KC
                            obtain ⟨gz, cz, rfl, hz1, hz2⟩ := own_g9 HO.out (by omega)
                            have HPS := Lib.hid (own_piles9 (l := l ++ [⟨(sN : Int), n⟩]) (by rw [pileV_app]; exact HO.out) (by simp))
                            clear HO
                            refine hK.out _ _ HD.out (fun hH4 => ?_)
                            clear hK K
                            try simp only [List.setIfInBounds_toArray, List.set_cons_zero, List.set_cons_succ]
                            refine wpAnyH_ready (rs := [10]) (by kernel_rfl) (by simp) ?_
                            refine AllReadyH.cons (by simp only [List.getElem?_toArray, List.getElem?_cons_succ, List.getElem?_cons_zero]; rfl) (fun K hK => ?_) AllReadyH.nil
                            go_simp
                            refine (HFL1.out VZ gz cz HPS.out (HA.out.on (HW.out.call HD.out).hb (Nat.le_refl _))).mono ?_
                            rintro e VY ⟨AZ, fz, c9, rfl, hb9⟩
                            replace HD := Lib.hid (HD.out.trans (hb9.mono HD.out.size))
                            clear hb9 HPS
                            refine hK.out _ _ HD.out (fun hH5 => ?_)
                            clear hK K
                            try simp only [List.setIfInBounds_toArray, List.set_cons_zero, List.set_cons_succ]
                            refine wpAnyH_take (i := 11 ) (v := ?_) rfl (by kernel_rfl) (by kernel_rfl) (by kernel_rfl) (fun _ _ _ h => h) (Or.inl ⟨by rfl, ?_⟩) (by assumption) ?_; rotate_left; (· (intro w0 hSw; obtain ⟨y4, y5, y6⟩ := HRD.out _ hSw; clear hSw; go_simp); first | done | with_reducible rfl); (try simp only [Act.put, List.getElem_toArray, List.getElem_cons_succ, List.getElem_cons_zero, List.setIfInBounds_toArray, List.set_cons_zero, List.set_cons_succ])
                            refine wpAnyH_take (i := 12 ) (v := ?_) rfl (by kernel_rfl) (by kernel_rfl) (by kernel_rfl) (fun _ _ _ h => h) (Or.inl ⟨by rfl, ?_⟩) (by assumption) ?_; rotate_left; (· (intro w0 hSw; obtain ⟨y4, y5, y6⟩ := HRD.out _ hSw; clear hSw; go_simp); first | done | with_reducible rfl); (try simp only [Act.put, List.getElem_toArray, List.getElem_cons_succ, List.getElem_cons_zero, List.setIfInBounds_toArray, List.set_cons_zero, List.set_cons_succ])
                            refine wpAnyH_take (i := 13 ) (v := ?_) rfl (by kernel_rfl) (by kernel_rfl) (by kernel_rfl) (fun _ _ _ h => h) (Or.inl ⟨by rfl, ?_⟩) (by assumption) ?_; rotate_left; (· (intro w0 hSw; obtain ⟨y4, y5, y6⟩ := HRD.out _ hSw; clear hSw; go_simp); first | done | with_reducible rfl); (try simp only [Act.put, List.getElem_toArray, List.getElem_cons_succ, List.getElem_cons_zero, List.setIfInBounds_toArray, List.set_cons_zero, List.set_cons_succ])
                            refine wpAnyH_take (i := 14 ) (v := ?_) rfl (by kernel_rfl) (by kernel_rfl) (by kernel_rfl) (fun _ _ _ h => h) (Or.inl ⟨by rfl, ?_⟩) (by assumption) ?_; rotate_left; (· (intro w0 hSw; obtain ⟨y4, y5, y6⟩ := HRD.out _ hSw; clear hSw; go_simp); first | done | with_reducible rfl); (try simp only [Act.put, List.getElem_toArray, List.getElem_cons_succ, List.getElem_cons_zero, List.setIfInBounds_toArray, List.set_cons_zero, List.set_cons_succ])
                            refine wpAnyH_take (i := 15 ) (v := ?_) rfl (by kernel_rfl) (by kernel_rfl) (by kernel_rfl) (fun _ _ _ h => h) (Or.inl ⟨by rfl, ?_⟩) (by assumption) ?_; rotate_left; (· (intro w0 hSw; obtain ⟨y4, y5, y6⟩ := HRD.out _ hSw; clear hSw; go_simp); first | done | with_reducible rfl); (try simp only [Act.put, List.getElem_toArray, List.getElem_cons_succ, List.getElem_cons_zero, List.setIfInBounds_toArray, List.set_cons_zero, List.set_cons_succ])
                            refine wpAnyH_done (by kernel_rfl) ?_ _
                            go_wp2_with fail
                            rw [HL0E.out]
                            go_meet
                            exact ⟨rfl, Lib.hid (HW.out.call HD.out)⟩
                          exact AllReadyH.nil
                        exact AllReadyH.nil
                      exact AllReadyH.nil
                    refine AllReadyH.cons (by simp only [List.getElem?_toArray, List.getElem?_cons_succ, List.getElem?_cons_zero]; rfl) (fun K hK => ?_) ?_
                    · rw [if_pos (by rfl)]
                      refine wp_bs 23 46 1 _ (by rfl) #[.int .i64 (sN : Int), .int .i64 n] [.agg #[.int .i64 (sN : Int), .int .i64 n]] (.agg #[.int .i64 0, .int .i64 0]) 2 (by kernel_rfl) (by kernel_rfl) (by decide) (by rfl) (by rfl) (by rfl) (by rfl) ?_
                      simp only [Act.put, List.setIfInBounds_toArray, List.set_cons_zero, List.set_cons_succ]
                      have KC := Lib.hid (Blk.new V0 46 #[.int .i64 (sN : Int), .int .i64 n])
                      replace HD := Lib.hid (HD.out.alloc HD.out.size (.cells #[.int .i64 (sN : Int), .int .i64 n] 46))
                      have HSZ0 : Hid ((World.alloc V0 (.cells #[.int .i64 (sN : Int), .int .i64 n] 46)).heap.size = V0.heap.size + 1) := Lib.hid (by simp)
                      generalize World.alloc V0 _ = V1 at *
                      refine hK.out _ _ HD.out (fun hH1 => ?_)
                      clear hK K
                      try simp only [List.setIfInBounds_toArray, List.set_cons_zero, List.set_cons_succ]
                      refine wpAnyH_ready (rs := [1]) (by kernel_rfl) (by simp) ?_
                      refine AllReadyH.cons (by simp only [List.getElem?_toArray, List.getElem?_cons_succ, List.getElem?_cons_zero]; rfl) (fun K hK => ?_) ?_
                      · go_simp
                        have HO := Lib.hid (own_zero9 (t := 46) V1 w7.heap.size HD.out.size 2)
                        replace KC := Lib.hid (KC.out.alloc (.cells #[] 46))
                        replace HD := Lib.hid (HD.out.alloc HD.out.size (.cells #[] 46))
                        have HSZ1 : Hid ((World.alloc V1 (.cells #[] 46)).heap.size = V1.heap.size + 1) := Lib.hid (by simp)
                        generalize World.alloc V1 _ = V2 at *
                        refine hK.out _ _ HD.out (fun hH2 => ?_)
                        clear hK K
                        try simp only [List.setIfInBounds_toArray, List.set_cons_zero, List.set_cons_succ]
                        refine wpAnyH_ready (rs := [3]) (by kernel_rfl) (by simp) ?_
                        refine AllReadyH.cons (by simp only [List.getElem?_toArray, List.getElem?_cons_succ, List.getElem?_cons_zero]; rfl) (fun K hK => ?_) ?_
                        · rw [if_pos (by rfl)]
                          refine wp_app_none _ _ 23 (by rfl) w7.heap.size 46 i0 2 und_piles9 HI.out.1 (.slice (some ⟨V1.heap.size, 0, none⟩) 0 0) 0 [] (by rfl) HO.out (by rfl) ?_
                          simp only [Act.put, List.setIfInBounds_toArray, List.set_cons_zero, List.set_cons_succ]
                          replace HO : Hid (V2.ownsRow w7.heap.size 46 2 (.slice (some ⟨V1.heap.size, 0, none⟩) 0 0) l.length (pileV l)) := Lib.hid (by rw [HNIL.out]; exact HO.out)
                          refine hK.out _ _ HD.out (fun hH3 => ?_)
                          clear hK K
                          try simp only [List.setIfInBounds_toArray, List.set_cons_zero, List.set_cons_succ]
                          refine wpAnyH_ready (rs := [8]) (by kernel_rfl) (by simp) ?_
                          refine AllReadyH.cons (by simp only [List.getElem?_toArray, List.getElem?_cons_succ, List.getElem?_cons_zero]; rfl) (fun K hK => ?_) ?_
                          · rw [if_pos (by rfl)]
                            refine wp_append_own _ _ _ 23 (by rfl) w7.heap.size 46 i0 _ 2 16 und_piles9 HI.out.1 HI.out.2.1 HI.out.2.2.1 HI.out.2.2.2 rfl (by decide) (.slice (some ⟨V1.heap.size, 0, none⟩) 0 0) l.length (pileV l) (by rfl) HO.out ⟨V0.heap.size, 0, none⟩ 1 1 [.int .i64 (sN : Int), .int .i64 n] (by rfl) (by rfl) (World.news_of_block (cs := #[.int .i64 (sN : Int), .int .i64 n]) (t := 46) (fr := (0, 0)) KC.out) (by simp [Value.oneCell']) (by unfold maxLen; omega) (by omega) HD.out.size ?_
                            intro v2 VZ hown hgr hnn
                            clear hnn
                            simp only [Act.put, List.setIfInBounds_toArray, List.set_cons_zero, List.set_cons_succ]
                            replace HD := Lib.hid (Below.grown HD.out hgr HD.out.size fun j e => (HO.out.lt j e).1)
                            replace HO := Lib.hid hown
                            clear hown hgr KC
                            obtain ⟨gz, cz, rfl, hz1, hz2⟩ := own_g9 HO.out (by omega)
                            have HPS := Lib.hid (own_piles9 (l := l ++ [⟨(sN : Int), n⟩]) (by rw [pileV_app]; exact HO.out) (by simp))
                            clear HO
                            refine hK.out _ _ HD.out (fun hH4 => ?_)
                            clear hK K
                            try simp only [List.setIfInBounds_toArray, List.set_cons_zero, List.set_cons_succ]
                            refine wpAnyH_ready (rs := [10]) (by kernel_rfl) (by simp) ?_
                            refine AllReadyH.cons (by simp only [List.getElem?_toArray, List.getElem?_cons_succ, List.getElem?_cons_zero]; rfl) (fun K hK => ?_) AllReadyH.nil
                            go_simp
                            refine (HFL1.out VZ gz cz HPS.out (HA.out.on (HW.out.call HD.out).hb (Nat.le_refl _))).mono ?_
                            rintro e VY ⟨AZ, fz, c9, rfl, hb9⟩
                            replace HD := Lib.hid (HD.out.trans (hb9.mono HD.out.size))
                            clear hb9 HPS
                            refine hK.out _ _ HD.out (fun hH5 => ?_)
                            clear hK K
                            try simp only [List.setIfInBounds_toArray, List.set_cons_zero, List.set_cons_succ]
                            refine wpAnyH_take (i := 11 ) (v := ?_) rfl (by kernel_rfl) (by kernel_rfl) (by kernel_rfl) (fun _ _ _ h => h) (Or.inl ⟨by rfl, ?_⟩) (by assumption) ?_; rotate_left; (· (intro w0 hSw; obtain ⟨y4, y5, y6⟩ := HRD.out _ hSw; clear hSw; go_simp); first | done | with_reducible rfl); (try simp only [Act.put, List.getElem_toArray, List.getElem_cons_succ, List.getElem_cons_zero, List.setIfInBounds_toArray, List.set_cons_zero, List.set_cons_succ])
                            refine wpAnyH_take (i := 12 ) (v := ?_) rfl (by kernel_rfl) (by kernel_rfl) (by kernel_rfl) (fun _ _ _ h => h) (Or.inl ⟨by rfl, ?_⟩) (by assumption) ?_; rotate_left; (· (intro w0 hSw; obtain ⟨y4, y5, y6⟩ := HRD.out _ hSw; clear hSw; go_simp); first | done | with_reducible rfl); (try simp only [Act.put, List.getElem_toArray, List.getElem_cons_succ, List.getElem_cons_zero, List.setIfInBounds_toArray, List.set_cons_zero, List.set_cons_succ])
                            refine wpAnyH_take (i := 13 ) (v := ?_) rfl (by kernel_rfl) (by kernel_rfl) (by kernel_rfl) (fun _ _ _ h => h) (Or.inl ⟨by rfl, ?_⟩) (by assumption) ?_; rotate_left; (· (intro w0 hSw; obtain ⟨y4, y5, y6⟩ := HRD.out _ hSw; clear hSw; go_simp); first | done | with_reducible rfl); (try simp only [Act.put, List.getElem_toArray, List.getElem_cons_succ, List.getElem_cons_zero, List.setIfInBounds_toArray, List.set_cons_zero, List.set_cons_succ])
                            refine wpAnyH_take (i := 14 ) (v := ?_) rfl (by kernel_rfl) (by kernel_rfl) (by kernel_rfl) (fun _ _ _ h => h) (Or.inl ⟨by rfl, ?_⟩) (by assumption) ?_; rotate_left; (· (intro w0 hSw; obtain ⟨y4, y5, y6⟩ := HRD.out _ hSw; clear hSw; go_simp); first | done | with_reducible rfl); (try simp only [Act.put, List.getElem_toArray, List.getElem_cons_succ, List.getElem_cons_zero, List.setIfInBounds_toArray, List.set_cons_zero, List.set_cons_succ])
                            refine wpAnyH_take (i := 15 ) (v := ?_) rfl (by kernel_rfl) (by kernel_rfl) (by kernel_rfl) (fun _ _ _ h => h) (Or.inl ⟨by rfl, ?_⟩) (by assumption) ?_; rotate_left; (· (intro w0 hSw; obtain ⟨y4, y5, y6⟩ := HRD.out _ hSw; clear hSw; go_simp); first | done | with_reducible rfl); (try simp only [Act.put, List.getElem_toArray, List.getElem_cons_succ, List.getElem_cons_zero, List.setIfInBounds_toArray, List.set_cons_zero, List.set_cons_succ])
                            refine wpAnyH_done (by kernel_rfl) ?_ _
                            go_wp2_with fail
                            rw [HL0E.out]
                            go_meet
                            exact ⟨rfl, Lib.hid (HW.out.call HD.out)⟩
                          exact AllReadyH.nil
                        exact AllReadyH.nil
                      exact AllReadyH.nil
                    exact AllReadyH.nil
                · subst hB?
                  have HNW : Hid (∀ W, Below w7.heap.size w7 W → ∀ (j : Nat) u, (pileV l)[j]? = some u → W.cell? (ad.add j) = some u) := Lib.hid fun W hW j u hj => by
                    have hne : l ≠ [] := by rintro rfl; simp [pileV] at hj
                    obtain ⟨bb, off, h1, h2, h3⟩ := HB.out hne
                    obtain rfl := Option.some.inj h1
                    have h4 := (h3.below HW.out.hb h2).below hW (Nat.lt_of_lt_of_le h2 HW.out.hb.size)
                    exact pile_cells9 h4 j u hj
                  as_aux_lemma =>
                    refine wp_region_held_drew (S := fun W9 => Below w7.heap.size w7 W9) (by kernel_rfl) HD.out (fun hH0 => ?_)
                    generalize World.drew _ = V0 at *
                    simp only [List.size_toArray, List.length_cons, List.length_nil, Nat.reduceAdd, Array.replicate_succ, Array.replicate_zero, List.push_toArray, List.nil_append, List.cons_append]
                    refine wpAnyH_take (i := 0 ) (v := ?_) rfl (by kernel_rfl) (by kernel_rfl) (by kernel_rfl) (fun _ _ _ h => h) (Or.inl ⟨by rfl, ?_⟩) (by assumption) ?_; rotate_left; (· (intro w0 hSw; obtain ⟨y4, y5, y6⟩ := HRD.out _ hSw; clear hSw; go_simp); first | done | with_reducible rfl); (try simp only [Act.put, List.getElem_toArray, List.getElem_cons_zero, List.setIfInBounds_toArray, List.set_cons_zero, List.set_cons_succ])
                    refine wpAnyH_take (i := 2 ) (v := ?_) rfl (by kernel_rfl) (by kernel_rfl) (by kernel_rfl) (fun _ _ _ h => h) (Or.inl ⟨by rfl, ?_⟩) (by assumption) ?_; rotate_left; (· (intro w0 hSw; obtain ⟨y4, y5, y6⟩ := HRD.out _ hSw; clear hSw; go_simp); first | done | with_reducible rfl); (try simp only [Act.put, List.getElem_toArray, List.getElem_cons_succ, List.getElem_cons_zero, List.setIfInBounds_toArray, List.set_cons_zero, List.set_cons_succ])
                    refine wpAnyH_take (i := 4 ) (v := ?_) rfl (by kernel_rfl) (by kernel_rfl) (by kernel_rfl) (fun _ _ _ h => h) (Or.inl ⟨by rfl, ?_⟩) (by assumption) ?_; rotate_left; (· (intro w0 hSw; obtain ⟨y4, y5, y6⟩ := HRD.out _ hSw; clear hSw; go_simp); first | done | with_reducible rfl); (try simp only [Act.put, List.getElem_toArray, List.getElem_cons_succ, List.getElem_cons_zero, List.setIfInBounds_toArray, List.set_cons_zero, List.set_cons_succ])
                    refine wpAnyH_take (i := 5 ) (v := ?_) rfl (by kernel_rfl) (by kernel_rfl) (by kernel_rfl) (fun _ _ _ h => h) (Or.inl ⟨by rfl, ?_⟩) (by assumption) ?_; rotate_left; (· (intro w0 hSw; obtain ⟨y4, y5, y6⟩ := HRD.out _ hSw; clear hSw; go_simp); first | done | with_reducible rfl); (try simp only [Act.put, List.getElem_toArray, List.getElem_cons_succ, List.getElem_cons_zero, List.setIfInBounds_toArray, List.set_cons_zero, List.set_cons_succ])
                    refine wpAnyH_take (i := 6 ) (v := ?_) rfl (by kernel_rfl) (by kernel_rfl) (by kernel_rfl) (fun _ _ _ h => h) (Or.inl ⟨by rfl, ?_⟩) (by assumption) ?_; rotate_left; (· (intro w0 hSw; obtain ⟨y4, y5, y6⟩ := HRD.out _ hSw; clear hSw; go_simp); first | done | with_reducible rfl); (try simp only [Act.put, List.getElem_toArray, List.getElem_cons_succ, List.getElem_cons_zero, List.setIfInBounds_toArray, List.set_cons_zero, List.set_cons_succ])
                    refine wpAnyH_take (i := 9 ) (v := ?_) rfl (by kernel_rfl) (by kernel_rfl) (by kernel_rfl) (fun _ _ _ h => h) (Or.inl ⟨by rfl, ?_⟩) (by assumption) ?_; rotate_left; (· (intro w0 hSw; obtain ⟨y4, y5, y6⟩ := HRD.out _ hSw; clear hSw; go_simp); first | done | with_reducible rfl); (try simp only [Act.put, List.getElem_toArray, List.getElem_cons_succ, List.getElem_cons_zero, List.setIfInBounds_toArray, List.set_cons_zero, List.set_cons_succ])
                    refine wpAnyH_ready (rs := [1, 7]) (by kernel_rfl) (by simp) ?_
                    refine AllReadyH.cons (by simp only [List.getElem?_toArray, List.getElem?_cons_succ, List.getElem?_cons_zero]; rfl) (fun K hK => ?_) ?_
                    · go_simp
                      have HO := Lib.hid (own_zero9 (t := 46) V0 w7.heap.size HD.out.size 2)
                      replace HD := Lib.hid (HD.out.alloc HD.out.size (.cells #[] 46))
                      have HSZ0 : Hid ((World.alloc V0 (.cells #[] 46)).heap.size = V0.heap.size + 1) := Lib.hid (by simp)
                      generalize World.alloc V0 _ = V1 at *
                      refine hK.out _ _ HD.out (fun hH1 => ?_)
                      clear hK K
                      try simp only [List.setIfInBounds_toArray, List.set_cons_zero, List.set_cons_succ]
                      refine wpAnyH_ready (rs := [3, 7]) (by kernel_rfl) (by simp) ?_
                      refine AllReadyH.cons (by simp only [List.getElem?_toArray, List.getElem?_cons_succ, List.getElem?_cons_zero]; rfl) (fun K hK => ?_) ?_
                      · rw [if_pos (by rfl)]
                        refine wp_append_own _ _ _ 23 (by rfl) w7.heap.size 46 i0 _ 2 16 und_piles9 HI.out.1 HI.out.2.1 HI.out.2.2.1 HI.out.2.2.2 rfl (by decide) (.slice (some ⟨V0.heap.size, 0, none⟩) 0 0) 0 [] (by rfl) HO.out ad l.length d (pileV l) (by rfl) (pileV_len l) (HNW.out V1 HD.out) (pileV_one l) (by unfold maxLen; omega) (by omega) HD.out.size ?_
                        intro v1 V2 hown hgr hnn
                        clear hnn
                        simp only [Act.put, List.setIfInBounds_toArray, List.set_cons_zero, List.set_cons_succ]
                        replace HD := Lib.hid (Below.grown HD.out hgr HD.out.size fun j e => (HO.out.lt j e).1)
                        replace HO := Lib.hid hown
                        clear hown hgr
                        rw [Nat.zero_add, List.nil_append] at HO
                        refine hK.out _ _ HD.out (fun hH2 => ?_)
                        clear hK K
                        try simp only [List.setIfInBounds_toArray, List.set_cons_zero, List.set_cons_succ]
                        refine wpAnyH_ready (rs := [7]) (by kernel_rfl) (by simp) ?_
                        refine AllReadyH.cons (by simp only [List.getElem?_toArray, List.getElem?_cons_succ, List.getElem?_cons_zero]; rfl) (fun K hK => ?_) ?_
                        · rw [if_pos (by rfl)]
                          refine wp_bs 23 46 1 _ (by rfl) #[.int .i64 (sN : Int), .int .i64 n] [.agg #[.int .i64 (sN : Int), .int .i64 n]] (.agg #[.int .i64 0, .int .i64 0]) 2 (by kernel_rfl) (by kernel_rfl) (by decide) (by rfl) (by rfl) (by rfl) (by rfl) ?_
                          simp only [Act.put, List.setIfInBounds_toArray, List.set_cons_zero, List.set_cons_succ]
                          have KC := Lib.hid (Blk.new V2 46 #[.int .i64 (sN : Int), .int .i64 n])
                          replace HO := Lib.hid (own_low9 HO.out ((Below.refl V2.heap.size V2).alloc (Nat.le_refl _) (.cells #[.int .i64 (sN : Int), .int .i64 n] 46)))
                          replace HD := Lib.hid (HD.out.alloc HD.out.size (.cells #[.int .i64 (sN : Int), .int .i64 n] 46))
                          have HSZ2 : Hid ((World.alloc V2 (.cells #[.int .i64 (sN : Int), .int .i64 n] 46)).heap.size = V2.heap.size + 1) := Lib.hid (by simp)
                          generalize World.alloc V2 _ = V3 at *
                          refine hK.out _ _ HD.out (fun hH3 => ?_)
                          clear hK K
                          try simp only [List.setIfInBounds_toArray, List.set_cons_zero, List.set_cons_succ]
                          refine wpAnyH_ready (rs := [8]) (by kernel_rfl) (by simp) ?_
                          refine AllReadyH.cons (by simp only [List.getElem?_toArray, List.getElem?_cons_succ, List.getElem?_cons_zero]; rfl) (fun K hK => ?_) ?_
                          · rw [if_pos (by rfl)]
                            refine wp_append_own _ _ _ 23 (by rfl) w7.heap.size 46 i0 _ 2 16 und_piles9 HI.out.1 HI.out.2.1 HI.out.2.2.1 HI.out.2.2.2 rfl (by decide) v1 l.length (pileV l) (by rfl) HO.out ⟨V2.heap.size, 0, none⟩ 1 1 [.int .i64 (sN : Int), .int .i64 n] (by rfl) (by rfl) (World.news_of_block (cs := #[.int .i64 (sN : Int), .int .i64 n]) (t := 46) (fr := (0, 0)) KC.out) (by simp [Value.oneCell']) (by unfold maxLen; omega) (by omega) HD.out.size ?_
                            intro v2 VZ hown hgr hnn
                            clear hnn
                            simp only [Act.put, List.setIfInBounds_toArray, List.set_cons_zero, List.set_cons_succ]
                            replace HD := Lib.hid (Below.grown HD.out hgr HD.out.size fun j e => (HO.out.lt j e).1)
                            replace HO := Lib.hid hown
                            clear hown hgr KC
                            obtain ⟨gz, cz, rfl, hz1, hz2⟩ := own_g9 HO.out (by omega)
                            have HPS := Lib.hid (own_piles9 (l := l ++ [⟨(sN : Int), n⟩]) (by rw [pileV_app]; exact HO.out) (by simp))
                            clear HO
                            refine hK.out _ _ HD.out (fun hH4 => ?_)
                            clear hK K
                            try simp only [List.setIfInBounds_toArray, List.set_cons_zero, List.set_cons_succ]
                            refine wpAnyH_ready (rs := [10]) (by kernel_rfl) (by simp) ?_
                            refine AllReadyH.cons (by simp only [List.getElem?_toArray, List.getElem?_cons_succ, List.getElem?_cons_zero]; rfl) (fun K hK => ?_) AllReadyH.nil
                            go_simp
                            refine (HFL1.out VZ gz cz HPS.out (HA.out.on (HW.out.call HD.out).hb (Nat.le_refl _))).mono ?_
                            rintro e VY ⟨AZ, fz, c9, rfl, hb9⟩
                            replace HD := Lib.hid (HD.out.trans (hb9.mono HD.out.size))
                            clear hb9 HPS
                            refine hK.out _ _ HD.out (fun hH5 => ?_)
                            clear hK K
                            try simp only [List.setIfInBounds_toArray, List.set_cons_zero, List.set_cons_succ]
                            refine wpAnyH_take (i := 11 ) (v := ?_) rfl (by kernel_rfl) (by kernel_rfl) (by kernel_rfl) (fun _ _ _ h => h) (Or.inl ⟨by rfl, ?_⟩) (by assumption) ?_; rotate_left; (· (intro w0 hSw; obtain ⟨y4, y5, y6⟩ := HRD.out _ hSw; clear hSw; go_simp); first | done | with_reducible rfl); (try simp only [Act.put, List.getElem_toArray, List.getElem_cons_succ, List.getElem_cons_zero, List.setIfInBounds_toArray, List.set_cons_zero, List.set_cons_succ])
                            refine wpAnyH_take (i := 12 ) (v := ?_) rfl (by kernel_rfl) (by kernel_rfl) (by kernel_rfl) (fun _ _ _ h => h) (Or.inl ⟨by rfl, ?_⟩) (by assumption) ?_; rotate_left; (· (intro w0 hSw; obtain ⟨y4, y5, y6⟩ := HRD.out _ hSw; clear hSw; go_simp); first | done | with_reducible rfl); (try simp only [Act.put, List.getElem_toArray, List.getElem_cons_succ, List.getElem_cons_zero, List.setIfInBounds_toArray, List.set_cons_zero, List.set_cons_succ])
                            refine wpAnyH_take (i := 13 ) (v := ?_) rfl (by kernel_rfl) (by kernel_rfl) (by kernel_rfl) (fun _ _ _ h => h) (Or.inl ⟨by rfl, ?_⟩) (by assumption) ?_; rotate_left; (· (intro w0 hSw; obtain ⟨y4, y5, y6⟩ := HRD.out _ hSw; clear hSw; go_simp); first | done | with_reducible rfl); (try simp only [Act.put, List.getElem_toArray, List.getElem_cons_succ, List.getElem_cons_zero, List.setIfInBounds_toArray, List.set_cons_zero, List.set_cons_succ])
                            refine wpAnyH_take (i := 14 ) (v := ?_) rfl (by kernel_rfl) (by kernel_rfl) (by kernel_rfl) (fun _ _ _ h => h) (Or.inl ⟨by rfl, ?_⟩) (by assumption) ?_; rotate_left; (· (intro w0 hSw; obtain ⟨y4, y5, y6⟩ := HRD.out _ hSw; clear hSw; go_simp); first | done | with_reducible rfl); (try simp only [Act.put, List.getElem_toArray, List.getElem_cons_succ, List.getElem_cons_zero, List.setIfInBounds_toArray, List.set_cons_zero, List.set_cons_succ])
                            refine wpAnyH_take (i := 15 ) (v := ?_) rfl (by kernel_rfl) (by kernel_rfl) (by kernel_rfl) (fun _ _ _ h => h) (Or.inl ⟨by rfl, ?_⟩) (by assumption) ?_; rotate_left; (· (intro w0 hSw; obtain ⟨y4, y5, y6⟩ := HRD.out _ hSw; clear hSw; go_simp); first | done | with_reducible rfl); (try simp only [Act.put, List.getElem_toArray, List.getElem_cons_succ, List.getElem_cons_zero, List.setIfInBounds_toArray, List.set_cons_zero, List.set_cons_succ])
                            refine wpAnyH_done (by kernel_rfl) ?_ _
                            go_wp2_with fail
                            go_meet
                            exact ⟨rfl, Lib.hid (HW.out.call HD.out)⟩
                          exact AllReadyH.nil
                        exact AllReadyH.nil
                      refine AllReadyH.cons (by simp only [List.getElem?_toArray, List.getElem?_cons_succ, List.getElem?_cons_zero]; rfl) (fun K hK => ?_) ?_
                      · rw [if_pos (by rfl)]
                        refine wp_bs 23 46 1 _ (by rfl) #[.int .i64 (sN : Int), .int .i64 n] [.agg #[.int .i64 (sN : Int), .int .i64 n]] (.agg #[.int .i64 0, .int .i64 0]) 2 (by kernel_rfl) (by kernel_rfl) (by decide) (by rfl) (by rfl) (by rfl) (by rfl) ?_
                        simp only [Act.put, List.setIfInBounds_toArray, List.set_cons_zero, List.set_cons_succ]
                        have KC := Lib.hid (Blk.new V1 46 #[.int .i64 (sN : Int), .int .i64 n])
                        replace HO := Lib.hid (own_low9 HO.out ((Below.refl V1.heap.size V1).alloc (Nat.le_refl _) (.cells #[.int .i64 (sN : Int), .int .i64 n] 46)))
                        replace HD := Lib.hid (HD.out.alloc HD.out.size (.cells #[.int .i64 (sN : Int), .int .i64 n] 46))
                        have HSZ1 : Hid ((World.alloc V1 (.cells #[.int .i64 (sN : Int), .int .i64 n] 46)).heap.size = V1.heap.size + 1) := Lib.hid (by simp)
                        generalize World.alloc V1 _ = V2 at *
                        refine hK.out _ _ HD.out (fun hH2 => ?_)
                        clear hK K
                        try simp only [List.setIfInBounds_toArray, List.set_cons_zero, List.set_cons_succ]
                        refine wpAnyH_ready (rs := [3]) (by kernel_rfl) (by simp) ?_
                        refine AllReadyH.cons (by simp only [List.getElem?_toArray, List.getElem?_cons_succ, List.getElem?_cons_zero]; rfl) (fun K hK => ?_) ?_
                        · rw [if_pos (by rfl)]
                          refine wp_append_own _ _ _ 23 (by rfl) w7.heap.size 46 i0 _ 2 16 und_piles9 HI.out.1 HI.out.2.1 HI.out.2.2.1 HI.out.2.2.2 rfl (by decide) (.slice (some ⟨V0.heap.size, 0, none⟩) 0 0) 0 [] (by rfl) HO.out ad l.length d (pileV l) (by rfl) (pileV_len l) (HNW.out V2 HD.out) (pileV_one l) (by unfold maxLen; omega) (by omega) HD.out.size ?_
                          intro v1 V3 hown hgr hnn
                          clear hnn
                          simp only [Act.put, List.setIfInBounds_toArray, List.set_cons_zero, List.set_cons_succ]
                          replace KC := Lib.hid (KC.out.kept hgr (fun e => by simp [Value.ownBlock] at e; have := HSZ0.out; omega))
                          replace HD := Lib.hid (Below.grown HD.out hgr HD.out.size fun j e => (HO.out.lt j e).1)
                          replace HO := Lib.hid hown
                          clear hown hgr
                          rw [Nat.zero_add, List.nil_append] at HO
                          refine hK.out _ _ HD.out (fun hH3 => ?_)
                          clear hK K
                          try simp only [List.setIfInBounds_toArray, List.set_cons_zero, List.set_cons_succ]
                          refine wpAnyH_ready (rs := [8]) (by kernel_rfl) (by simp) ?_
                          refine AllReadyH.cons (by simp only [List.getElem?_toArray, List.getElem?_cons_succ, List.getElem?_cons_zero]; rfl) (fun K hK => ?_) ?_
                          · rw [if_pos (by rfl)]
                            refine wp_append_own _ _ _ 23 (by rfl) w7.heap.size 46 i0 _ 2 16 und_piles9 HI.out.1 HI.out.2.1 HI.out.2.2.1 HI.out.2.2.2 rfl (by decide) v1 l.length (pileV l) (by rfl) HO.out ⟨V1.heap.size, 0, none⟩ 1 1 [.int .i64 (sN : Int), .int .i64 n] (by rfl) (by rfl) (World.news_of_block (cs := #[.int .i64 (sN : Int), .int .i64 n]) (t := 46) (fr := (0, 0)) KC.out) (by simp [Value.oneCell']) (by unfold maxLen; omega) (by omega) HD.out.size ?_
                            intro v2 VZ hown hgr hnn
                            clear hnn
                            simp only [Act.put, List.setIfInBounds_toArray, List.set_cons_zero, List.set_cons_succ]
                            replace HD := Lib.hid (Below.grown HD.out hgr HD.out.size fun j e => (HO.out.lt j e).1)
                            replace HO := Lib.hid hown
                            clear hown hgr KC
                            obtain ⟨gz, cz, rfl, hz1, hz2⟩ := own_g9 HO.out (by omega)
                            have HPS := Lib.hid (own_piles9 (l := l ++ [⟨(sN : Int), n⟩]) (by rw [pileV_app]; exact HO.out) (by simp))
                            clear HO
                            refine hK.out _ _ HD.out (fun hH4 => ?_)
                            clear hK K
                            try simp only [List.setIfInBounds_toArray, List.set_cons_zero, List.set_cons_succ]
                            refine wpAnyH_ready (rs := [10]) (by kernel_rfl) (by simp) ?_
                            refine AllReadyH.cons (by simp only [List.getElem?_toArray, List.getElem?_cons_succ, List.getElem?_cons_zero]; rfl) (fun K hK => ?_) AllReadyH.nil
                            go_simp
                            refine (HFL1.out VZ gz cz HPS.out (HA.out.on (HW.out.call HD.out).hb (Nat.le_refl _))).mono ?_
                            rintro e VY ⟨AZ, fz, c9, rfl, hb9⟩
                            replace HD := Lib.hid (HD.out.trans (hb9.mono HD.out.size))
                            clear hb9 HPS
                            refine hK.out _ _ HD.out (fun hH5 => ?_)
                            clear hK K
                            try simp only [List.setIfInBounds_toArray, List.set_cons_zero, List.set_cons_succ]
                            refine wpAnyH_take (i := 11 ) (v := ?_) rfl (by kernel_rfl) (by kernel_rfl) (by kernel_rfl) (fun _ _ _ h => h) (Or.inl ⟨by rfl, ?_⟩) (by assumption) ?_; rotate_left; (· (intro w0 hSw; obtain ⟨y4, y5, y6⟩ := HRD.out _ hSw; clear hSw; go_simp); first | done | with_reducible rfl); (try simp only [Act.put, List.getElem_toArray, List.getElem_cons_succ, List.getElem_cons_zero, List.setIfInBounds_toArray, List.set_cons_zero, List.set_cons_succ])
                            refine wpAnyH_take (i := 12 ) (v := ?_) rfl (by kernel_rfl) (by kernel_rfl) (by kernel_rfl) (fun _ _ _ h => h) (Or.inl ⟨by rfl, ?_⟩) (by assumption) ?_; rotate_left; (· (intro w0 hSw; obtain ⟨y4, y5, y6⟩ := HRD.out _ hSw; clear hSw; go_simp); first | done | with_reducible rfl); (try simp only [Act.put, List.getElem_toArray, List.getElem_cons_succ, List.getElem_cons_zero, List.setIfInBounds_toArray, List.set_cons_zero, List.set_cons_succ])
                            refine wpAnyH_take (i := 13 ) (v := ?_) rfl (by kernel_rfl) (by kernel_rfl) (by kernel_rfl) (fun _ _ _ h => h) (Or.inl ⟨by rfl, ?_⟩) (by assumption) ?_; rotate_left; (· (intro w0 hSw; obtain ⟨y4, y5, y6⟩ := HRD.out _ hSw; clear hSw; go_simp); first | done | with_reducible rfl); (try simp only [Act.put, List.getElem_toArray, List.getElem_cons_succ, List.getElem_cons_zero, List.setIfInBounds_toArray, List.set_cons_zero, List.set_cons_succ])
                            refine wpAnyH_take (i := 14 ) (v := ?_) rfl (by kernel_rfl) (by kernel_rfl) (by kernel_rfl) (fun _ _ _ h => h) (Or.inl ⟨by rfl, ?_⟩) (by assumption) ?_; rotate_left; (· (intro w0 hSw; obtain ⟨y4, y5, y6⟩ := HRD.out _ hSw; clear hSw; go_simp); first | done | with_reducible rfl); (try simp only [Act.put, List.getElem_toArray, List.getElem_cons_succ, List.getElem_cons_zero, List.setIfInBounds_toArray, List.set_cons_zero, List.set_cons_succ])
                            refine wpAnyH_take (i := 15 ) (v := ?_) rfl (by kernel_rfl) (by kernel_rfl) (by kernel_rfl) (fun _ _ _ h => h) (Or.inl ⟨by rfl, ?_⟩) (by assumption) ?_; rotate_left; (· (intro w0 hSw; obtain ⟨y4, y5, y6⟩ := HRD.out _ hSw; clear hSw; go_simp); first | done | with_reducible rfl); (try simp only [Act.put, List.getElem_toArray, List.getElem_cons_succ, List.getElem_cons_zero, List.setIfInBounds_toArray, List.set_cons_zero, List.set_cons_succ])
                            refine wpAnyH_done (by kernel_rfl) ?_ _
                            go_wp2_with fail
                            go_meet
                            exact ⟨rfl, Lib.hid (HW.out.call HD.out)⟩
                          exact AllReadyH.nil
                        exact AllReadyH.nil
                      exact AllReadyH.nil
                    refine AllReadyH.cons (by simp only [List.getElem?_toArray, List.getElem?_cons_succ, List.getElem?_cons_zero]; rfl) (fun K hK => ?_) ?_
                    · rw [if_pos (by rfl)]
                      refine wp_bs 23 46 1 _ (by rfl) #[.int .i64 (sN : Int), .int .i64 n] [.agg #[.int .i64 (sN : Int), .int .i64 n]] (.agg #[.int .i64 0, .int .i64 0]) 2 (by kernel_rfl) (by kernel_rfl) (by decide) (by rfl) (by rfl) (by rfl) (by rfl) ?_
                      simp only [Act.put, List.setIfInBounds_toArray, List.set_cons_zero, List.set_cons_succ]
                      have KC := Lib.hid (Blk.new V0 46 #[.int .i64 (sN : Int), .int .i64 n])
                      replace HD := Lib.hid (HD.out.alloc HD.out.size (.cells #[.int .i64 (sN : Int), .int .i64 n] 46))
                      have HSZ0 : Hid ((World.alloc V0 (.cells #[.int .i64 (sN : Int), .int .i64 n] 46)).heap.size = V0.heap.size + 1) := Lib.hid (by simp)
                      generalize World.alloc V0 _ = V1 at *
                      refine hK.out _ _ HD.out (fun hH1 => ?_)
                      clear hK K
                      try simp only [List.setIfInBounds_toArray, List.set_cons_zero, List.set_cons_succ]
                      refine wpAnyH_ready (rs := [1]) (by kernel_rfl) (by simp) ?_
                      refine AllReadyH.cons (by simp only [List.getElem?_toArray, List.getElem?_cons_succ, List.getElem?_cons_zero]; rfl) (fun K hK => ?_) ?_
                      · go_simp
                        have HO := Lib.hid (own_zero9 (t := 46) V1 w7.heap.size HD.out.size 2)
                        replace KC := Lib.hid (KC.out.alloc (.cells #[] 46))
                        replace HD := Lib.hid (HD.out.alloc HD.out.size (.cells #[] 46))
                        have HSZ1 : Hid ((World.alloc V1 (.cells #[] 46)).heap.size = V1.heap.size + 1) := Lib.hid (by simp)
                        generalize World.alloc V1 _ = V2 at *
                        refine hK.out _ _ HD.out (fun hH2 => ?_)
                        clear hK K
                        try simp only [List.setIfInBounds_toArray, List.set_cons_zero, List.set_cons_succ]
                        refine wpAnyH_ready (rs := [3]) (by kernel_rfl) (by simp) ?_
                        refine AllReadyH.cons (by simp only [List.getElem?_toArray, List.getElem?_cons_succ, List.getElem?_cons_zero]; rfl) (fun K hK => ?_) ?_
                        · rw [if_pos (by rfl)]
                          refine wp_append_own _ _ _ 23 (by rfl) w7.heap.size 46 i0 _ 2 16 und_piles9 HI.out.1 HI.out.2.1 HI.out.2.2.1 HI.out.2.2.2 rfl (by decide) (.slice (some ⟨V1.heap.size, 0, none⟩) 0 0) 0 [] (by rfl) HO.out ad l.length d (pileV l) (by rfl) (pileV_len l) (HNW.out V2 HD.out) (pileV_one l) (by unfold maxLen; omega) (by omega) HD.out.size ?_
                          intro v1 V3 hown hgr hnn
                          clear hnn
                          simp only [Act.put, List.setIfInBounds_toArray, List.set_cons_zero, List.set_cons_succ]
                          replace KC := Lib.hid (KC.out.kept hgr (fun e => by simp [Value.ownBlock] at e; have := HSZ0.out; omega))
                          replace HD := Lib.hid (Below.grown HD.out hgr HD.out.size fun j e => (HO.out.lt j e).1)
                          replace HO := Lib.hid hown
                          clear hown hgr
                          rw [Nat.zero_add, List.nil_append] at HO
                          refine hK.out _ _ HD.out (fun hH3 => ?_)
                          clear hK K
                          try simp only [List.setIfInBounds_toArray, List.set_cons_zero, List.set_cons_succ]
                          refine wpAnyH_ready (rs := [8]) (by kernel_rfl) (by simp) ?_
                          refine AllReadyH.cons (by simp only [List.getElem?_toArray, List.getElem?_cons_succ, List.getElem?_cons_zero]; rfl) (fun K hK => ?_) ?_
                          · rw [if_pos (by rfl)]
                            refine wp_append_own _ _ _ 23 (by rfl) w7.heap.size 46 i0 _ 2 16 und_piles9 HI.out.1 HI.out.2.1 HI.out.2.2.1 HI.out.2.2.2 rfl (by decide) v1 l.length (pileV l) (by rfl) HO.out ⟨V0.heap.size, 0, none⟩ 1 1 [.int .i64 (sN : Int), .int .i64 n] (by rfl) (by rfl) (World.news_of_block (cs := #[.int .i64 (sN : Int), .int .i64 n]) (t := 46) (fr := (0, 0)) KC.out) (by simp [Value.oneCell']) (by unfold maxLen; omega) (by omega) HD.out.size ?_
                            intro v2 VZ hown hgr hnn
                            clear hnn
                            simp only [Act.put, List.setIfInBounds_toArray, List.set_cons_zero, List.set_cons_succ]
                            replace HD := Lib.hid (Below.grown HD.out hgr HD.out.size fun j e => (HO.out.lt j e).1)
                            replace HO := Lib.hid hown
                            clear hown hgr KC
                            obtain ⟨gz, cz, rfl, hz1, hz2⟩ := own_g9 HO.out (by omega)
                            have HPS := Lib.hid (own_piles9 (l := l ++ [⟨(sN : Int), n⟩]) (by rw [pileV_app]; exact HO.out) (by simp))
                            clear HO
                            refine hK.out _ _ HD.out (fun hH4 => ?_)
                            clear hK K
                            try simp only [List.setIfInBounds_toArray, List.set_cons_zero, List.set_cons_succ]
                            refine wpAnyH_ready (rs := [10]) (by kernel_rfl) (by simp) ?_
                            refine AllReadyH.cons (by simp only [List.getElem?_toArray, List.getElem?_cons_succ, List.getElem?_cons_zero]; rfl) (fun K hK => ?_) AllReadyH.nil
                            go_simp
                            refine (HFL1.out VZ gz cz HPS.out (HA.out.on (HW.out.call HD.out).hb (Nat.le_refl _))).mono ?_
                            rintro e VY ⟨AZ, fz, c9, rfl, hb9⟩
                            replace HD := Lib.hid (HD.out.trans (hb9.mono HD.out.size))
                            clear hb9 HPS
                            refine hK.out _ _ HD.out (fun hH5 => ?_)
                            clear hK K
                            try simp only [List.setIfInBounds_toArray, List.set_cons_zero, List.set_cons_succ]
                            refine wpAnyH_take (i := 11 ) (v := ?_) rfl (by kernel_rfl) (by kernel_rfl) (by kernel_rfl) (fun _ _ _ h => h) (Or.inl ⟨by rfl, ?_⟩) (by assumption) ?_; rotate_left; (· (intro w0 hSw; obtain ⟨y4, y5, y6⟩ := HRD.out _ hSw; clear hSw; go_simp); first | done | with_reducible rfl); (try simp only [Act.put, List.getElem_toArray, List.getElem_cons_succ, List.getElem_cons_zero, List.setIfInBounds_toArray, List.set_cons_zero, List.set_cons_succ])
                            refine wpAnyH_take (i := 12 ) (v := ?_) rfl (by kernel_rfl) (by kernel_rfl) (by kernel_rfl) (fun _ _ _ h => h) (Or.inl ⟨by rfl, ?_⟩) (by assumption) ?_; rotate_left; (· (intro w0 hSw; obtain ⟨y4, y5, y6⟩ := HRD.out _ hSw; clear hSw; go_simp); first | done | with_reducible rfl); (try simp only [Act.put, List.getElem_toArray, List.getElem_cons_succ, List.getElem_cons_zero, List.setIfInBounds_toArray, List.set_cons_zero, List.set_cons_succ])
                            refine wpAnyH_take (i := 13 ) (v := ?_) rfl (by kernel_rfl) (by kernel_rfl) (by kernel_rfl) (fun _ _ _ h => h) (Or.inl ⟨by rfl, ?_⟩) (by assumption) ?_; rotate_left; (· (intro w0 hSw; obtain ⟨y4, y5, y6⟩ := HRD.out _ hSw; clear hSw; go_simp); first | done | with_reducible rfl); (try simp only [Act.put, List.getElem_toArray, List.getElem_cons_succ, List.getElem_cons_zero, List.setIfInBounds_toArray, List.set_cons_zero, List.set_cons_succ])
                            refine wpAnyH_take (i := 14 ) (v := ?_) rfl (by kernel_rfl) (by kernel_rfl) (by kernel_rfl) (fun _ _ _ h => h) (Or.inl ⟨by rfl, ?_⟩) (by assumption) ?_; rotate_left; (· (intro w0 hSw; obtain ⟨y4, y5, y6⟩ := HRD.out _ hSw; clear hSw; go_simp); first | done | with_reducible rfl); (try simp only [Act.put, List.getElem_toArray, List.getElem_cons_succ, List.getElem_cons_zero, List.setIfInBounds_toArray, List.set_cons_zero, List.set_cons_succ])
                            refine wpAnyH_take (i := 15 ) (v := ?_) rfl (by kernel_rfl) (by kernel_rfl) (by kernel_rfl) (fun _ _ _ h => h) (Or.inl ⟨by rfl, ?_⟩) (by assumption) ?_; rotate_left; (· (intro w0 hSw; obtain ⟨y4, y5, y6⟩ := HRD.out _ hSw; clear hSw; go_simp); first | done | with_reducible rfl); (try simp only [Act.put, List.getElem_toArray, List.getElem_cons_succ, List.getElem_cons_zero, List.setIfInBounds_toArray, List.set_cons_zero, List.set_cons_succ])
                            refine wpAnyH_done (by kernel_rfl) ?_ _
                            go_wp2_with fail
                            go_meet
                            exact ⟨rfl, Lib.hid (HW.out.call HD.out)⟩
                          exact AllReadyH.nil
                        exact AllReadyH.nil
                      exact AllReadyH.nil
                    exact AllReadyH.nil
              case rest =>
                obtain ⟨rfl, HW⟩ := hcut
                rename World => w9
                have hp64 := pow_tab need.length (by omega)
                have hpk : IntKind.i64.wrap (IntKind.i64.wrap ((2 : Int) ^ need.length) - 1) = ((2 ^ need.length - 1 : Nat) : Int) := wrap_tab3 need.length (by omega)
                have hwn : IntKind.i64.wrap (n - 1) = n - 1 := IntWalk.i64_in _ ⟨by omega, by omega⟩
                go_upto_region 18 with fail
                go_cut [18, 19] (fun _ s17 wx => s17 = .int .i64 10 ∧ Hid (LkW w A B c d need.length l.length b wx))
                case first => as_aux_lemma =>
                  have HRD : Hid (∀ W9, Below w9.heap.size w9 W9 → W9.cell? ⟨w.heap.size, 0, none⟩ = some (.slice A need.length c) ∧ W9.cell? ⟨w.heap.size + 1, 0, none⟩ = some (.slice B l.length d) ∧ W9.cell? ⟨w.heap.size + 1 + 1, 0, none⟩ = some (.int .i64 b)) := Lib.hid fun W9 h9 => ⟨(HW.out.call h9).k4.cell 0, (HW.out.call h9).k5.cell 0, (HW.out.call h9).k6.cell 0⟩
                  have HD := Lib.hid ((Below.refl w9.heap.size w9).drew)
                  rcases hB? : B with _ | ad
                  · subst hB?
                    obtain ⟨hl00, rfl⟩ := HNI.out rfl
                    have HNIL : Hid (l = []) := Lib.hid (List.eq_nil_of_length_eq_zero hl00)
                    have HL0E : Hid (Value.slice none 0 0 = Value.slice none l.length 0) := Lib.hid (by rw [hl00])
                    rw [hl00] at HRD ⊢
                    clear hl00
                    as_aux_lemma =>
                      refine wp_region_held_drew (S := fun W9 => Below w9.heap.size w9 W9) (by kernel_rfl) HD.out (fun hH0 => ?_)
                      generalize World.drew _ = V0 at *
                      simp only [List.size_toArray, List.length_cons, List.length_nil, Nat.reduceAdd, Array.replicate_succ, Array.replicate_zero, List.push_toArray, List.nil_append, List.cons_append]
                      refine wpAnyH_take (i := 0 ) (v := ?_) rfl (by kernel_rfl) (by kernel_rfl) (by kernel_rfl) (fun _ _ _ h => h) (Or.inl ⟨by rfl, ?_⟩) (by assumption) ?_; rotate_left; (· (intro w0 hSw; obtain ⟨y4, y5, y6⟩ := HRD.out _ hSw; clear hSw; go_simp); first | done | with_reducible rfl); (try simp only [Act.put, List.getElem_toArray, List.getElem_cons_zero, List.setIfInBounds_toArray, List.set_cons_zero, List.set_cons_succ])
                      refine wpAnyH_take (i := 2 ) (v := ?_) rfl (by kernel_rfl) (by kernel_rfl) (by kernel_rfl) (fun _ _ _ h => h) (Or.inl ⟨by rfl, ?_⟩) (by assumption) ?_; rotate_left; (· (intro w0 hSw; obtain ⟨y4, y5, y6⟩ := HRD.out _ hSw; clear hSw; go_simp); first | done | with_reducible rfl); (try simp only [Act.put, List.getElem_toArray, List.getElem_cons_succ, List.getElem_cons_zero, List.setIfInBounds_toArray, List.set_cons_zero, List.set_cons_succ])
                      refine wpAnyH_take (i := 4 ) (v := ?_) rfl (by kernel_rfl) (by kernel_rfl) (by kernel_rfl) (fun _ _ _ h => h) (Or.inl ⟨by rfl, ?_⟩) (by assumption) ?_; rotate_left; (· (intro w0 hSw; obtain ⟨y4, y5, y6⟩ := HRD.out _ hSw; clear hSw; go_simp); first | done | with_reducible rfl); (try simp only [Act.put, List.getElem_toArray, List.getElem_cons_succ, List.getElem_cons_zero, List.setIfInBounds_toArray, List.set_cons_zero, List.set_cons_succ])
                      refine wpAnyH_take (i := 5 ) (v := ?_) rfl (by kernel_rfl) (by kernel_rfl) (by kernel_rfl) (fun _ _ _ h => h) (Or.inl ⟨by rfl, ?_⟩) (by assumption) ?_; rotate_left; (· (intro w0 hSw; obtain ⟨y4, y5, y6⟩ := HRD.out _ hSw; clear hSw; go_simp); first | done | with_reducible rfl); (try simp only [Act.put, List.getElem_toArray, List.getElem_cons_succ, List.getElem_cons_zero, List.setIfInBounds_toArray, List.set_cons_zero, List.set_cons_succ])
                      refine wpAnyH_take (i := 6 ) (v := ?_) rfl (by kernel_rfl) (by kernel_rfl) (by kernel_rfl) (fun _ _ _ h => h) (Or.inl ⟨by rfl, ?_⟩) (by assumption) ?_; rotate_left; (· (intro w0 hSw; obtain ⟨y4, y5, y6⟩ := HRD.out _ hSw; clear hSw; go_simp); first | done | with_reducible rfl); (try simp only [Act.put, List.getElem_toArray, List.getElem_cons_succ, List.getElem_cons_zero, List.setIfInBounds_toArray, List.set_cons_zero, List.set_cons_succ])
                      refine wpAnyH_take (i := 7 ) (v := ?_) rfl (by kernel_rfl) (by kernel_rfl) (by kernel_rfl) (fun _ _ _ h => h) (Or.inl ⟨by rfl, ?_⟩) (by assumption) ?_; rotate_left; (· (intro w0 hSw; obtain ⟨y4, y5, y6⟩ := HRD.out _ hSw; clear hSw; go_simp); first | done | with_reducible rfl); (try simp only [Act.put, List.getElem_toArray, List.getElem_cons_succ, List.getElem_cons_zero, List.setIfInBounds_toArray, List.set_cons_zero, List.set_cons_succ])
                      refine wpAnyH_take (i := 8 ) (v := ?_) rfl (by kernel_rfl) (by kernel_rfl) (by kernel_rfl) (fun _ _ _ h => h) (Or.inl ⟨by rfl, ?_⟩) (by assumption) ?_; rotate_left; (· (intro w0 hSw; obtain ⟨y4, y5, y6⟩ := HRD.out _ hSw; clear hSw; go_simp); first | done | with_reducible rfl); (try simp only [Act.put, List.getElem_toArray, List.getElem_cons_succ, List.getElem_cons_zero, List.setIfInBounds_toArray, List.set_cons_zero, List.set_cons_succ])
                      refine wpAnyH_take (i := 9 ) (v := ?_) rfl (by kernel_rfl) (by kernel_rfl) (by kernel_rfl) (fun _ _ _ h => h) (Or.inl ⟨by rfl, ?_⟩) (by assumption) ?_; rotate_left; (· (intro w0 hSw; obtain ⟨y4, y5, y6⟩ := HRD.out _ hSw; clear hSw; go_simp); first | done | with_reducible rfl); (try simp only [Act.put, List.getElem_toArray, List.getElem_cons_succ, List.getElem_cons_zero, List.setIfInBounds_toArray, List.set_cons_zero, List.set_cons_succ])
                      refine wpAnyH_take (i := 10 ) (v := ?_) rfl (by kernel_rfl) (by kernel_rfl) (by kernel_rfl) (fun _ _ _ h => h) (Or.inl ⟨by rfl, ?_⟩) (by assumption) ?_; rotate_left; (· (intro w0 hSw; obtain ⟨y4, y5, y6⟩ := HRD.out _ hSw; clear hSw; go_simp); first | done | with_reducible rfl); (try simp only [Act.put, List.getElem_toArray, List.getElem_cons_succ, List.getElem_cons_zero, List.setIfInBounds_toArray, List.set_cons_zero, List.set_cons_succ])
                      refine wpAnyH_take (i := 13 ) (v := ?_) rfl (by kernel_rfl) (by kernel_rfl) (by kernel_rfl) (fun _ _ _ h => h) (Or.inl ⟨by rfl, ?_⟩) (by assumption) ?_; rotate_left; (· (intro w0 hSw; obtain ⟨y4, y5, y6⟩ := HRD.out _ hSw; clear hSw; go_simp); first | done | with_reducible rfl); (try simp only [Act.put, List.getElem_toArray, List.getElem_cons_succ, List.getElem_cons_zero, List.setIfInBounds_toArray, List.set_cons_zero, List.set_cons_succ])
                      refine wpAnyH_ready (rs := [1, 11]) (by kernel_rfl) (by simp) ?_
                      refine AllReadyH.cons (by simp only [List.getElem?_toArray, List.getElem?_cons_succ, List.getElem?_cons_zero]; rfl) (fun K hK => ?_) ?_
                      · go_simp
                        have HO := Lib.hid (own_zero9 (t := 46) V0 w9.heap.size HD.out.size 2)
                        replace HD := Lib.hid (HD.out.alloc HD.out.size (.cells #[] 46))
                        have HSZ0 : Hid ((World.alloc V0 (.cells #[] 46)).heap.size = V0.heap.size + 1) := Lib.hid (by simp)
                        generalize World.alloc V0 _ = V1 at *
                        refine hK.out _ _ HD.out (fun hH1 => ?_)
                        clear hK K
                        try simp only [List.setIfInBounds_toArray, List.set_cons_zero, List.set_cons_succ]
                        refine wpAnyH_ready (rs := [3, 11]) (by kernel_rfl) (by simp) ?_
                        refine AllReadyH.cons (by simp only [List.getElem?_toArray, List.getElem?_cons_succ, List.getElem?_cons_zero]; rfl) (fun K hK => ?_) ?_
                        · rw [if_pos (by rfl)]
                          refine wp_app_none _ _ 23 (by rfl) w9.heap.size 46 i0 2 und_piles9 HI.out.1 (.slice (some ⟨V0.heap.size, 0, none⟩) 0 0) 0 [] (by rfl) HO.out (by rfl) ?_
                          simp only [Act.put, List.setIfInBounds_toArray, List.set_cons_zero, List.set_cons_succ]
                          replace HO : Hid (V1.ownsRow w9.heap.size 46 2 (.slice (some ⟨V0.heap.size, 0, none⟩) 0 0) l.length (pileV l)) := Lib.hid (by rw [HNIL.out]; exact HO.out)
                          refine hK.out _ _ HD.out (fun hH2 => ?_)
                          clear hK K
                          try simp only [List.setIfInBounds_toArray, List.set_cons_zero, List.set_cons_succ]
                          refine wpAnyH_ready (rs := [11]) (by kernel_rfl) (by simp) ?_
                          refine AllReadyH.cons (by simp only [List.getElem?_toArray, List.getElem?_cons_succ, List.getElem?_cons_zero]; rfl) (fun K hK => ?_) ?_
                          · rw [if_pos (by rfl)]
                            refine wp_bs 23 46 1 _ (by rfl) #[.int .i64 ((2 ^ need.length - 1 : Nat) : Int), .int .i64 (n - 1)] [.agg #[.int .i64 ((2 ^ need.length - 1 : Nat) : Int), .int .i64 (n - 1)]] (.agg #[.int .i64 0, .int .i64 0]) 2 (by kernel_rfl) (by kernel_rfl) (by decide) (by rfl) (by rfl) (by rfl) (by rfl) ?_
                            simp only [Act.put, List.setIfInBounds_toArray, List.set_cons_zero, List.set_cons_succ]
                            have KC := Lib.hid (Blk.new V1 46 #[.int .i64 ((2 ^ need.length - 1 : Nat) : Int), .int .i64 (n - 1)])
                            replace HO := Lib.hid (own_low9 HO.out ((Below.refl V1.heap.size V1).alloc (Nat.le_refl _) (.cells #[.int .i64 ((2 ^ need.length - 1 : Nat) : Int), .int .i64 (n - 1)] 46)))
                            replace HD := Lib.hid (HD.out.alloc HD.out.size (.cells #[.int .i64 ((2 ^ need.length - 1 : Nat) : Int), .int .i64 (n - 1)] 46))
                            have HSZ1 : Hid ((World.alloc V1 (.cells #[.int .i64 ((2 ^ need.length - 1 : Nat) : Int), .int .i64 (n - 1)] 46)).heap.size = V1.heap.size + 1) := Lib.hid (by simp)
                            generalize World.alloc V1 _ = V2 at *
                            refine hK.out _ _ HD.out (fun hH3 => ?_)
                            clear hK K
                            try simp only [List.setIfInBounds_toArray, List.set_cons_zero, List.set_cons_succ]
                            refine wpAnyH_ready (rs := [12]) (by kernel_rfl) (by simp) ?_
                            refine AllReadyH.cons (by simp only [List.getElem?_toArray, List.getElem?_cons_succ, List.getElem?_cons_zero]; rfl) (fun K hK => ?_) ?_
                            · rw [if_pos (by rfl)]
                              refine wp_append_own _ _ _ 23 (by rfl) w9.heap.size 46 i0 _ 2 16 und_piles9 HI.out.1 HI.out.2.1 HI.out.2.2.1 HI.out.2.2.2 rfl (by decide) (.slice (some ⟨V0.heap.size, 0, none⟩) 0 0) l.length (pileV l) (by rfl) HO.out ⟨V1.heap.size, 0, none⟩ 1 1 [.int .i64 ((2 ^ need.length - 1 : Nat) : Int), .int .i64 (n - 1)] (by rfl) (by rfl) (World.news_of_block (cs := #[.int .i64 ((2 ^ need.length - 1 : Nat) : Int), .int .i64 (n - 1)]) (t := 46) (fr := (0, 0)) KC.out) (by simp [Value.oneCell']) (by unfold maxLen; omega) (by omega) HD.out.size ?_
                              intro v2 VZ hown hgr hnn
                              clear hnn
                              simp only [Act.put, List.setIfInBounds_toArray, List.set_cons_zero, List.set_cons_succ]
                              replace HD := Lib.hid (Below.grown HD.out hgr HD.out.size fun j e => (HO.out.lt j e).1)
                              replace HO := Lib.hid hown
                              clear hown hgr KC
                              obtain ⟨gz, cz, rfl, hz1, hz2⟩ := own_g9 HO.out (by omega)
                              have HPS := Lib.hid (own_piles9 (l := l ++ [⟨((2 ^ need.length - 1 : Nat) : Int), n - 1⟩]) (by rw [pileV_app]; exact HO.out) (by simp))
                              clear HO
                              refine hK.out _ _ HD.out (fun hH4 => ?_)
                              clear hK K
                              try simp only [List.setIfInBounds_toArray, List.set_cons_zero, List.set_cons_succ]
                              refine wpAnyH_ready (rs := [14]) (by kernel_rfl) (by simp) ?_
                              refine AllReadyH.cons (by simp only [List.getElem?_toArray, List.getElem?_cons_succ, List.getElem?_cons_zero]; rfl) (fun K hK => ?_) AllReadyH.nil
                              go_simp
                              refine (HFL2.out VZ gz cz HPS.out (HA.out.on (HW.out.call HD.out).hb (Nat.le_refl _))).mono ?_
                              rintro e VY ⟨AZ, fz, c9, rfl, hb9⟩
                              replace HD := Lib.hid (HD.out.trans (hb9.mono HD.out.size))
                              clear hb9 HPS
                              refine hK.out _ _ HD.out (fun hH5 => ?_)
                              clear hK K
                              try simp only [List.setIfInBounds_toArray, List.set_cons_zero, List.set_cons_succ]
                              refine wpAnyH_take (i := 15 ) (v := ?_) rfl (by kernel_rfl) (by kernel_rfl) (by kernel_rfl) (fun _ _ _ h => h) (Or.inl ⟨by rfl, ?_⟩) (by assumption) ?_; rotate_left; (· (intro w0 hSw; obtain ⟨y4, y5, y6⟩ := HRD.out _ hSw; clear hSw; go_simp); first | done | with_reducible rfl); (try simp only [Act.put, List.getElem_toArray, List.getElem_cons_succ, List.getElem_cons_zero, List.setIfInBounds_toArray, List.set_cons_zero, List.set_cons_succ])
                              refine wpAnyH_take (i := 16 ) (v := ?_) rfl (by kernel_rfl) (by kernel_rfl) (by kernel_rfl) (fun _ _ _ h => h) (Or.inl ⟨by rfl, ?_⟩) (by assumption) ?_; rotate_left; (· (intro w0 hSw; obtain ⟨y4, y5, y6⟩ := HRD.out _ hSw; clear hSw; go_simp); first | done | with_reducible rfl); (try simp only [Act.put, List.getElem_toArray, List.getElem_cons_succ, List.getElem_cons_zero, List.setIfInBounds_toArray, List.set_cons_zero, List.set_cons_succ])
                              refine wpAnyH_take (i := 17 ) (v := ?_) rfl (by kernel_rfl) (by kernel_rfl) (by kernel_rfl) (fun _ _ _ h => h) (Or.inl ⟨by rfl, ?_⟩) (by assumption) ?_; rotate_left; (· (intro w0 hSw; obtain ⟨y4, y5, y6⟩ := HRD.out _ hSw; clear hSw; go_simp); first | done | with_reducible rfl); (try simp only [Act.put, List.getElem_toArray, List.getElem_cons_succ, List.getElem_cons_zero, List.setIfInBounds_toArray, List.set_cons_zero, List.set_cons_succ])
                              refine wpAnyH_take (i := 18 ) (v := ?_) rfl (by kernel_rfl) (by kernel_rfl) (by kernel_rfl) (fun _ _ _ h => h) (Or.inl ⟨by rfl, ?_⟩) (by assumption) ?_; rotate_left; (· (intro w0 hSw; obtain ⟨y4, y5, y6⟩ := HRD.out _ hSw; clear hSw; go_simp); first | done | with_reducible rfl); (try simp only [Act.put, List.getElem_toArray, List.getElem_cons_succ, List.getElem_cons_zero, List.setIfInBounds_toArray, List.set_cons_zero, List.set_cons_succ])
                              refine wpAnyH_take (i := 19 ) (v := ?_) rfl (by kernel_rfl) (by kernel_rfl) (by kernel_rfl) (fun _ _ _ h => h) (Or.inl ⟨by rfl, ?_⟩) (by assumption) ?_; rotate_left; (· (intro w0 hSw; obtain ⟨y4, y5, y6⟩ := HRD.out _ hSw; clear hSw; go_simp); first | done | with_reducible rfl); (try simp only [Act.put, List.getElem_toArray, List.getElem_cons_succ, List.getElem_cons_zero, List.setIfInBounds_toArray, List.set_cons_zero, List.set_cons_succ])
                              refine wpAnyH_done (by kernel_rfl) ?_ _
                              go_wp2_with fail
                              rw [HL0E.out]
                              go_meet
                              exact ⟨rfl, Lib.hid (HW.out.call HD.out)⟩
                            exact AllReadyH.nil
                          exact AllReadyH.nil
                        refine AllReadyH.cons (by simp only [List.getElem?_toArray, List.getElem?_cons_succ, List.getElem?_cons_zero]; rfl) (fun K hK => ?_) ?_
                        · rw [if_pos (by rfl)]
                          refine wp_bs 23 46 1 _ (by rfl) #[.int .i64 ((2 ^ need.length - 1 : Nat) : Int), .int .i64 (n - 1)] [.agg #[.int .i64 ((2 ^ need.length - 1 : Nat) : Int), .int .i64 (n - 1)]] (.agg #[.int .i64 0, .int .i64 0]) 2 (by kernel_rfl) (by kernel_rfl) (by decide) (by rfl) (by rfl) (by rfl) (by rfl) ?_
                          simp only [Act.put, List.setIfInBounds_toArray, List.set_cons_zero, List.set_cons_succ]
                          have KC := Lib.hid (Blk.new V1 46 #[.int .i64 ((2 ^ need.length - 1 : Nat) : Int), .int .i64 (n - 1)])
                          replace HO := Lib.hid (own_low9 HO.out ((Below.refl V1.heap.size V1).alloc (Nat.le_refl _) (.cells #[.int .i64 ((2 ^ need.length - 1 : Nat) : Int), .int .i64 (n - 1)] 46)))
                          replace HD := Lib.hid (HD.out.alloc HD.out.size (.cells #[.int .i64 ((2 ^ need.length - 1 : Nat) : Int), .int .i64 (n - 1)] 46))
                          have HSZ1 : Hid ((World.alloc V1 (.cells #[.int .i64 ((2 ^ need.length - 1 : Nat) : Int), .int .i64 (n - 1)] 46)).heap.size = V1.heap.size + 1) := Lib.hid (by simp)
                          generalize World.alloc V1 _ = V2 at *
                          refine hK.out _ _ HD.out (fun hH2 => ?_)
                          clear hK K
                          try simp only [List.setIfInBounds_toArray, List.set_cons_zero, List.set_cons_succ]
                          refine wpAnyH_ready (rs := [3]) (by kernel_rfl) (by simp) ?_
                          refine AllReadyH.cons (by simp only [List.getElem?_toArray, List.getElem?_cons_succ, List.getElem?_cons_zero]; rfl) (fun K hK => ?_) ?_
                          · rw [if_pos (by rfl)]
                            refine wp_app_none _ _ 23 (by rfl) w9.heap.size 46 i0 2 und_piles9 HI.out.1 (.slice (some ⟨V0.heap.size, 0, none⟩) 0 0) 0 [] (by rfl) HO.out (by rfl) ?_
                            simp only [Act.put, List.setIfInBounds_toArray, List.set_cons_zero, List.set_cons_succ]
                            replace HO : Hid (V2.ownsRow w9.heap.size 46 2 (.slice (some ⟨V0.heap.size, 0, none⟩) 0 0) l.length (pileV l)) := Lib.hid (by rw [HNIL.out]; exact HO.out)
                            refine hK.out _ _ HD.out (fun hH3 => ?_)
                            clear hK K
                            try simp only [List.setIfInBounds_toArray, List.set_cons_zero, List.set_cons_succ]
                            refine wpAnyH_ready (rs := [12]) (by kernel_rfl) (by simp) ?_
                            refine AllReadyH.cons (by simp only [List.getElem?_toArray, List.getElem?_cons_succ, List.getElem?_cons_zero]; rfl) (fun K hK => ?_) ?_
                            · rw [if_pos (by rfl)]
                              refine wp_append_own _ _ _ 23 (by rfl) w9.heap.size 46 i0 _ 2 16 und_piles9 HI.out.1 HI.out.2.1 HI.out.2.2.1 HI.out.2.2.2 rfl (by decide) (.slice (some ⟨V0.heap.size, 0, none⟩) 0 0) l.length (pileV l) (by rfl) HO.out ⟨V1.heap.size, 0, none⟩ 1 1 [.int .i64 ((2 ^ need.length - 1 : Nat) : Int), .int .i64 (n - 1)] (by rfl) (by rfl) (World.news_of_block (cs := #[.int .i64 ((2 ^ need.length - 1 : Nat) : Int), .int .i64 (n - 1)]) (t := 46) (fr := (0, 0)) KC.out) (by simp [Value.oneCell']) (by unfold maxLen; omega) (by omega) HD.out.size ?_
                              intro v2 VZ hown hgr hnn
                              clear hnn
                              simp only [Act.put, List.setIfInBounds_toArray, List.set_cons_zero, List.set_cons_succ]
                              replace HD := Lib.hid (Below.grown HD.out hgr HD.out.size fun j e => (HO.out.lt j e).1)
                              replace HO := Lib.hid hown
                              clear hown hgr KC
                              obtain ⟨gz, cz, rfl, hz1, hz2⟩ := own_g9 HO.out (by omega)
                              have HPS := Lib.hid (own_piles9 (l := l ++ [⟨((2 ^ need.length - 1 : Nat) : Int), n - 1⟩]) (by rw [pileV_app]; exact HO.out) (by simp))
                              clear HO
                              refine hK.out _ _ HD.out (fun hH4 => ?_)
                              clear hK K
                              try simp only [List.setIfInBounds_toArray, List.set_cons_zero, List.set_cons_succ]
                              refine wpAnyH_ready (rs := [14]) (by kernel_rfl) (by simp) ?_
                              refine AllReadyH.cons (by simp only [List.getElem?_toArray, List.getElem?_cons_succ, List.getElem?_cons_zero]; rfl) (fun K hK => ?_) AllReadyH.nil
                              go_simp
                              refine (HFL2.out VZ gz cz HPS.out (HA.out.on (HW.out.call HD.out).hb (Nat.le_refl _))).mono ?_
                              rintro e VY ⟨AZ, fz, c9, rfl, hb9⟩
                              replace HD := Lib.hid (HD.out.trans (hb9.mono HD.out.size))
                              clear hb9 HPS
                              refine hK.out _ _ HD.out (fun hH5 => ?_)
                              clear hK K
                              try simp only [List.setIfInBounds_toArray, List.set_cons_zero, List.set_cons_succ]
                              refine wpAnyH_take (i := 15 ) (v := ?_) rfl (by kernel_rfl) (by kernel_rfl) (by kernel_rfl) (fun _ _ _ h => h) (Or.inl ⟨by rfl, ?_⟩) (by assumption) ?_; rotate_left; (· (intro w0 hSw; obtain ⟨y4, y5, y6⟩ := HRD.out _ hSw; clear hSw; go_simp); first | done | with_reducible rfl); (try simp only [Act.put, List.getElem_toArray, List.getElem_cons_succ, List.getElem_cons_zero, List.setIfInBounds_toArray, List.set_cons_zero, List.set_cons_succ])
                              refine wpAnyH_take (i := 16 ) (v := ?_) rfl (by kernel_rfl) (by kernel_rfl) (by kernel_rfl) (fun _ _ _ h => h) (Or.inl ⟨by rfl, ?_⟩) (by assumption) ?_; rotate_left; (· (intro w0 hSw; obtain ⟨y4, y5, y6⟩ := HRD.out _ hSw; clear hSw; go_simp); first | done | with_reducible rfl); (try simp only [Act.put, List.getElem_toArray, List.getElem_cons_succ, List.getElem_cons_zero, List.setIfInBounds_toArray, List.set_cons_zero, List.set_cons_succ])
                              refine wpAnyH_take (i := 17 ) (v := ?_) rfl (by kernel_rfl) (by kernel_rfl) (by kernel_rfl) (fun _ _ _ h => h) (Or.inl ⟨by rfl, ?_⟩) (by assumption) ?_; rotate_left; (· (intro w0 hSw; obtain ⟨y4, y5, y6⟩ := HRD.out _ hSw; clear hSw; go_simp); first | done | with_reducible rfl); (try simp only [Act.put, List.getElem_toArray, List.getElem_cons_succ, List.getElem_cons_zero, List.setIfInBounds_toArray, List.set_cons_zero, List.set_cons_succ])
                              refine wpAnyH_take (i := 18 ) (v := ?_) rfl (by kernel_rfl) (by kernel_rfl) (by kernel_rfl) (fun _ _ _ h => h) (Or.inl ⟨by rfl, ?_⟩) (by assumption) ?_; rotate_left; (· (intro w0 hSw; obtain ⟨y4, y5, y6⟩ := HRD.out _ hSw; clear hSw; go_simp); first | done | with_reducible rfl); (try simp only [Act.put, List.getElem_toArray, List.getElem_cons_succ, List.getElem_cons_zero, List.setIfInBounds_toArray, List.set_cons_zero, List.set_cons_succ])
                              refine wpAnyH_take (i := 19 ) (v := ?_) rfl (by kernel_rfl) (by kernel_rfl) (by kernel_rfl) (fun _ _ _ h => h) (Or.inl ⟨by rfl, ?_⟩) (by assumption) ?_; rotate_left; (· (intro w0 hSw; obtain ⟨y4, y5, y6⟩ := HRD.out _ hSw; clear hSw; go_simp); first | done | with_reducible rfl); (try simp only [Act.put, List.getElem_toArray, List.getElem_cons_succ, List.getElem_cons_zero, List.setIfInBounds_toArray, List.set_cons_zero, List.set_cons_succ])
                              refine wpAnyH_done (by kernel_rfl) ?_ _
                              go_wp2_with fail
                              rw [HL0E.out]
                              go_meet
                              exact ⟨rfl, Lib.hid (HW.out.call HD.out)⟩
                            exact AllReadyH.nil
                          exact AllReadyH.nil
                        exact AllReadyH.nil
                      refine AllReadyH.cons (by simp only [List.getElem?_toArray, List.getElem?_cons_succ, List.getElem?_cons_zero]; rfl) (fun K hK => ?_) ?_
                      · rw [if_pos (by rfl)]
                        refine wp_bs 23 46 1 _ (by rfl) #[.int .i64 ((2 ^ need.length - 1 : Nat) : Int), .int .i64 (n - 1)] [.agg #[.int .i64 ((2 ^ need.length - 1 : Nat) : Int), .int .i64 (n - 1)]] (.agg #[.int .i64 0, .int .i64 0]) 2 (by kernel_rfl) (by kernel_rfl) (by decide) (by rfl) (by rfl) (by rfl) (by rfl) ?_
                        simp only [Act.put, List.setIfInBounds_toArray, List.set_cons_zero, List.set_cons_succ]
                        have KC := Lib.hid (Blk.new V0 46 #[.int .i64 ((2 ^ need.length - 1 : Nat) : Int), .int .i64 (n - 1)])
                        replace HD := Lib.hid (HD.out.alloc HD.out.size (.cells #[.int .i64 ((2 ^ need.length - 1 : Nat) : Int), .int .i64 (n - 1)] 46))
                        have HSZ0 : Hid ((World.alloc V0 (.cells #[.int .i64 ((2 ^ need.length - 1 : Nat) : Int), .int .i64 (n - 1)] 46)).heap.size = V0.heap.size + 1) := Lib.hid (by simp)
                        generalize World.alloc V0 _ = V1 at *
                        refine hK.out _ _ HD.out (fun hH1 => ?_)
                        clear hK K
                        try simp only [List.setIfInBounds_toArray, List.set_cons_zero, List.set_cons_succ]
                        refine wpAnyH_ready (rs := [1]) (by kernel_rfl) (by simp) ?_
                        refine AllReadyH.cons (by simp only [List.getElem?_toArray, List.getElem?_cons_succ, List.getElem?_cons_zero]; rfl) (fun K hK => ?_) ?_
                        · go_simp
                          have HO := Lib.hid (own_zero9 (t := 46) V1 w9.heap.size HD.out.size 2)
                          replace KC := Lib.hid (KC.out.alloc (.cells #[] 46))
                          replace HD := Lib.hid (HD.out.alloc HD.out.size (.cells #[] 46))
                          have HSZ1 : Hid ((World.alloc V1 (.cells #[] 46)).heap.size = V1.heap.size + 1) := Lib.hid (by simp)
                          generalize World.alloc V1 _ = V2 at *
                          refine hK.out _ _ HD.out (fun hH2 => ?_)
                          clear hK K
                          try simp only [List.setIfInBounds_toArray, List.set_cons_zero, List.set_cons_succ]
                          refine wpAnyH_ready (rs := [3]) (by kernel_rfl) (by simp) ?_
                          refine AllReadyH.cons (by simp only [List.getElem?_toArray, List.getElem?_cons_succ, List.getElem?_cons_zero]; rfl) (fun K hK => ?_) ?_
                          · rw [if_pos (by rfl)]
                            refine wp_app_none _ _ 23 (by rfl) w9.heap.size 46 i0 2 und_piles9 HI.out.1 (.slice (some ⟨V1.heap.size, 0, none⟩) 0 0) 0 [] (by rfl) HO.out (by rfl) ?_
                            simp only [Act.put, List.setIfInBounds_toArray, List.set_cons_zero, List.set_cons_succ]
                            replace HO : Hid (V2.ownsRow w9.heap.size 46 2 (.slice (some ⟨V1.heap.size, 0, none⟩) 0 0) l.length (pileV l)) := Lib.hid (by rw [HNIL.out]; exact HO.out)
                            refine hK.out _ _ HD.out (fun hH3 => ?_)
                            clear hK K
                            try simp only [List.setIfInBounds_toArray, List.set_cons_zero, List.set_cons_succ]
                            refine wpAnyH_ready (rs := [12]) (by kernel_rfl) (by simp) ?_
                            refine AllReadyH.cons (by simp only [List.getElem?_toArray, List.getElem?_cons_succ, List.getElem?_cons_zero]; rfl) (fun K hK => ?_) ?_
                            · rw [if_pos (by rfl)]
                              refine wp_append_own _ _ _ 23 (by rfl) w9.heap.size 46 i0 _ 2 16 und_piles9 HI.out.1 HI.out.2.1 HI.out.2.2.1 HI.out.2.2.2 rfl (by decide) (.slice (some ⟨V1.heap.size, 0, none⟩) 0 0) l.length (pileV l) (by rfl) HO.out ⟨V0.heap.size, 0, none⟩ 1 1 [.int .i64 ((2 ^ need.length - 1 : Nat) : Int), .int .i64 (n - 1)] (by rfl) (by rfl) (World.news_of_block (cs := #[.int .i64 ((2 ^ need.length - 1 : Nat) : Int), .int .i64 (n - 1)]) (t := 46) (fr := (0, 0)) KC.out) (by simp [Value.oneCell']) (by unfold maxLen; omega) (by omega) HD.out.size ?_
                              intro v2 VZ hown hgr hnn
                              clear hnn
                              simp only [Act.put, List.setIfInBounds_toArray, List.set_cons_zero, List.set_cons_succ]
                              replace HD := Lib.hid (Below.grown HD.out hgr HD.out.size fun j e => (HO.out.lt j e).1)
                              replace HO := Lib.hid hown
                              clear hown hgr KC
                              obtain ⟨gz, cz, rfl, hz1, hz2⟩ := own_g9 HO.out (by omega)
                              have HPS := Lib.hid (own_piles9 (l := l ++ [⟨((2 ^ need.length - 1 : Nat) : Int), n - 1⟩]) (by rw [pileV_app]; exact HO.out) (by simp))
                              clear HO
                              refine hK.out _ _ HD.out (fun hH4 => ?_)
                              clear hK K
                              try simp only [List.setIfInBounds_toArray, List.set_cons_zero, List.set_cons_succ]
                              refine wpAnyH_ready (rs := [14]) (by kernel_rfl) (by simp) ?_
                              refine AllReadyH.cons (by simp only [List.getElem?_toArray, List.getElem?_cons_succ, List.getElem?_cons_zero]; rfl) (fun K hK => ?_) AllReadyH.nil
                              go_simp
                              refine (HFL2.out VZ gz cz HPS.out (HA.out.on (HW.out.call HD.out).hb (Nat.le_refl _))).mono ?_
                              rintro e VY ⟨AZ, fz, c9, rfl, hb9⟩
                              replace HD := Lib.hid (HD.out.trans (hb9.mono HD.out.size))
                              clear hb9 HPS
                              refine hK.out _ _ HD.out (fun hH5 => ?_)
                              clear hK K
                              try simp only [List.setIfInBounds_toArray, List.set_cons_zero, List.set_cons_succ]
                              refine wpAnyH_take (i := 15 ) (v := ?_) rfl (by kernel_rfl) (by kernel_rfl) (by kernel_rfl) (fun _ _ _ h => h) (Or.inl ⟨by rfl, ?_⟩) (by assumption) ?_; rotate_left; (· (intro w0 hSw; obtain ⟨y4, y5, y6⟩ := HRD.out _ hSw; clear hSw; go_simp); first | done | with_reducible rfl); (try simp only [Act.put, List.getElem_toArray, List.getElem_cons_succ, List.getElem_cons_zero, List.setIfInBounds_toArray, List.set_cons_zero, List.set_cons_succ])
                              refine wpAnyH_take (i := 16 ) (v := ?_) rfl (by kernel_rfl) (by kernel_rfl) (by kernel_rfl) (fun _ _ _ h => h) (Or.inl ⟨by rfl, ?_⟩) (by assumption) ?_; rotate_left; (· (intro w0 hSw; obtain ⟨y4, y5, y6⟩ := HRD.out _ hSw; clear hSw; go_simp); first | done | with_reducible rfl); (try simp only [Act.put, List.getElem_toArray, List.getElem_cons_succ, List.getElem_cons_zero, List.setIfInBounds_toArray, List.set_cons_zero, List.set_cons_succ])
                              refine wpAnyH_take (i := 17 ) (v := ?_) rfl (by kernel_rfl) (by kernel_rfl) (by kernel_rfl) (fun _ _ _ h => h) (Or.inl ⟨by rfl, ?_⟩) (by assumption) ?_; rotate_left; (· (intro w0 hSw; obtain ⟨y4, y5, y6⟩ := HRD.out _ hSw; clear hSw; go_simp); first | done | with_reducible rfl); (try simp only [Act.put, List.getElem_toArray, List.getElem_cons_succ, List.getElem_cons_zero, List.setIfInBounds_toArray, List.set_cons_zero, List.set_cons_succ])
                              refine wpAnyH_take (i := 18 ) (v := ?_) rfl (by kernel_rfl) (by kernel_rfl) (by kernel_rfl) (fun _ _ _ h => h) (Or.inl ⟨by rfl, ?_⟩) (by assumption) ?_; rotate_left; (· (intro w0 hSw; obtain ⟨y4, y5, y6⟩ := HRD.out _ hSw; clear hSw; go_simp); first | done | with_reducible rfl); (try simp only [Act.put, List.getElem_toArray, List.getElem_cons_succ, List.getElem_cons_zero, List.setIfInBounds_toArray, List.set_cons_zero, List.set_cons_succ])
                              refine wpAnyH_take (i := 19 ) (v := ?_) rfl (by kernel_rfl) (by kernel_rfl) (by kernel_rfl) (fun _ _ _ h => h) (Or.inl ⟨by rfl, ?_⟩) (by assumption) ?_; rotate_left; (· (intro w0 hSw; obtain ⟨y4, y5, y6⟩ := HRD.out _ hSw; clear hSw; go_simp); first | done | with_reducible rfl); (try simp only [Act.put, List.getElem_toArray, List.getElem_cons_succ, List.getElem_cons_zero, List.setIfInBounds_toArray, List.set_cons_zero, List.set_cons_succ])
                              refine wpAnyH_done (by kernel_rfl) ?_ _
                              go_wp2_with fail
                              rw [HL0E.out]
                              go_meet
                              exact ⟨rfl, Lib.hid (HW.out.call HD.out)⟩
                            exact AllReadyH.nil
                          exact AllReadyH.nil
                        exact AllReadyH.nil
                      exact AllReadyH.nil
                  · subst hB?
                    have HNW : Hid (∀ W, Below w9.heap.size w9 W → ∀ (j : Nat) u, (pileV l)[j]? = some u → W.cell? (ad.add j) = some u) := Lib.hid fun W hW j u hj => by
                      have hne : l ≠ [] := by rintro rfl; simp [pileV] at hj
                      obtain ⟨bb, off, h1, h2, h3⟩ := HB.out hne
                      obtain rfl := Option.some.inj h1
                      have h4 := (h3.below HW.out.hb h2).below hW (Nat.lt_of_lt_of_le h2 HW.out.hb.size)
                      exact pile_cells9 h4 j u hj
                    as_aux_lemma =>
                      refine wp_region_held_drew (S := fun W9 => Below w9.heap.size w9 W9) (by kernel_rfl) HD.out (fun hH0 => ?_)
                      generalize World.drew _ = V0 at *
                      simp only [List.size_toArray, List.length_cons, List.length_nil, Nat.reduceAdd, Array.replicate_succ, Array.replicate_zero, List.push_toArray, List.nil_append, List.cons_append]
                      refine wpAnyH_take (i := 0 ) (v := ?_) rfl (by kernel_rfl) (by kernel_rfl) (by kernel_rfl) (fun _ _ _ h => h) (Or.inl ⟨by rfl, ?_⟩) (by assumption) ?_; rotate_left; (· (intro w0 hSw; obtain ⟨y4, y5, y6⟩ := HRD.out _ hSw; clear hSw; go_simp); first | done | with_reducible rfl); (try simp only [Act.put, List.getElem_toArray, List.getElem_cons_zero, List.setIfInBounds_toArray, List.set_cons_zero, List.set_cons_succ])
                      refine wpAnyH_take (i := 2 ) (v := ?_) rfl (by kernel_rfl) (by kernel_rfl) (by kernel_rfl) (fun _ _ _ h => h) (Or.inl ⟨by rfl, ?_⟩) (by assumption) ?_; rotate_left; (· (intro w0 hSw; obtain ⟨y4, y5, y6⟩ := HRD.out _ hSw; clear hSw; go_simp); first | done | with_reducible rfl); (try simp only [Act.put, List.getElem_toArray, List.getElem_cons_succ, List.getElem_cons_zero, List.setIfInBounds_toArray, List.set_cons_zero, List.set_cons_succ])
                      refine wpAnyH_take (i := 4 ) (v := ?_) rfl (by kernel_rfl) (by kernel_rfl) (by kernel_rfl) (fun _ _ _ h => h) (Or.inl ⟨by rfl, ?_⟩) (by assumption) ?_; rotate_left; (· (intro w0 hSw; obtain ⟨y4, y5, y6⟩ := HRD.out _ hSw; clear hSw; go_simp); first | done | with_reducible rfl); (try simp only [Act.put, List.getElem_toArray, List.getElem_cons_succ, List.getElem_cons_zero, List.setIfInBounds_toArray, List.set_cons_zero, List.set_cons_succ])
                      refine wpAnyH_take (i := 5 ) (v := ?_) rfl (by kernel_rfl) (by kernel_rfl) (by kernel_rfl) (fun _ _ _ h => h) (Or.inl ⟨by rfl, ?_⟩) (by assumption) ?_; rotate_left; (· (intro w0 hSw; obtain ⟨y4, y5, y6⟩ := HRD.out _ hSw; clear hSw; go_simp); first | done | with_reducible rfl); (try simp only [Act.put, List.getElem_toArray, List.getElem_cons_succ, List.getElem_cons_zero, List.setIfInBounds_toArray, List.set_cons_zero, List.set_cons_succ])
                      refine wpAnyH_take (i := 6 ) (v := ?_) rfl (by kernel_rfl) (by kernel_rfl) (by kernel_rfl) (fun _ _ _ h => h) (Or.inl ⟨by rfl, ?_⟩) (by assumption) ?_; rotate_left; (· (intro w0 hSw; obtain ⟨y4, y5, y6⟩ := HRD.out _ hSw; clear hSw; go_simp); first | done | with_reducible rfl); (try simp only [Act.put, List.getElem_toArray, List.getElem_cons_succ, List.getElem_cons_zero, List.setIfInBounds_toArray, List.set_cons_zero, List.set_cons_succ])
                      refine wpAnyH_take (i := 7 ) (v := ?_) rfl (by kernel_rfl) (by kernel_rfl) (by kernel_rfl) (fun _ _ _ h => h) (Or.inl ⟨by rfl, ?_⟩) (by assumption) ?_; rotate_left; (· (intro w0 hSw; obtain ⟨y4, y5, y6⟩ := HRD.out _ hSw; clear hSw; go_simp); first | done | with_reducible rfl); (try simp only [Act.put, List.getElem_toArray, List.getElem_cons_succ, List.getElem_cons_zero, List.setIfInBounds_toArray, List.set_cons_zero, List.set_cons_succ])
                      refine wpAnyH_take (i := 8 ) (v := ?_) rfl (by kernel_rfl) (by kernel_rfl) (by kernel_rfl) (fun _ _ _ h => h) (Or.inl ⟨by rfl, ?_⟩) (by assumption) ?_; rotate_left; (· (intro w0 hSw; obtain ⟨y4, y5, y6⟩ := HRD.out _ hSw; clear hSw; go_simp); first | done | with_reducible rfl); (try simp only [Act.put, List.getElem_toArray, List.getElem_cons_succ, List.getElem_cons_zero, List.setIfInBounds_toArray, List.set_cons_zero, List.set_cons_succ])
                      refine wpAnyH_take (i := 9 ) (v := ?_) rfl (by kernel_rfl) (by kernel_rfl) (by kernel_rfl) (fun _ _ _ h => h) (Or.inl ⟨by rfl, ?_⟩) (by assumption) ?_; rotate_left; (· (intro w0 hSw; obtain ⟨y4, y5, y6⟩ := HRD.out _ hSw; clear hSw; go_simp); first | done | with_reducible rfl); (try simp only [Act.put, List.getElem_toArray, List.getElem_cons_succ, List.getElem_cons_zero, List.setIfInBounds_toArray, List.set_cons_zero, List.set_cons_succ])
                      refine wpAnyH_take (i := 10 ) (v := ?_) rfl (by kernel_rfl) (by kernel_rfl) (by kernel_rfl) (fun _ _ _ h => h) (Or.inl ⟨by rfl, ?_⟩) (by assumption) ?_; rotate_left; (· (intro w0 hSw; obtain ⟨y4, y5, y6⟩ := HRD.out _ hSw; clear hSw; go_simp); first | done | with_reducible rfl); (try simp only [Act.put, List.getElem_toArray, List.getElem_cons_succ, List.getElem_cons_zero, List.setIfInBounds_toArray, List.set_cons_zero, List.set_cons_succ])
                      refine wpAnyH_take (i := 13 ) (v := ?_) rfl (by kernel_rfl) (by kernel_rfl) (by kernel_rfl) (fun _ _ _ h => h) (Or.inl ⟨by rfl, ?_⟩) (by assumption) ?_; rotate_left; (· (intro w0 hSw; obtain ⟨y4, y5, y6⟩ := HRD.out _ hSw; clear hSw; go_simp); first | done | with_reducible rfl); (try simp only [Act.put, List.getElem_toArray, List.getElem_cons_succ, List.getElem_cons_zero, List.setIfInBounds_toArray, List.set_cons_zero, List.set_cons_succ])
                      refine wpAnyH_ready (rs := [1, 11]) (by kernel_rfl) (by simp) ?_
                      refine AllReadyH.cons (by simp only [List.getElem?_toArray, List.getElem?_cons_succ, List.getElem?_cons_zero]; rfl) (fun K hK => ?_) ?_
                      · go_simp
                        have HO := Lib.hid (own_zero9 (t := 46) V0 w9.heap.size HD.out.size 2)
                        replace HD := Lib.hid (HD.out.alloc HD.out.size (.cells #[] 46))
                        have HSZ0 : Hid ((World.alloc V0 (.cells #[] 46)).heap.size = V0.heap.size + 1) := Lib.hid (by simp)
                        generalize World.alloc V0 _ = V1 at *
                        refine hK.out _ _ HD.out (fun hH1 => ?_)
                        clear hK K
                        try simp only [List.setIfInBounds_toArray, List.set_cons_zero, List.set_cons_succ]
                        refine wpAnyH_ready (rs := [3, 11]) (by kernel_rfl) (by simp) ?_
                        refine AllReadyH.cons (by simp only [List.getElem?_toArray, List.getElem?_cons_succ, List.getElem?_cons_zero]; rfl) (fun K hK => ?_) ?_
                        · rw [if_pos (by rfl)]
                          refine wp_append_own _ _ _ 23 (by rfl) w9.heap.size 46 i0 _ 2 16 und_piles9 HI.out.1 HI.out.2.1 HI.out.2.2.1 HI.out.2.2.2 rfl (by decide) (.slice (some ⟨V0.heap.size, 0, none⟩) 0 0) 0 [] (by rfl) HO.out ad l.length d (pileV l) (by rfl) (pileV_len l) (HNW.out V1 HD.out) (pileV_one l) (by unfold maxLen; omega) (by omega) HD.out.size ?_
                          intro v1 V2 hown hgr hnn
                          clear hnn
                          simp only [Act.put, List.setIfInBounds_toArray, List.set_cons_zero, List.set_cons_succ]
                          replace HD := Lib.hid (Below.grown HD.out hgr HD.out.size fun j e => (HO.out.lt j e).1)
                          replace HO := Lib.hid hown
                          clear hown hgr
                          rw [Nat.zero_add, List.nil_append] at HO
                          refine hK.out _ _ HD.out (fun hH2 => ?_)
                          clear hK K
                          try simp only [List.setIfInBounds_toArray, List.set_cons_zero, List.set_cons_succ]
                          refine wpAnyH_ready (rs := [11]) (by kernel_rfl) (by simp) ?_
                          refine AllReadyH.cons (by simp only [List.getElem?_toArray, List.getElem?_cons_succ, List.getElem?_cons_zero]; rfl) (fun K hK => ?_) ?_
                          · rw [if_pos (by rfl)]
                            refine wp_bs 23 46 1 _ (by rfl) #[.int .i64 ((2 ^ need.length - 1 : Nat) : Int), .int .i64 (n - 1)] [.agg #[.int .i64 ((2 ^ need.length - 1 : Nat) : Int), .int .i64 (n - 1)]] (.agg #[.int .i64 0, .int .i64 0]) 2 (by kernel_rfl) (by kernel_rfl) (by decide) (by rfl) (by rfl) (by rfl) (by rfl) ?_
                            simp only [Act.put, List.setIfInBounds_toArray, List.set_cons_zero, List.set_cons_succ]
                            have KC := Lib.hid (Blk.new V2 46 #[.int .i64 ((2 ^ need.length - 1 : Nat) : Int), .int .i64 (n - 1)])
                            replace HO := Lib.hid (own_low9 HO.out ((Below.refl V2.heap.size V2).alloc (Nat.le_refl _) (.cells #[.int .i64 ((2 ^ need.length - 1 : Nat) : Int), .int .i64 (n - 1)] 46)))
                            replace HD := Lib.hid (HD.out.alloc HD.out.size (.cells #[.int .i64 ((2 ^ need.length - 1 : Nat) : Int), .int .i64 (n - 1)] 46))
                            have HSZ2 : Hid ((World.alloc V2 (.cells #[.int .i64 ((2 ^ need.length - 1 : Nat) : Int), .int .i64 (n - 1)] 46)).heap.size = V2.heap.size + 1) := Lib.hid (by simp)
                            generalize World.alloc V2 _ = V3 at *
                            refine hK.out _ _ HD.out (fun hH3 => ?_)
                            clear hK K
                            try simp only [List.setIfInBounds_toArray, List.set_cons_zero, List.set_cons_succ]
                            refine wpAnyH_ready (rs := [12]) (by kernel_rfl) (by simp) ?_
                            refine AllReadyH.cons (by simp only [List.getElem?_toArray, List.getElem?_cons_succ, List.getElem?_cons_zero]; rfl) (fun K hK => ?_) ?_
                            · rw [if_pos (by rfl)]
                              refine wp_append_own _ _ _ 23 (by rfl) w9.heap.size 46 i0 _ 2 16 und_piles9 HI.out.1 HI.out.2.1 HI.out.2.2.1 HI.out.2.2.2 rfl (by decide) v1 l.length (pileV l) (by rfl) HO.out ⟨V2.heap.size, 0, none⟩ 1 1 [.int .i64 ((2 ^ need.length - 1 : Nat) : Int), .int .i64 (n - 1)] (by rfl) (by rfl) (World.news_of_block (cs := #[.int .i64 ((2 ^ need.length - 1 : Nat) : Int), .int .i64 (n - 1)]) (t := 46) (fr := (0, 0)) KC.out) (by simp [Value.oneCell']) (by unfold maxLen; omega) (by omega) HD.out.size ?_
                              intro v2 VZ hown hgr hnn
                              clear hnn
                              simp only [Act.put, List.setIfInBounds_toArray, List.set_cons_zero, List.set_cons_succ]
                              replace HD := Lib.hid (Below.grown HD.out hgr HD.out.size fun j e => (HO.out.lt j e).1)
                              replace HO := Lib.hid hown
                              clear hown hgr KC
                              obtain ⟨gz, cz, rfl, hz1, hz2⟩ := own_g9 HO.out (by omega)
                              have HPS := Lib.hid (own_piles9 (l := l ++ [⟨((2 ^ need.length - 1 : Nat) : Int), n - 1⟩]) (by rw [pileV_app]; exact HO.out) (by simp))
                              clear HO
                              refine hK.out _ _ HD.out (fun hH4 => ?_)
                              clear hK K
                              try simp only [List.setIfInBounds_toArray, List.set_cons_zero, List.set_cons_succ]
                              refine wpAnyH_ready (rs := [14]) (by kernel_rfl) (by simp) ?_
                              refine AllReadyH.cons (by simp only [List.getElem?_toArray, List.getElem?_cons_succ, List.getElem?_cons_zero]; rfl) (fun K hK => ?_) AllReadyH.nil
                              go_simp
                              refine (HFL2.out VZ gz cz HPS.out (HA.out.on (HW.out.call HD.out).hb (Nat.le_refl _))).mono ?_
                              rintro e VY ⟨AZ, fz, c9, rfl, hb9⟩
                              replace HD := Lib.hid (HD.out.trans (hb9.mono HD.out.size))
                              clear hb9 HPS
                              refine hK.out _ _ HD.out (fun hH5 => ?_)
                              clear hK K
                              try simp only [List.setIfInBounds_toArray, List.set_cons_zero, List.set_cons_succ]
                              refine wpAnyH_take (i := 15 ) (v := ?_) rfl (by kernel_rfl) (by kernel_rfl) (by kernel_rfl) (fun _ _ _ h => h) (Or.inl ⟨by rfl, ?_⟩) (by assumption) ?_; rotate_left; (· (intro w0 hSw; obtain ⟨y4, y5, y6⟩ := HRD.out _ hSw; clear hSw; go_simp); first | done | with_reducible rfl); (try simp only [Act.put, List.getElem_toArray, List.getElem_cons_succ, List.getElem_cons_zero, List.setIfInBounds_toArray, List.set_cons_zero, List.set_cons_succ])
                              refine wpAnyH_take (i := 16 ) (v := ?_) rfl (by kernel_rfl) (by kernel_rfl) (by kernel_rfl) (fun _ _ _ h => h) (Or.inl ⟨by rfl, ?_⟩) (by assumption) ?_; rotate_left; (· (intro w0 hSw; obtain ⟨y4, y5, y6⟩ := HRD.out _ hSw; clear hSw; go_simp); first | done | with_reducible rfl); (try simp only [Act.put, List.getElem_toArray, List.getElem_cons_succ, List.getElem_cons_zero, List.setIfInBounds_toArray, List.set_cons_zero, List.set_cons_succ])
                              refine wpAnyH_take (i := 17 ) (v := ?_) rfl (by kernel_rfl) (by kernel_rfl) (by kernel_rfl) (fun _ _ _ h => h) (Or.inl ⟨by rfl, ?_⟩) (by assumption) ?_; rotate_left; (· (intro w0 hSw; obtain ⟨y4, y5, y6⟩ := HRD.out _ hSw; clear hSw; go_simp); first | done | with_reducible rfl); (try simp only [Act.put, List.getElem_toArray, List.getElem_cons_succ, List.getElem_cons_zero, List.setIfInBounds_toArray, List.set_cons_zero, List.set_cons_succ])
                              refine wpAnyH_take (i := 18 ) (v := ?_) rfl (by kernel_rfl) (by kernel_rfl) (by kernel_rfl) (fun _ _ _ h => h) (Or.inl ⟨by rfl, ?_⟩) (by assumption) ?_; rotate_left; (· (intro w0 hSw; obtain ⟨y4, y5, y6⟩ := HRD.out _ hSw; clear hSw; go_simp); first | done | with_reducible rfl); (try simp only [Act.put, List.getElem_toArray, List.getElem_cons_succ, List.getElem_cons_zero, List.setIfInBounds_toArray, List.set_cons_zero, List.set_cons_succ])
                              refine wpAnyH_take (i := 19 ) (v := ?_) rfl (by kernel_rfl) (by kernel_rfl) (by kernel_rfl) (fun _ _ _ h => h) (Or.inl ⟨by rfl, ?_⟩) (by assumption) ?_; rotate_left; (· (intro w0 hSw; obtain ⟨y4, y5, y6⟩ := HRD.out _ hSw; clear hSw; go_simp); first | done | with_reducible rfl); (try simp only [Act.put, List.getElem_toArray, List.getElem_cons_succ, List.getElem_cons_zero, List.setIfInBounds_toArray, List.set_cons_zero, List.set_cons_succ])
                              refine wpAnyH_done (by kernel_rfl) ?_ _
                              go_wp2_with fail
                              go_meet
                              exact ⟨rfl, Lib.hid (HW.out.call HD.out)⟩
                            exact AllReadyH.nil
                          exact AllReadyH.nil
                        refine AllReadyH.cons (by simp only [List.getElem?_toArray, List.getElem?_cons_succ, List.getElem?_cons_zero]; rfl) (fun K hK => ?_) ?_
                        · rw [if_pos (by rfl)]
                          refine wp_bs 23 46 1 _ (by rfl) #[.int .i64 ((2 ^ need.length - 1 : Nat) : Int), .int .i64 (n - 1)] [.agg #[.int .i64 ((2 ^ need.length - 1 : Nat) : Int), .int .i64 (n - 1)]] (.agg #[.int .i64 0, .int .i64 0]) 2 (by kernel_rfl) (by kernel_rfl) (by decide) (by rfl) (by rfl) (by rfl) (by rfl) ?_
                          simp only [Act.put, List.setIfInBounds_toArray, List.set_cons_zero, List.set_cons_succ]
                          have KC := Lib.hid (Blk.new V1 46 #[.int .i64 ((2 ^ need.length - 1 : Nat) : Int), .int .i64 (n - 1)])
                          replace HO := Lib.hid (own_low9 HO.out ((Below.refl V1.heap.size V1).alloc (Nat.le_refl _) (.cells #[.int .i64 ((2 ^ need.length - 1 : Nat) : Int), .int .i64 (n - 1)] 46)))
                          replace HD := Lib.hid (HD.out.alloc HD.out.size (.cells #[.int .i64 ((2 ^ need.length - 1 : Nat) : Int), .int .i64 (n - 1)] 46))
                          have HSZ1 : Hid ((World.alloc V1 (.cells #[.int .i64 ((2 ^ need.length - 1 : Nat) : Int), .int .i64 (n - 1)] 46)).heap.size = V1.heap.size + 1) := Lib.hid (by simp)
                          generalize World.alloc V1 _ = V2 at *
                          refine hK.out _ _ HD.out (fun hH2 => ?_)
                          clear hK K
                          try simp only [List.setIfInBounds_toArray, List.set_cons_zero, List.set_cons_succ]
                          refine wpAnyH_ready (rs := [3]) (by kernel_rfl) (by simp) ?_
                          refine AllReadyH.cons (by simp only [List.getElem?_toArray, List.getElem?_cons_succ, List.getElem?_cons_zero]; rfl) (fun K hK => ?_) ?_
                          · rw [if_pos (by rfl)]
                            refine wp_append_own _ _ _ 23 (by rfl) w9.heap.size 46 i0 _ 2 16 und_piles9 HI.out.1 HI.out.2.1 HI.out.2.2.1 HI.out.2.2.2 rfl (by decide) (.slice (some ⟨V0.heap.size, 0, none⟩) 0 0) 0 [] (by rfl) HO.out ad l.length d (pileV l) (by rfl) (pileV_len l) (HNW.out V2 HD.out) (pileV_one l) (by unfold maxLen; omega) (by omega) HD.out.size ?_
                            intro v1 V3 hown hgr hnn
                            clear hnn
                            simp only [Act.put, List.setIfInBounds_toArray, List.set_cons_zero, List.set_cons_succ]
                            replace KC := Lib.hid (KC.out.kept hgr (fun e => by simp [Value.ownBlock] at e; have := HSZ0.out; omega))
                            replace HD := Lib.hid (Below.grown HD.out hgr HD.out.size fun j e => (HO.out.lt j e).1)
                            replace HO := Lib.hid hown
                            clear hown hgr
                            rw [Nat.zero_add, List.nil_append] at HO
                            refine hK.out _ _ HD.out (fun hH3 => ?_)
                            clear hK K
                            try simp only [List.setIfInBounds_toArray, List.set_cons_zero, List.set_cons_succ]
                            refine wpAnyH_ready (rs := [12]) (by kernel_rfl) (by simp) ?_
                            refine AllReadyH.cons (by simp only [List.getElem?_toArray, List.getElem?_cons_succ, List.getElem?_cons_zero]; rfl) (fun K hK => ?_) ?_
                            · rw [if_pos (by rfl)]
                              refine wp_append_own _ _ _ 23 (by rfl) w9.heap.size 46 i0 _ 2 16 und_piles9 HI.out.1 HI.out.2.1 HI.out.2.2.1 HI.out.2.2.2 rfl (by decide) v1 l.length (pileV l) (by rfl) HO.out ⟨V1.heap.size, 0, none⟩ 1 1 [.int .i64 ((2 ^ need.length - 1 : Nat) : Int), .int .i64 (n - 1)] (by rfl) (by rfl) (World.news_of_block (cs := #[.int .i64 ((2 ^ need.length - 1 : Nat) : Int), .int .i64 (n - 1)]) (t := 46) (fr := (0, 0)) KC.out) (by simp [Value.oneCell']) (by unfold maxLen; omega) (by omega) HD.out.size ?_
                              intro v2 VZ hown hgr hnn
                              clear hnn
                              simp only [Act.put, List.setIfInBounds_toArray, List.set_cons_zero, List.set_cons_succ]
                              replace HD := Lib.hid (Below.grown HD.out hgr HD.out.size fun j e => (HO.out.lt j e).1)
                              replace HO := Lib.hid hown
                              clear hown hgr KC
                              obtain ⟨gz, cz, rfl, hz1, hz2⟩ := own_g9 HO.out (by omega)
                              have HPS := Lib.hid (own_piles9 (l := l ++ [⟨((2 ^ need.length - 1 : Nat) : Int), n - 1⟩]) (by rw [pileV_app]; exact HO.out) (by simp))
                              clear HO
                              refine hK.out _ _ HD.out (fun hH4 => ?_)
                              clear hK K
                              try simp only [List.setIfInBounds_toArray, List.set_cons_zero, List.set_cons_succ]
                              refine wpAnyH_ready (rs := [14]) (by kernel_rfl) (by simp) ?_
                              refine AllReadyH.cons (by simp only [List.getElem?_toArray, List.getElem?_cons_succ, List.getElem?_cons_zero]; rfl) (fun K hK => ?_) AllReadyH.nil
                              go_simp
                              refine (HFL2.out VZ gz cz HPS.out (HA.out.on (HW.out.call HD.out).hb (Nat.le_refl _))).mono ?_
                              rintro e VY ⟨AZ, fz, c9, rfl, hb9⟩
                              replace HD := Lib.hid (HD.out.trans (hb9.mono HD.out.size))
                              clear hb9 HPS
                              refine hK.out _ _ HD.out (fun hH5 => ?_)
                              clear hK K
                              try simp only [List.setIfInBounds_toArray, List.set_cons_zero, List.set_cons_succ]
                              refine wpAnyH_take (i := 15 ) (v := ?_) rfl (by kernel_rfl) (by kernel_rfl) (by kernel_rfl) (fun _ _ _ h => h) (Or.inl ⟨by rfl, ?_⟩) (by assumption) ?_; rotate_left; (· (intro w0 hSw; obtain ⟨y4, y5, y6⟩ := HRD.out _ hSw; clear hSw; go_simp); first | done | with_reducible rfl); (try simp only [Act.put, List.getElem_toArray, List.getElem_cons_succ, List.getElem_cons_zero, List.setIfInBounds_toArray, List.set_cons_zero, List.set_cons_succ])
                              refine wpAnyH_take (i := 16 ) (v := ?_) rfl (by kernel_rfl) (by kernel_rfl) (by kernel_rfl) (fun _ _ _ h => h) (Or.inl ⟨by rfl, ?_⟩) (by assumption) ?_; rotate_left; (· (intro w0 hSw; obtain ⟨y4, y5, y6⟩ := HRD.out _ hSw; clear hSw; go_simp); first | done | with_reducible rfl); (try simp only [Act.put, List.getElem_toArray, List.getElem_cons_succ, List.getElem_cons_zero, List.setIfInBounds_toArray, List.set_cons_zero, List.set_cons_succ])
                              refine wpAnyH_take (i := 17 ) (v := ?_) rfl (by kernel_rfl) (by kernel_rfl) (by kernel_rfl) (fun _ _ _ h => h) (Or.inl ⟨by rfl, ?_⟩) (by assumption) ?_; rotate_left; (· (intro w0 hSw; obtain ⟨y4, y5, y6⟩ := HRD.out _ hSw; clear hSw; go_simp); first | done | with_reducible rfl); (try simp only [Act.put, List.getElem_toArray, List.getElem_cons_succ, List.getElem_cons_zero, List.setIfInBounds_toArray, List.set_cons_zero, List.set_cons_succ])
                              refine wpAnyH_take (i := 18 ) (v := ?_) rfl (by kernel_rfl) (by kernel_rfl) (by kernel_rfl) (fun _ _ _ h => h) (Or.inl ⟨by rfl, ?_⟩) (by assumption) ?_; rotate_left; (· (intro w0 hSw; obtain ⟨y4, y5, y6⟩ := HRD.out _ hSw; clear hSw; go_simp); first | done | with_reducible rfl); (try simp only [Act.put, List.getElem_toArray, List.getElem_cons_succ, List.getElem_cons_zero, List.setIfInBounds_toArray, List.set_cons_zero, List.set_cons_succ])
                              refine wpAnyH_take (i := 19 ) (v := ?_) rfl (by kernel_rfl) (by kernel_rfl) (by kernel_rfl) (fun _ _ _ h => h) (Or.inl ⟨by rfl, ?_⟩) (by assumption) ?_; rotate_left; (· (intro w0 hSw; obtain ⟨y4, y5, y6⟩ := HRD.out _ hSw; clear hSw; go_simp); first | done | with_reducible rfl); (try simp only [Act.put, List.getElem_toArray, List.getElem_cons_succ, List.getElem_cons_zero, List.setIfInBounds_toArray, List.set_cons_zero, List.set_cons_succ])
                              refine wpAnyH_done (by kernel_rfl) ?_ _
                              go_wp2_with fail
                              go_meet
                              exact ⟨rfl, Lib.hid (HW.out.call HD.out)⟩
                            exact AllReadyH.nil
                          exact AllReadyH.nil
                        exact AllReadyH.nil
                      refine AllReadyH.cons (by simp only [List.getElem?_toArray, List.getElem?_cons_succ, List.getElem?_cons_zero]; rfl) (fun K hK => ?_) ?_
                      · rw [if_pos (by rfl)]
                        refine wp_bs 23 46 1 _ (by rfl) #[.int .i64 ((2 ^ need.length - 1 : Nat) : Int), .int .i64 (n - 1)] [.agg #[.int .i64 ((2 ^ need.length - 1 : Nat) : Int), .int .i64 (n - 1)]] (.agg #[.int .i64 0, .int .i64 0]) 2 (by kernel_rfl) (by kernel_rfl) (by decide) (by rfl) (by rfl) (by rfl) (by rfl) ?_
                        simp only [Act.put, List.setIfInBounds_toArray, List.set_cons_zero, List.set_cons_succ]
                        have KC := Lib.hid (Blk.new V0 46 #[.int .i64 ((2 ^ need.length - 1 : Nat) : Int), .int .i64 (n - 1)])
                        replace HD := Lib.hid (HD.out.alloc HD.out.size (.cells #[.int .i64 ((2 ^ need.length - 1 : Nat) : Int), .int .i64 (n - 1)] 46))
                        have HSZ0 : Hid ((World.alloc V0 (.cells #[.int .i64 ((2 ^ need.length - 1 : Nat) : Int), .int .i64 (n - 1)] 46)).heap.size = V0.heap.size + 1) := Lib.hid (by simp)
                        generalize World.alloc V0 _ = V1 at *
                        refine hK.out _ _ HD.out (fun hH1 => ?_)
                        clear hK K
                        try simp only [List.setIfInBounds_toArray, List.set_cons_zero, List.set_cons_succ]
                        refine wpAnyH_ready (rs := [1]) (by kernel_rfl) (by simp) ?_
                        refine AllReadyH.cons (by simp only [List.getElem?_toArray, List.getElem?_cons_succ, List.getElem?_cons_zero]; rfl) (fun K hK => ?_) ?_
                        · go_simp
                          have HO := Lib.hid (own_zero9 (t := 46) V1 w9.heap.size HD.out.size 2)
                          replace KC := Lib.hid (KC.out.alloc (.cells #[] 46))
                          replace HD := Lib.hid (HD.out.alloc HD.out.size (.cells #[] 46))
                          have HSZ1 : Hid ((World.alloc V1 (.cells #[] 46)).heap.size = V1.heap.size + 1) := Lib.hid (by simp)
                          generalize World.alloc V1 _ = V2 at *
                          refine hK.out _ _ HD.out (fun hH2 => ?_)
                          clear hK K
                          try simp only [List.setIfInBounds_toArray, List.set_cons_zero, List.set_cons_succ]
                          refine wpAnyH_ready (rs := [3]) (by kernel_rfl) (by simp) ?_
                          refine AllReadyH.cons (by simp only [List.getElem?_toArray, List.getElem?_cons_succ, List.getElem?_cons_zero]; rfl) (fun K hK => ?_) ?_
                          · rw [if_pos (by rfl)]
                            refine wp_append_own _ _ _ 23 (by rfl) w9.heap.size 46 i0 _ 2 16 und_piles9 HI.out.1 HI.out.2.1 HI.out.2.2.1 HI.out.2.2.2 rfl (by decide) (.slice (some ⟨V1.heap.size, 0, none⟩) 0 0) 0 [] (by rfl) HO.out ad l.length d (pileV l) (by rfl) (pileV_len l) (HNW.out V2 HD.out) (pileV_one l) (by unfold maxLen; omega) (by omega) HD.out.size ?_
                            intro v1 V3 hown hgr hnn
                            clear hnn
                            simp only [Act.put, List.setIfInBounds_toArray, List.set_cons_zero, List.set_cons_succ]
                            replace KC := Lib.hid (KC.out.kept hgr (fun e => by simp [Value.ownBlock] at e; have := HSZ0.out; omega))
                            replace HD := Lib.hid (Below.grown HD.out hgr HD.out.size fun j e => (HO.out.lt j e).1)
                            replace HO := Lib.hid hown
                            clear hown hgr
                            rw [Nat.zero_add, List.nil_append] at HO
                            refine hK.out _ _ HD.out (fun hH3 => ?_)
                            clear hK K
                            try simp only [List.setIfInBounds_toArray, List.set_cons_zero, List.set_cons_succ]
                            refine wpAnyH_ready (rs := [12]) (by kernel_rfl) (by simp) ?_
                            refine AllReadyH.cons (by simp only [List.getElem?_toArray, List.getElem?_cons_succ, List.getElem?_cons_zero]; rfl) (fun K hK => ?_) ?_
                            · rw [if_pos (by rfl)]
                              refine wp_append_own _ _ _ 23 (by rfl) w9.heap.size 46 i0 _ 2 16 und_piles9 HI.out.1 HI.out.2.1 HI.out.2.2.1 HI.out.2.2.2 rfl (by decide) v1 l.length (pileV l) (by rfl) HO.out ⟨V0.heap.size, 0, none⟩ 1 1 [.int .i64 ((2 ^ need.length - 1 : Nat) : Int), .int .i64 (n - 1)] (by rfl) (by rfl) (World.news_of_block (cs := #[.int .i64 ((2 ^ need.length - 1 : Nat) : Int), .int .i64 (n - 1)]) (t := 46) (fr := (0, 0)) KC.out) (by simp [Value.oneCell']) (by unfold maxLen; omega) (by omega) HD.out.size ?_
                              intro v2 VZ hown hgr hnn
                              clear hnn
                              simp only [Act.put, List.setIfInBounds_toArray, List.set_cons_zero, List.set_cons_succ]
                              replace HD := Lib.hid (Below.grown HD.out hgr HD.out.size fun j e => (HO.out.lt j e).1)
                              replace HO := Lib.hid hown
                              clear hown hgr KC
                              obtain ⟨gz, cz, rfl, hz1, hz2⟩ := own_g9 HO.out (by omega)
                              have HPS := Lib.hid (own_piles9 (l := l ++ [⟨((2 ^ need.length - 1 : Nat) : Int), n - 1⟩]) (by rw [pileV_app]; exact HO.out) (by simp))
                              clear HO
                              refine hK.out _ _ HD.out (fun hH4 => ?_)
                              clear hK K
                              try simp only [List.setIfInBounds_toArray, List.set_cons_zero, List.set_cons_succ]
                              refine wpAnyH_ready (rs := [14]) (by kernel_rfl) (by simp) ?_
                              refine AllReadyH.cons (by simp only [List.getElem?_toArray, List.getElem?_cons_succ, List.getElem?_cons_zero]; rfl) (fun K hK => ?_) AllReadyH.nil
                              go_simp
                              refine (HFL2.out VZ gz cz HPS.out (HA.out.on (HW.out.call HD.out).hb (Nat.le_refl _))).mono ?_
                              rintro e VY ⟨AZ, fz, c9, rfl, hb9⟩
                              replace HD := Lib.hid (HD.out.trans (hb9.mono HD.out.size))
                              clear hb9 HPS
                              refine hK.out _ _ HD.out (fun hH5 => ?_)
                              clear hK K
                              try simp only [List.setIfInBounds_toArray, List.set_cons_zero, List.set_cons_succ]
                              refine wpAnyH_take (i := 15 ) (v := ?_) rfl (by kernel_rfl) (by kernel_rfl) (by kernel_rfl) (fun _ _ _ h => h) (Or.inl ⟨by rfl, ?_⟩) (by assumption) ?_; rotate_left; (· (intro w0 hSw; obtain ⟨y4, y5, y6⟩ := HRD.out _ hSw; clear hSw; go_simp); first | done | with_reducible rfl); (try simp only [Act.put, List.getElem_toArray, List.getElem_cons_succ, List.getElem_cons_zero, List.setIfInBounds_toArray, List.set_cons_zero, List.set_cons_succ])
                              refine wpAnyH_take (i := 16 ) (v := ?_) rfl (by kernel_rfl) (by kernel_rfl) (by kernel_rfl) (fun _ _ _ h => h) (Or.inl ⟨by rfl, ?_⟩) (by assumption) ?_; rotate_left; (· (intro w0 hSw; obtain ⟨y4, y5, y6⟩ := HRD.out _ hSw; clear hSw; go_simp); first | done | with_reducible rfl); (try simp only [Act.put, List.getElem_toArray, List.getElem_cons_succ, List.getElem_cons_zero, List.setIfInBounds_toArray, List.set_cons_zero, List.set_cons_succ])
                              refine wpAnyH_take (i := 17 ) (v := ?_) rfl (by kernel_rfl) (by kernel_rfl) (by kernel_rfl) (fun _ _ _ h => h) (Or.inl ⟨by rfl, ?_⟩) (by assumption) ?_; rotate_left; (· (intro w0 hSw; obtain ⟨y4, y5, y6⟩ := HRD.out _ hSw; clear hSw; go_simp); first | done | with_reducible rfl); (try simp only [Act.put, List.getElem_toArray, List.getElem_cons_succ, List.getElem_cons_zero, List.setIfInBounds_toArray, List.set_cons_zero, List.set_cons_succ])
                              refine wpAnyH_take (i := 18 ) (v := ?_) rfl (by kernel_rfl) (by kernel_rfl) (by kernel_rfl) (fun _ _ _ h => h) (Or.inl ⟨by rfl, ?_⟩) (by assumption) ?_; rotate_left; (· (intro w0 hSw; obtain ⟨y4, y5, y6⟩ := HRD.out _ hSw; clear hSw; go_simp); first | done | with_reducible rfl); (try simp only [Act.put, List.getElem_toArray, List.getElem_cons_succ, List.getElem_cons_zero, List.setIfInBounds_toArray, List.set_cons_zero, List.set_cons_succ])
                              refine wpAnyH_take (i := 19 ) (v := ?_) rfl (by kernel_rfl) (by kernel_rfl) (by kernel_rfl) (fun _ _ _ h => h) (Or.inl ⟨by rfl, ?_⟩) (by assumption) ?_; rotate_left; (· (intro w0 hSw; obtain ⟨y4, y5, y6⟩ := HRD.out _ hSw; clear hSw; go_simp); first | done | with_reducible rfl); (try simp only [Act.put, List.getElem_toArray, List.getElem_cons_succ, List.getElem_cons_zero, List.setIfInBounds_toArray, List.set_cons_zero, List.set_cons_succ])
                              refine wpAnyH_done (by kernel_rfl) ?_ _
                              go_wp2_with fail
                              go_meet
                              exact ⟨rfl, Lib.hid (HW.out.call HD.out)⟩
                            exact AllReadyH.nil
                          exact AllReadyH.nil
                        exact AllReadyH.nil
                      exact AllReadyH.nil
                case rest =>
                  obtain ⟨rfl, HW⟩ := hcut
                  rename World => w10
                  go_wp2_with fail
                  refine (HAW.out _).mono ?_
                  rintro e w11 ⟨rfl, hb11⟩
                  go_wp2_with fail
                  go_ret
                  exact ⟨rfl, (HW.out.call hb11).hb⟩
      · have hcan : canB need l b = true := can_lack.2 (by have := lack_nonneg need l b; omega)
        have eL : lackA need l b = (0, 0, 4) := by unfold lackA; rw [if_pos h0, if_neg hpos]
        have eF : (fillA need l b).2 = 0 := by unfold fillA; rw [if_pos h0, if_pos hcan]
        have HNP := Lib.hid hpos
        have HOK := Lib.hid hok
        rw [eL, eF]
        generalize (fillA need l b).1.length = fl at *
        clear eL eF hcan hok hN hP hpos
        go_upto_region 7 with fail
        have y4 := HW.out.k4.cell 0; have y5 := HW.out.k5.cell 0; have y6 := HW.out.k6.cell 0
        go_wp2_with fail
        refine (rValid_any w2 A B c d need l hn hl (HA.out.on HW.out.hb (Nat.le_refl _)) (HB.out.on HW.out.hb (Nat.le_refl _))).mono ?_
        rintro e w3 ⟨rfl, hb3⟩
        rw [HOK.out]
        replace HW := Lib.hid (HW.out.call hb3)
        clear y4 y5 y6 hb3
        have y4 := HW.out.k4.cell 0; have y5 := HW.out.k5.cell 0; have y6 := HW.out.k6.cell 0
        go_upto_region 10 with fail
        have hp64 := pow_tab need.length (by omega)
        have hP1 : 2 ^ 1 ≤ 2 ^ need.length := Nat.pow_le_pow_right (by omega) hc1
        have hP2 : 2 ^ need.length ≤ 2 ^ 8 := Nat.pow_le_pow_right (by omega) hc8
        have hoN := other_eq hot.1 hot.2 hc1 hc8
        have hnz : ¬ wrap64 ((2 : Int) ^ need.length - 1) = 0 := by rw [wrap_tab need.length (by omega)]; omega
        have hnz2 : (wrap64 ((2 : Int) ^ need.length - 1) == 0) = false := beq_eq_false_iff_ne.2 hnz
        have hL0 : (0 : Int) ≤ need.length := by omega
        have hL1 : (need.length : Int) ≤ 8 := by omega
        go_upto_region 11 with fail
        rw [hoN]
        obtain ⟨oN, hoE⟩ : ∃ x : Nat, x = 1 + other.toNat % (2 ^ need.length - 1) := ⟨_, rfl⟩
        have ho1 : 1 ≤ oN := by omega
        have ho2 : oN < 2 ^ need.length := by have := Nat.mod_lt other.toNat (show 0 < 2 ^ need.length - 1 by omega); omega
        rw [← hoE]
        have HLO : Hid (lackS need l b oN ≤ 0) := Lib.hid (by have := lackR_le (need := need) (l := l) (b := b) ho1 ho2; have := HNP.out; omega)
        have hlo := HLO.out
        have HLK : Hid (∀ W, LkW w A B c d need.length l.length b W → Calls Try.prog 27 #[.int .i64 (oN : Int), .pointer (some ⟨w.heap.size + 1 + 1, 0, none⟩), .pointer (some ⟨w.heap.size, 0, none⟩), .pointer (some ⟨w.heap.size + 1, 0, none⟩)] W (Ret (.int .i64 (lackS need l b oN)) W)) := Lib.hid fun W hW => lk1_any W _ _ _ c d oN A B need l b (by omega) HOK.out ⟨hb0, hb1⟩ hW.k6 hW.k4 hW.k5 (HA.out.on hW.hb (Nat.le_refl _)) (HB.out.on hW.hb (Nat.le_refl _))
        clear hoN hoE hp64
        generalize lackS need l b oN = lo at *
        have hlo2 : decide (lo ≤ 0) = true := decide_eq_true hlo
        go_wp2_with fail
        refine (HLK.out w3 HW.out).mono ?_
        rintro e w4 ⟨rfl, hb4⟩
        replace HW := Lib.hid (HW.out.call hb4)
        go_wp2_with (refine (HAW.out _).mono ?_; rintro e w5 ⟨rfl, hb5⟩)
        go_ret
        exact ⟨rfl, (HW.out.call hb5).hb⟩
    · have eL : lackA need l b = (0, 0, errE need l b) := if_neg h0
      have eF : fillA need l b = ([], errE need l b) := if_neg h0
      rw [eL, eF]
      rcases err_cases h0 with e1 | e1
      · rw [e1]
        clear eL eF h0 e1
        go_wp2_with (refine (HAW.out _).mono ?_; rintro e w3 ⟨rfl, hb3⟩)
        go_ret
        exact ⟨rfl, (HW.out.call hb3).hb⟩
      · rw [e1]
        clear eL eF h0 e1
        go_wp2_with (refine (HAW.out _).mono ?_; rintro e w3 ⟨rfl, hb3⟩)
        go_ret
        exact ⟨rfl, (HW.out.call hb3).hb⟩
end Go.Proofs.Ythapgiajbonhgaa
