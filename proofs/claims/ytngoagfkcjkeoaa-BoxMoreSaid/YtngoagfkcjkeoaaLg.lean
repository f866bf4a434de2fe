/- Walks: powers, Has, the greatest of numbers, what a box needs, what piles have. -/
import Derived.Test.YtngoagfkcjkeoaaLf
namespace Go.Proofs.Ytngoagfkcjkeoaa
open Go.RowKit Go.Shelf

theorem meas9 {N k : Nat} (h : k < N) : N - (intOf (.int .i64 ((k : Int) + 1))).toNat < N - (intOf (.int .i64 (k : Int))).toNat := by
  simp [intOf]; omega
theorem needF_app : ∀ (a b : List Int) (s i : Nat), needF (a ++ b) s i = needF a s i + needF b s (i + a.length)
  | [], b, s, i => by simp [needF]
  | n :: a, b, s, i => by
    have h := needF_app a b s (i + 1)
    simp only [List.cons_append, needF, List.length_cons]
    rw [h, show i + 1 + a.length = i + (a.length + 1) by omega]
    omega
theorem needF_next (need : List Int) (s k : Nat) (h : k < need.length) : needF (need.take (k + 1)) s 0 = needF (need.take k) s 0 + (if s.testBit k then need[k] else 0) := by
  rw [List.take_add_one, List.getElem?_eq_getElem h, needF_app]
  simp only [Option.toList_some, needF, List.length_take, Nat.min_eq_left (Nat.le_of_lt h), Nat.zero_add, Int.add_zero]
theorem hasS_app : ∀ (a b : List Pile) (s : Nat), hasS (a ++ b) s = hasS a s + hasS b s
  | [], b, s => by simp [hasS]
  | p :: a, b, s => by
    have h := hasS_app a b s
    simp only [List.cons_append, hasS]
    rw [h]
    omega
theorem hasS_next (l : List Pile) (s k : Nat) (h : k < l.length) : hasS (l.take (k + 1)) s = hasS (l.take k) s + (if meetB l[k].shades s then l[k].many else 0) := by
  rw [List.take_add_one, List.getElem?_eq_getElem h, hasS_app]
  simp only [Option.toList_some, hasS, Int.add_zero]
theorem needF_bdM (M : Int) : ∀ (need : List Int) (s i : Nat), (∀ n ∈ need, 0 ≤ n ∧ n ≤ M) → 0 ≤ needF need s i ∧ needF need s i ≤ M * need.length
  | [], _, _, _ => by simp [needF]
  | n :: r, s, i, h => by
    have h1 := needF_bdM M r s (i + 1) (fun q hq => h q (List.mem_cons_of_mem _ hq))
    have h2 := h n List.mem_cons_self
    unfold needF
    rw [List.length_cons, Int.natCast_add, Int.mul_add, Int.natCast_one, Int.mul_one]
    split <;> omega
/-- Numbers and piles that are in bounds. -/
def NeedIn (need : List Int) : Prop := need.length ≤ 8 ∧ ∀ n ∈ need, 0 ≤ n ∧ n ≤ 100000000
def PilesIn (l : List Pile) : Prop := l.length ≤ 8 ∧ ∀ p ∈ l, (0 ≤ p.shades ∧ p.shades < 256) ∧ 0 ≤ p.many ∧ p.many ≤ 1048576
theorem need_bd {need : List Int} (h : NeedIn need) (s : Nat) : 0 ≤ needS need s ∧ needS need s ≤ 800000000 := by
  have h1 := needF_bdM 100000000 need s 0 h.2
  have h2 := h.1
  unfold needS
  omega
theorem need_bdT {need : List Int} (h : NeedIn need) (s k : Nat) : 0 ≤ needF (need.take k) s 0 ∧ needF (need.take k) s 0 ≤ 800000000 := by
  have h1 := needF_bdM 100000000 (need.take k) s 0 (fun n hn => h.2 n (List.mem_of_mem_take hn))
  have h2 := h.1
  have h3 : (need.take k).length ≤ need.length := by simp [List.length_take]; omega
  omega
theorem has_bd9 {l : List Pile} (h : PilesIn l) (s : Nat) : 0 ≤ hasS l s ∧ hasS l s ≤ 8388608 := by
  have h1 := has_bd l s (fun p hp => (h.2 p hp).2)
  have h2 := h.1
  omega
theorem has_bdT {l : List Pile} (h : PilesIn l) (s k : Nat) : 0 ≤ hasS (l.take k) s ∧ hasS (l.take k) s ≤ 8388608 := by
  have h1 := has_bd (l.take k) s (fun p hp => (h.2 p (List.mem_of_mem_take hp)).2)
  have h2 := h.1
  have h3 : (l.take k).length ≤ l.length := by simp [List.length_take]; omega
  omega
set_option maxHeartbeats 2000000 in
theorem power_any (n : Nat) (w : World) (hn : n ≤ 60) : Calls Try.prog 41 #[.int .i64 (n : Int)] w fun e w' => e = .returned (.int .i64 ((2 ^ n : Nat) : Int)) ∧ w = w' := by
  go_enter Try.func41, Try.ntmps41
  go_wp2
  go_loopw [3, 4] (fun p i wr => ∃ k : Nat, k ≤ n ∧ i = .int .i64 k ∧ p = .int .i64 ((2 ^ k : Nat) : Int) ∧ w = wr) (fun _ i _ => n - (intOf i).toNat)
  case atStart => exact ⟨0, Nat.zero_le _, rfl, by simp, by simp⟩
  case round =>
    obtain ⟨k, hk, rfl, rfl, rfl⟩ := hrel
    by_cases hlt : k < n
    · have hkn : (k : Int) < n := by omega
      have h1 : 2 ^ k ≤ 2 ^ 59 := Nat.pow_le_pow_right (by omega) (by omega)
      have h2 : 2 ^ (k + 1) = 2 * 2 ^ k := by rw [Nat.pow_succ, Nat.mul_comm]
      generalize hP : 2 ^ k = P at *
      have hw : IntKind.i64.wrap (2 * (P : Int)) = ((2 ^ (k + 1) : Nat) : Int) := by rw [h2]; exact (IntWalk.i64_in _ ⟨by omega, by omega⟩).trans (by omega)
      clear hP
      go_wp2_with fail
      go_roundw
      case rel => exact ⟨k + 1, by omega, by go_num, by go_num, trivial⟩
      case measure => exact meas9 hlt
    · obtain rfl : k = n := by omega
      go_wp2
      go_ret
      exact ⟨rfl, rfl⟩
set_option maxHeartbeats 2000000 in
theorem rHas_any (t q : Nat) (w : World) (ht : t < 1000000) (hq : q ≤ 60) : Calls Try.prog 26 #[.int .i64 (t : Int), .int .i64 (q : Int)] w fun e w' => e = .returned (.bool (t.testBit q)) ∧ w = w' := by
  have hp : ((2 ^ q : Nat) : Int) ≠ 0 := by have := Nat.two_pow_pos q; omega
  have hpb : (((2 ^ q : Nat) : Int) == 0) = false := by rw [beq_eq_false_iff_ne]; exact hp
  have e1 : ((t : Int).tdiv ((2 ^ q : Nat) : Int)) = ((t / 2 ^ q : Nat) : Int) := by rw [Int.tdiv_eq_ediv_of_nonneg (by omega)]; rfl
  have hle : t / 2 ^ q ≤ t := Nat.div_le_self _ _
  have h1 := one_tab t q
  generalize t / 2 ^ q = D at *
  have e2 : IntKind.i64.wrap (D : Int) = (D : Int) := IntWalk.i64_in _ ⟨by omega, by omega⟩
  have e4 : ((D : Int) % 2) = if t.testBit q = true then 1 else 0 := by
    have : ((D : Int) % 2) = ((D % 2 : Nat) : Int) := rfl
    rw [this, h1]
    split <;> rfl
  have e3 : (D : Int).tmod 2 = if t.testBit q = true then 1 else 0 := by rw [Int.tmod_eq_emod_of_nonneg (by omega)]; exact e4
  clear hle h1
  cases h : t.testBit q with
  | true =>
    rw [h, if_pos rfl] at e3 e4
    go_enter Try.func26, Try.ntmps26
    go_wp2_with fail
    refine (power_any q _ hq).mono ?_
    rintro e w' ⟨rfl, rfl⟩
    generalize ((2 ^ q : Nat) : Int) = P at *
    go_wp2_with fail
    go_ret
    exact ⟨rfl, rfl⟩
  | false =>
    rw [h, if_neg (by simp)] at e3 e4
    go_enter Try.func26, Try.ntmps26
    go_wp2_with fail
    refine (power_any q _ hq).mono ?_
    rintro e w' ⟨rfl, rfl⟩
    generalize ((2 ^ q : Nat) : Int) = P at *
    go_wp2_with fail
    go_ret
    exact ⟨rfl, rfl⟩
set_option maxRecDepth 100000 in
set_option maxHeartbeats 2000000 in
theorem needs_any (w : World) (A : Option Addr) (c s : Nat) (need : List Int) (hs : s < 256) (hn : NeedIn need) (hA : IntSl w w.heap.size A need) :
    Calls Try.prog 53 #[.slice A need.length c, .func (.func 54) #[.int .i64 (s : Int)] #[]] w fun e w' => e = .returned (.int .i64 (needS need s)) ∧ w = w' := by
  have HA := Lib.hid hA
  have HT := Lib.hid fun k => need_bdT hn s k
  have HN := Lib.hid hn
  have hl0 : (0 : Int) ≤ need.length := by omega
  have hl1 : (need.length : Int) ≤ 8 := by have := hn.1; omega
  have hF : needF need s 0 = needS need s := rfl
  clear hA hn
  go_enter Try.func53, Try.ntmps53
  go_wp2_with fail
  go_loopw [4, 9] (fun a i wr => ∃ k : Nat, k ≤ need.length ∧ i = .int .i64 k ∧ a = .int .i64 (needF (need.take k) s 0) ∧ w = wr) (fun _ i _ => need.length - (intOf i).toNat)
  case atStart => exact ⟨0, Nat.zero_le _, rfl, by simp [needF], by simp⟩
  case round =>
    obtain ⟨k, hk, rfl, rfl, rfl⟩ := hrel
    by_cases hlt : k < need.length
    · obtain ⟨b, off, rfl, hb, hat⟩ := HA.out (by intro e; rw [e] at hlt; simp at hlt)
      have x0 := hat k hlt
      have hkn : (k : Int) < need.length := by omega
      have hk0 : (0 : Int) ≤ k := by omega
      have hq : k < 8 := by have := HN.out.1; omega
      have HX := Lib.hid (needF_next need s k hlt)
      obtain ⟨t0, t1⟩ := HT.out k
      obtain ⟨t2, t3⟩ := HT.out (k + 1)
      generalize need[k] = x at *
      generalize needF (need.take k) s 0 = F at *
      clear hat
      go_wp2_with fail
      refine (holds_any s k _ hs hq).mono ?_
      rintro e w' ⟨rfl, rfl⟩
      cases h : s.testBit k with
      | true =>
        have hX : needF (need.take (k + 1)) s 0 = F + x := by rw [HX.out, h, if_pos rfl]
        rw [hX] at t2 t3
        have hw : IntKind.i64.wrap (F + x) = F + x := IntWalk.i64_in _ ⟨by omega, by omega⟩
        go_wp2_with fail
        go_roundw
        case rel => exact ⟨k + 1, by omega, by go_num, by rw [hX], trivial⟩
        case measure => exact meas9 hlt
      | false =>
        have hX : needF (need.take (k + 1)) s 0 = F := by rw [HX.out, h, if_neg (by simp), Int.add_zero]
        go_wp2_with fail
        go_roundw
        case rel => exact ⟨k + 1, by omega, by go_num, by rw [hX], trivial⟩
        case measure => exact meas9 hlt
    · obtain rfl : k = need.length := by omega
      rw [List.take_length, hF]
      go_wp2
      go_ret
      exact ⟨rfl, rfl⟩
set_option maxRecDepth 100000 in
set_option maxHeartbeats 2000000 in
theorem has_any (w : World) (A : Option Addr) (c s : Nat) (l : List Pile) (hs : s < 256) (hl : PilesIn l) (hA : PileSl w w.heap.size A l) :
    Calls Try.prog 63 #[.slice A l.length c, .func (.func 64) #[.int .i64 (s : Int)] #[]] w (Ret (.int .i64 (hasS l s)) w) := by
  have HA := Lib.hid hA
  have HT := Lib.hid fun k => has_bdT hl s k
  have HN := Lib.hid hl
  have hl0 : (0 : Int) ≤ l.length := by omega
  have hl1 : (l.length : Int) ≤ 8 := by have := hl.1; omega
  clear hA hl
  go_enter Try.func63, Try.ntmps63
  go_wp2_with fail
  go_loopw [4, 9] (fun a i wr => ∃ k : Nat, k ≤ l.length ∧ i = .int .i64 k ∧ a = .int .i64 (hasS (l.take k) s) ∧ Hid (Below w.heap.size w wr)) (fun _ i _ => l.length - (intOf i).toNat)
  case atStart => exact ⟨0, Nat.zero_le _, rfl, by simp [hasS], Lib.hid (Below.refl _ _)⟩
  case round =>
    obtain ⟨k, hk, rfl, rfl, HB⟩ := hrel
    by_cases hlt : k < l.length
    · obtain ⟨b, off, rfl, hb, hat⟩ := HA.out (by intro e; rw [e] at hlt; simp at hlt)
      obtain ⟨x0, x1⟩ := hat k hlt
      rw [← HB.out.cell (p := ⟨b, _, none⟩) hb] at x0 x1
      have hkn : (k : Int) < l.length := by omega
      have hk0 : (0 : Int) ≤ k := by omega
      obtain ⟨⟨p1, p2⟩, p3, p4⟩ := HN.out.2 l[k] (List.getElem_mem hlt)
      have HX := Lib.hid (hasS_next l s k hlt)
      obtain ⟨t0, t1⟩ := HT.out k
      obtain ⟨t2, t3⟩ := HT.out (k + 1)
      generalize l[k] = p at *
      generalize hasS (l.take k) s = F at *
      obtain ⟨sh, hsh⟩ := Int.eq_ofNat_of_zero_le p1
      have hsh2 : sh < 256 := by omega
      have hmt : meetB p.shades s = (s &&& sh != 0) := by unfold meetB; rw [hsh, Int.toNat_natCast, Nat.and_comm]
      rw [hsh] at x0
      have HB2 : Hid (Below w.heap.size w (wr.alloc (.cells #[.int .i64 (sh : Int), .int .i64 p.many] 46))) := Lib.hid (HB.out.alloc HB.out.size _)
      have HK := Lib.hid (Blk.new wr 46 #[.int .i64 (sh : Int), .int .i64 p.many])
      clear hat p1 p2 hb
      go_upto_region 4 with fail
      clear x0 x1 HB
      generalize wr.heap.size = g at *
      generalize World.alloc wr _ = W1 at *
      have y0 := HK.out.cell 0
      have y1 := HK.out.cell 1
      go_wp2_with fail
      refine (meets_any s sh _ hs hsh2).mono ?_
      rintro e w' ⟨rfl, rfl⟩
      cases h : (s &&& sh != 0) with
      | true =>
        have hX : hasS (l.take (k + 1)) s = F + p.many := by rw [HX.out, hmt, h, if_pos rfl]
        rw [hX] at t2 t3
        have hw : IntKind.i64.wrap (F + p.many) = F + p.many := IntWalk.i64_in _ ⟨by omega, by omega⟩
        go_wp2_with fail
        go_roundw
        case rel => exact ⟨k + 1, by omega, by go_num, by rw [hX], HB2⟩
        case measure => exact meas9 hlt
      | false =>
        have hX : hasS (l.take (k + 1)) s = F := by rw [HX.out, hmt, h, if_neg (by simp), Int.add_zero]
        go_wp2_with fail
        go_roundw
        case rel => exact ⟨k + 1, by omega, by go_num, by rw [hX], HB2⟩
        case measure => exact meas9 hlt
    · obtain rfl : k = l.length := by omega
      rw [List.take_length]
      go_wp2
      go_ret
      exact ⟨rfl, HB.out⟩
end Go.Proofs.Ytngoagfkcjkeoaa
