/- Walks of the small functions of the laws and of the reference: Of, pick, inside, Batch. -/
import Derived.Test.YtoiggflhfbfiiaaPt
import Derived.Test.YtoiggflhfbfiiaaRf
import Derived.Deep.QuietTactic
import Derived.BigQuiet
namespace Go.Proofs.Ytoiggflhfbfiiaa
open Go.RowKit Go.Shelf

theorem below_drewN {B : Nat} {a w : World} (h : Below B a w) (n : Nat) : Below B a (w.drewN n) := ⟨h.os, h.tape, h.output, h.size, h.block⟩
theorem of_bds {w c s : Int} (h1 : 0 ≤ w) (h2 : w ≤ 900) (h3 : 0 ≤ c) (h4 : c ≤ 1000) (h5 : 0 ≤ s) (h6 : s ≤ 900) :
    (0 ≤ (1000 - w) * c ∧ (1000 - w) * c ≤ 1000000) ∧ (0 ≤ (1000 - w) * (1000 - c) ∧ (1000 - w) * (1000 - c) ≤ 1000000) ∧ (0 ≤ (1000 - w) * (1000 - c) * s ∧ (1000 - w) * (1000 - c) * s ≤ 900000000) ∧ (0 ≤ (1000 - w) * (1000 - c) * (1000 - s) ∧ (1000 - w) * (1000 - c) * (1000 - s) ≤ 1000000000) := by
  have a1 := mul_bd (show 0 ≤ 1000 - w by omega) (show 1000 - w ≤ 1000 by omega) h3 h4
  have a2 := mul_bd (show 0 ≤ 1000 - w by omega) (show 1000 - w ≤ 1000 by omega) (show 0 ≤ 1000 - c by omega) (show 1000 - c ≤ 1000 by omega)
  have a3 := mul_bd a2.1 a2.2 h5 h6
  have a4 := mul_bd a2.1 a2.2 (show 0 ≤ 1000 - s by omega) (show 1000 - s ≤ 1000 by omega)
  omega
theorem ofN_bd (k : Nat) {w c s : Int} (h1 : 0 ≤ w) (h2 : w ≤ 900) (h3 : 0 ≤ c) (h4 : c ≤ 1000) (h5 : 0 ≤ s) (h6 : s ≤ 900) : 0 ≤ ofN k w c s ∧ ofN k w c s ≤ 1000000000 := by
  have h := of_bds h1 h2 h3 h4 h5 h6
  have e := St.part_eq ⟨1, w, c, s⟩
  simp only [St.carbon, St.smoke, St.clay, St.dry, Int.one_mul] at e
  match k with
  | 0 => simp only [ofN]; omega
  | 1 => simp only [ofN]; omega
  | 2 => simp only [ofN]; omega
  | 3 => simp only [ofN]; omega
  | n + 4 => simp only [ofN]; omega

set_option maxHeartbeats 1000000 in
theorem rof_small (k : Nat) (hk : k < 4) (v c s : Int) (w : World) (h1 : 0 ≤ v) (h2 : v ≤ 900) (h3 : 0 ≤ c) (h4 : c ≤ 1000) (h5 : 0 ≤ s) (h6 : s ≤ 900) :
    Calls Try.prog 59 #[.int .i64 k, .int .i64 v, .int .i64 c, .int .i64 s] w fun e w' => e = .returned (.int .i64 (ofN k v c s)) ∧ w = w' := by
  obtain ⟨⟨a1, a2⟩, ⟨a3, a4⟩, ⟨a5, a6⟩, a7, a8⟩ := of_bds h1 h2 h3 h4 h5 h6
  have hk' : k = 0 ∨ k = 1 ∨ k = 2 ∨ k = 3 := by omega
  rcases hk' with rfl | rfl | rfl | rfl
  · go_enter Try.func59, Try.ntmps59
    go_wp2
    go_ret
    exact ⟨rfl, rfl⟩
  · go_enter Try.func59, Try.ntmps59
    go_wp2
    go_ret
    exact ⟨rfl, rfl⟩
  · go_enter Try.func59, Try.ntmps59
    go_wp2
    go_ret
    exact ⟨rfl, rfl⟩
  · go_enter Try.func59, Try.ntmps59
    go_wp2
    go_ret
    exact ⟨rfl, rfl⟩

set_option maxHeartbeats 1000000 in
theorem rof_any (k : Nat) (hk : k < 5) (v c s : Int) (w : World) (h1 : 0 ≤ v) (h2 : v ≤ 900) (h3 : 0 ≤ c) (h4 : c ≤ 1000) (h5 : 0 ≤ s) (h6 : s ≤ 900) :
    Calls Try.prog 59 #[.int .i64 k, .int .i64 v, .int .i64 c, .int .i64 s] w fun e w' => e = .returned (.int .i64 (ofN k v c s)) ∧ w = w' := by
  by_cases h : k < 4
  · exact rof_small k h v c s w h1 h2 h3 h4 h5 h6
  · obtain rfl : k = 4 := by omega
    obtain ⟨⟨a1, a2⟩, ⟨a3, a4⟩, ⟨a5, a6⟩, a7, a8⟩ := of_bds h1 h2 h3 h4 h5 h6
    clear h hk a3 a4 a5 a6
    have hc : Hid (∀ W, Calls Try.prog 59 #[.int .i64 1, .int .i64 v, .int .i64 c, .int .i64 s] W fun e w' => e = .returned (.int .i64 ((1000 - v) * c * 1000)) ∧ W = w') := fun W => rof_small 1 (by omega) v c s W h1 h2 h3 h4 h5 h6
    have hd : Hid (∀ W, Calls Try.prog 59 #[.int .i64 3, .int .i64 v, .int .i64 c, .int .i64 s] W fun e w' => e = .returned (.int .i64 ((1000 - v) * (1000 - c) * (1000 - s))) ∧ W = w') := fun W => rof_small 3 (by omega) v c s W h1 h2 h3 h4 h5 h6
    go_enter Try.func59, Try.ntmps59
    go_wp2_with fail
    refine (hc.out _).mono ?_
    rintro e w' ⟨rfl, rfl⟩
    go_wp2_with fail
    refine (hd.out _).mono ?_
    rintro e w' ⟨rfl, rfl⟩
    go_wp2_with fail
    go_ret
    exact ⟨rfl, rfl⟩

def pickV (lo hi y : Int) : Int := lo + y % (hi - lo + 1)
theorem pickV_bd {lo hi y : Int} (h : lo ≤ hi) : lo ≤ pickV lo hi y ∧ pickV lo hi y ≤ hi := by
  have h1 := Int.emod_nonneg y (show hi - lo + 1 ≠ 0 by omega)
  have h2 := Int.emod_lt_of_pos y (show 0 < hi - lo + 1 by omega)
  unfold pickV
  omega
set_option maxHeartbeats 1000000 in
theorem pick_any (lo hi y : Int) (w : World) (h0 : 0 ≤ lo) (h1 : lo ≤ hi) (h2 : hi ≤ 100000) (h3 : 0 ≤ y) (h4 : y ≤ 4294967295) :
    Calls Try.prog 58 #[.agg #[.int .i64 lo, .int .i64 hi], .int .u32 y] w (Ret (.int .i64 (pickV lo hi y)) w) := by
  have hb := pickV_bd (y := y) h1
  unfold pickV at hb
  have ht : Hid (y.tmod (hi - lo + 1) = y % (hi - lo + 1)) := Int.tmod_eq_emod_of_nonneg h3
  obtain ⟨hb1, hb2⟩ := hb
  go_enter Try.func58, Try.ntmps58
  go_wp2
  go_quiet ((fail))
  go_wp2
  go_ret
  refine ⟨ret_int ?_, ?_⟩
  · rfl
  · exact below_drewN ((Below.refl _ _).alloc (Nat.le_refl _) _) _
set_option maxHeartbeats 1000000 in
theorem inside_any (n lo hi : Int) (w : World) (h0 : -10000000 ≤ lo) (h1 : lo ≤ 10000000) (h2 : -10000000 ≤ hi) (h3 : hi ≤ 10000000) :
    Calls Try.prog 23 #[.int .i64 n, .agg #[.int .i64 lo, .int .i64 hi]] w (Ret (.bool (decide (lo * 1000000000 ≤ n ∧ n ≤ hi * 1000000000))) w) := by
  go_enter Try.func23, Try.ntmps23
  go_wp2
  all_goals go_ret
  all_goals exact ⟨ret_bool (by rw [Bool.eq_iff_iff]; first | (simp only [decide_eq_true_eq, Bool.false_eq_true, false_iff]; omega) | (simp; omega)), (Below.refl _ _).alloc (Nat.le_refl _) _⟩

theorem batch_no {l : List Sack} {b : List Take} {k : Nat} (h : k < b.length) (hk : takeOk l b[k] = false) : b.all (takeOk l) = false := by
  rw [List.all_eq_false]
  exact ⟨b[k], List.getElem_mem h, by simp [hk]⟩
def batchB (l : List Sack) (b : List Take) : Bool := decide (1 ≤ b.length ∧ b.length ≤ 8) && b.all (takeOk l)
theorem validB_split (l : List Sack) (b : List Take) : validB l b = (sacksOk l && batchB l b) := by
  simp [validB, batchB, Bool.and_assoc]

set_option maxHeartbeats 1000000 in
theorem rbatch_any (w : World) (A T : Option Addr) (c d : Nat) (l : List Sack) (b : List Take) (hl : l.length ≤ 100) (hb : b.length ≤ 100) (hT : TakeSl w w.heap.size T b) :
    Calls Try.prog 20 #[.slice A l.length c, .slice T b.length d] w (Ret (.bool (batchB l b)) w) := by
  have HS := Lib.hid hT
  clear hT
  go_enter Try.func20, Try.ntmps20
  go_wp2
  go_loopw [5] (fun i wr => ∃ k : Nat, k ≤ b.length ∧ i = .int .i64 k ∧ (b.take k).all (takeOk l) = true ∧ Below w.heap.size w wr) (fun i _ => b.length - (intOf i).toNat)
  case atStart => exact ⟨0, by omega, rfl, by simp, Below.refl _ _⟩
  case round =>
    obtain ⟨k, hk, rfl, hall, hB⟩ := hrel
    have HA := Lib.hid hall
    clear hall
    by_cases hlt : k < b.length
    · obtain ⟨p, off, rfl, hp, hs⟩ := HS.out (by intro e; subst e; simp at hlt)
      obtain ⟨c0, c1, c2⟩ := hs k hlt
      clear hs
      rw [← hB.cell (p := ⟨p, _, none⟩) hp] at c0 c1 c2
      have hok : Hid (takeOk l b[k] = (decide (0 ≤ b[k].s ∧ b[k].s ≤ (l.length : Int) - 1) && withinB ⟨b[k].m.lo, b[k].m.hi⟩ 1 100000)) := by
        show _ = _
        unfold takeOk idxB
        congr 1
        rw [Bool.eq_iff_iff]; simp only [decide_eq_true_eq]; omega
      have H8 : Hid (takeOk l b[k] = false → Ending.returned (.bool false) = Ending.returned (.bool (batchB l b))) := fun h => by simp [batchB, batch_no hlt h]
      cases hx : decide (0 ≤ b[k].s ∧ b[k].s ≤ (l.length : Int) - 1) with
      | false =>
        have HX := Lib.hid hx
        clear hx
        go_wp2_with (go_at_call 56; refine (rin_any _ _ _ _).mono ?_; rw [HX.out]; rintro e w' ⟨rfl, rfl⟩)
        go_ret
        exact ⟨H8.out (by rw [hok.out, HX.out]; rfl), hB⟩
      | true =>
        have HX := Lib.hid hx
        clear hx
        cases hy : withinB ⟨b[k].m.lo, b[k].m.hi⟩ 1 100000 with
        | false =>
          have HY := Lib.hid hy
          clear hy
          go_wp2_with (first | (go_at_call 56; refine (rin_any _ _ _ _).mono ?_; rw [HX.out]; rintro e w' ⟨rfl, rfl⟩) | (go_at_call 47; refine (rspan_any _ _ _ _ _).mono ?_; rw [HY.out]; rintro e w' ⟨rfl, hb'⟩; replace hB := hB.trans (hb'.mono hB.size); clear hb'))
          go_ret
          exact ⟨H8.out (by rw [hok.out, HX.out, HY.out]; rfl), hB⟩
        | true =>
          have HY := Lib.hid hy
          clear hy
          have HN : Hid ((b.take (k + 1)).all (takeOk l) = true) := by
            show _ = _
            rw [List.take_succ_eq_append_getElem hlt, List.all_append, HA.out, List.all_cons, hok.out, HX.out, HY.out]; rfl
          go_wp2_with (first | (go_at_call 56; refine (rin_any _ _ _ _).mono ?_; rw [HX.out]; rintro e w' ⟨rfl, rfl⟩) | (go_at_call 47; refine (rspan_any _ _ _ _ _).mono ?_; rw [HY.out]; rintro e w' ⟨rfl, hb'⟩; replace hB := hB.trans (hb'.mono hB.size); clear hb' c0 c1 c2))
          go_roundw
          case rel => exact ⟨k + 1, by omega, by go_num, HN.out, hB⟩
          case measure => simp [intOf]; omega
    · have HE : Hid (decide ((1 : Int) ≤ b.length ∧ (b.length : Int) ≤ 8) = batchB l b) := by
        obtain rfl : k = b.length := by omega
        have h1 := HA.out
        rw [List.take_length] at h1
        show _ = _
        rw [batchB, h1, Bool.and_true, Bool.eq_iff_iff]
        simp only [decide_eq_true_eq]; omega
      go_wp2_with (go_at_call 56; refine (rin_any _ _ _ _).mono ?_; rw [HE.out]; rintro e w' ⟨rfl, rfl⟩)
      go_ret
      exact ⟨rfl, hB⟩
end Go.Proofs.Ytoiggflhfbfiiaa
