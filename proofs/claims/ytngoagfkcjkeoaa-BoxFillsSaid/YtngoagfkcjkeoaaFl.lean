/- Walks: the law BoxFills. -/
import Derived.Test.YtngoagfkcjkeoaaUo
import Derived.Test.YtngoagfkcjkeoaaKd
namespace Go.Proofs.Ytngoagfkcjkeoaa
open Go.RowKit Go.Shelf

theorem fillA_len (need : List Int) (l : List Pile) (b : Int) : (fillA need l b).1.length ≤ 8 ∧ ∀ x ∈ (fillA need l b).1, x.length ≤ 8 := by
  unfold fillA
  by_cases h0 : errE need l b = 0
  · rw [if_pos h0]
    by_cases h1 : canB need l b = true
    · rw [if_pos h1]
      obtain ⟨hok, hb0, hb1⟩ := errE_0 h0
      obtain ⟨-, hP, hc1, hc8⟩ := ok_in hok
      have hg := fill_good hok ⟨hb0, hb1⟩ h1
      refine ⟨by rw [hg.len]; exact hP.1, fun x hx => ?_⟩
      obtain ⟨i, hi, rfl⟩ := List.getElem_of_mem hx
      have h9 := (hg.row i (by rw [← hg.len]; exact hi)).1
      rw [List.getD_eq_getElem?_getD, List.getElem?_eq_getElem hi, Option.getD_some] at h9
      dsimp only at h9 ⊢
      omega
    · rw [if_neg h1]
      exact ⟨Nat.zero_le _, fun x hx => by simp at hx⟩
  · rw [if_neg h0]
    exact ⟨Nat.zero_le _, fun x hx => by simp at hx⟩
set_option maxRecDepth 100000 in
set_option maxHeartbeats 8000000 in
theorem fills9_any (w : World) (A B : Option Addr) (c d : Nat) (need : List Int) (l : List Pile) (b pile : Int) (hn : need.length ≤ 9223372036854775807) (hl : l.length ≤ 9223372036854775807) (hcap : l.length ≤ d) (hA : IntSl w w.heap.size A need) (hB : PileSl w w.heap.size B l) :
    Calls Try.prog 4 #[.slice A need.length c, .slice B l.length d, .int .i64 b, .int .i64 pile] w (Ret (.bool true) w) := by
  have HA := Lib.hid hA
  have HB := Lib.hid hB
  have HAW := Lib.hid fun W => awake9_any W
  have HFL := Lib.hid (fillA_len need l b)
  clear hA hB
  go_enter Try.func4, Try.ntmps4
  go_wp2_with fail
  refine (large9_any w A B need.length l.length c d hn hl).mono ?_
  rintro e w0 ⟨rfl, rfl⟩
  cases hlg : (decide (14 < need.length) || decide (14 < l.length)) with
  | true =>
    go_wp2_with fail
    refine (HAW.out _).mono ?_
    rintro e w1 ⟨rfl, hb1⟩
    have HB1 := Lib.hid hb1
    clear hb1
    go_wp2_with fail
    go_ret
    exact ⟨rfl, HB1.out⟩
  | false =>
    clear hlg
    go_wp2_with fail
    refine (fill_any w A B c d need l b hn hl HA.out HB.out).mono ?_
    rintro e w1 ⟨A1, c1, rfl, hr1, hb1⟩
    have HB1 := Lib.hid hb1
    have HR1 := Lib.hid hr1
    clear hr1 hb1
    have HRF := Lib.hid (rfill_any w1 A B c d need l b hn hl hcap (HA.out.on HB1.out (Nat.le_refl _)) (HB.out.on HB1.out (Nat.le_refl _)))
    have HRF2 : Hid (Calls Try.prog 18 #[.slice A need.length c, .slice B l.length d, .int .i64 b] w1 fun e w' => ∃ A c, e = .returned (.tuple #[.slice A (fillA need l b).1.length c, .int .i64 (fillA need l b).2]) ∧ RowSl w' A (fillA need l b).1 ∧ Below w1.heap.size w1 w') := Lib.hid HRF.out
    clear HRF
    generalize fillA need l b = F at *
    obtain ⟨F1, F2⟩ := F
    dsimp only at *
    go_wp2_with fail
    refine HRF2.out.mono ?_
    rintro e w2 ⟨A2, c2, rfl, hr2, hb2⟩
    have HB2 := Lib.hid (HB1.out.trans (hb2.mono HB1.out.size))
    have HR2 := Lib.hid (And.intro (HR1.out.on hb2) hr2)
    clear hr2 hb2 HR1 HB1 HRF2
    go_wp2_with fail
    refine (use_any w2 A B c d need l b pile hn hl (HA.out.on HB2.out (Nat.le_refl _)) (HB.out.on HB2.out (Nat.le_refl _))).mono ?_
    rintro e w3 ⟨lo, hi, ee, rfl, hu, hb3⟩
    have hb4 : Below w3.heap.size w3 (w3.alloc (.cells #[.int .i64 lo, .int .i64 hi] 35)) := (Below.refl _ _).alloc (Nat.le_refl _) _
    have hb34 := hb3.trans (hb4.mono hb3.size)
    have HK := Lib.hid (And.intro (HB2.out.trans (hb34.mono HB2.out.size)) (Blk.new w3 35 #[.int .i64 lo, .int .i64 hi]))
    have HR3 := Lib.hid (And.intro (HR2.out.1.on hb34) (HR2.out.2.on hb34))
    have HU := Lib.hid hu
    clear hu hb3 hb4 hb34 HB2 HR2
    go_upto_region 6 with fail
    generalize World.alloc w3 _ = w4 at *
    generalize w3.heap.size = gu at *
    go_wp2_with fail
    refine (ruse_any w4 A B c d need l b pile hn hl hcap (HA.out.on HK.out.1 (Nat.le_refl _)) (HB.out.on HK.out.1 (Nat.le_refl _))).mono ?_
    rintro e w5 ⟨lo', hi', ee', rfl, hu, hb5⟩
    obtain ⟨rfl, rfl, rfl⟩ := use_uniq HU.out hu
    have hb6 : Below w5.heap.size w5 (w5.alloc (.cells #[.int .i64 lo, .int .i64 hi] 35)) := (Below.refl _ _).alloc (Nat.le_refl _) _
    have hb56 := hb5.trans (hb6.mono hb5.size)
    have HK2 := Lib.hid (And.intro (HK.out.1.trans (hb56.mono HK.out.1.size)) (And.intro (HK.out.2.below hb56 HK.out.2.lt) (Blk.new w5 35 #[.int .i64 lo, .int .i64 hi])))
    have HR4 := Lib.hid (And.intro (HR3.out.1.on hb56) (HR3.out.2.on hb56))
    clear hu HU hb5 hb6 hb56 HK HR3
    go_upto_region 7 with fail
    generalize World.alloc w5 _ = w6 at *
    generalize w5.heap.size = gv at *
    have HRW := Lib.hid (rRows_any w6 A1 A2 c1 c2 F1 F1 (by have := HFL.out.1; omega) (by have := HFL.out.1; omega) HR4.out.1 HR4.out.2 (fun x hx => by have := HFL.out.2 x hx; omega) (fun x hx => by have := HFL.out.2 x hx; omega))
    clear HR4
    go_wp2_with fail
    refine HRW.out.mono ?_
    rintro e w7 ⟨rfl, hb7⟩
    rw [show decide (F1 = F1) = true from decide_eq_true rfl]
    have HK3 := Lib.hid (And.intro (HK2.out.1.trans (hb7.mono HK2.out.1.size)) (And.intro (HK2.out.2.1.below hb7 HK2.out.2.1.lt) (HK2.out.2.2.below hb7 HK2.out.2.2.lt)))
    clear hb7 HK2 HRW
    have c0 := HK3.out.2.1.cell 0
    have c1 := HK3.out.2.1.cell 1
    have d0 := HK3.out.2.2.cell 0
    have d1 := HK3.out.2.2.cell 1
    go_wp2_with fail
    refine (HAW.out _).mono ?_
    rintro e w8 ⟨rfl, hb8⟩
    have HB8 := Lib.hid (HK3.out.1.trans (hb8.mono HK3.out.1.size))
    clear hb8
    go_wp2_with fail
    go_ret
    exact ⟨rfl, HB8.out⟩
end Go.Proofs.Ytngoagfkcjkeoaa
