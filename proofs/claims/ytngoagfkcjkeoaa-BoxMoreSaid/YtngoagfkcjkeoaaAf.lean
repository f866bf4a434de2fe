/- Walks: Fill. -/
import Derived.Test.YtngoagfkcjkeoaaAe
import Derived.Test.YtngoagfkcjkeoaaLw
namespace Go.Proofs.Ytngoagfkcjkeoaa
open Go.RowKit Go.Shelf

def fillT (need : List Int) (l : List Pile) (b : Int) : List (List Int) := rowsT (asgT (need.map (b * ·)) l).L l.length need.length
/-- What Fill returns. -/
def fillA (need : List Int) (l : List Pile) (b : Int) : List (List Int) × Int := if errE need l b = 0 then (if canB need l b = true then (fillT need l b, 0) else ([], 10)) else ([], errE need l b)
def RetFi (need : List Int) (l : List Pile) (b : Int) (w : World) (e : Ending) (w' : World) : Prop := ∃ A c, e = .returned (.tuple #[.slice A (fillA need l b).1.length c, .int .i64 (fillA need l b).2]) ∧ RowSl w' A (fillA need l b).1 ∧ Below w.heap.size w w'
theorem fill_len (need : List Int) (l : List Pile) (b : Int) : (fillT need l b).length = l.length := rowsT_len _ _ _
theorem asg_len {need : List Int} {l : List Pile} (hn : ∀ n ∈ need, 0 ≤ n ∧ n ≤ 50331648) (h8 : need.length ≤ 8) (hl : PilesIn l) : (asgT need l).L.length = 64 :=
  (pile_in h8 l 0 0 _ (fun p hp => (hl.2 p hp).2) (beg_as hn h8 hl)).len
theorem times_in {need : List Int} {b : Int} (hn : ∀ n ∈ need, 0 ≤ n ∧ n ≤ 48) (hb : 0 ≤ b ∧ b ≤ 1048576) : ∀ n ∈ need.map (b * ·), 0 ≤ n ∧ n ≤ 50331648 := fun n h => by
  obtain ⟨x, hx, rfl⟩ := List.mem_map.1 h
  obtain ⟨h1, h2⟩ := hn x hx
  have e1 : b * x ≤ 1048576 * 48 := Int.mul_le_mul hb.2 h2 h1 (by omega)
  exact ⟨Int.mul_nonneg hb.1 h1, by show b * x ≤ 50331648; omega⟩
set_option maxRecDepth 100000 in
set_option maxHeartbeats 8000000 in
theorem fill_any (w : World) (A B : Option Addr) (c d : Nat) (need : List Int) (l : List Pile) (b : Int) (hn : need.length ≤ 9223372036854775807) (hl : l.length ≤ 9223372036854775807) (hA : IntSl w w.heap.size A need) (hB : PileSl w w.heap.size B l) :
    Calls Try.prog 17 #[.slice A need.length c, .slice B l.length d, .int .i64 b] w (RetFi need l b w) := by
  have HA := Lib.hid hA
  have HBS := Lib.hid hB
  have HV := Lib.hid (errorOf_any _ A B c d need l b hn hl hA hB)
  have HR0 : Hid (errE need l b ≠ 0 → ∀ W, Below w.heap.size w W → RetFi need l b w (.returned (.tuple #[.slice none 0 0, .int .i64 (errE need l b)])) W) := Lib.hid fun h0 W h => by
    have e : fillA need l b = ([], errE need l b) := if_neg h0
    exact ⟨none, 0, by rw [e]; rfl, by rw [e]; exact fun h => absurd rfl h, h⟩
  have HR1 : Hid (errE need l b = 0 → canB need l b = false → ∀ W, Below w.heap.size w W → RetFi need l b w (.returned (.tuple #[.slice none 0 0, .int .i64 10])) W) := Lib.hid fun h0 h1 W h => by
    have e : fillA need l b = ([], 10) := (if_pos h0).trans (if_neg (by rw [h1]; simp))
    exact ⟨none, 0, by rw [e]; rfl, by rw [e]; exact fun h => absurd rfl h, h⟩
  have HR2 : Hid (errE need l b = 0 → canB need l b = true → ∀ W A c, Below w.heap.size w W → RowSl W A (fillT need l b) → RetFi need l b w (.returned (.tuple #[.slice A l.length c, .int .i64 0])) W) := Lib.hid fun h0 h1 W A c h hr => by
    have e : fillA need l b = (fillT need l b, 0) := (if_pos h0).trans (if_pos h1)
    exact ⟨A, c, by rw [e, fill_len], by rw [e]; exact hr, h⟩
  generalize RetFi need l b w = Q at *
  clear hA hB
  go_enter Try.func17, Try.ntmps17
  go_wp2_with fail
  refine HV.out.mono ?_
  rintro e w1 ⟨rfl, hb1⟩
  have HB1 := Lib.hid hb1
  clear hb1 HV
  by_cases h0 : errE need l b = 0
  · have HE0 := Lib.hid h0
    obtain ⟨hok, hb0, hb1⟩ := errE_0 h0
    obtain ⟨hN, hP, hc1, hc8⟩ := ok_in hok
    have hn48 : ∀ n ∈ need, 0 ≤ n ∧ n ≤ 48 := by
      unfold boxOk at hok
      rw [Bool.and_eq_true] at hok
      exact (need_parts hok.1).2.1
    have HC := Lib.hid (count_in hN hP)
    have HTA := Lib.hid (tallyOf_any w1 A B c d need l hN hP (HA.out.on HB1.out (Nat.le_refl _)) (HBS.out.on HB1.out (Nat.le_refl _)))
    have HPI := Lib.hid hP
    have HN48 := Lib.hid hn48
    have hp8 := hP.1
    clear hok hN hP hn48
    rw [h0]
    clear h0
    go_wp2_with fail
    refine HTA.out.mono ?_
    rintro e w2 ⟨r, rfl, hT, hb2⟩
    have HT := Lib.hid hT
    have HB2 := Lib.hid (HB1.out.trans (hb2.mono HB1.out.size))
    clear hT hb2 HTA HB1
    go_wp2_with fail
    have h9 := canFill_any w2 r need.length (cfOf need l) b hc8 HT.out HC.out ⟨by omega, by omega⟩
    rw [lacking_eq] at h9
    refine h9.mono ?_
    rintro e w3 ⟨rfl, hb3⟩
    change Below w2.heap.size w2 w3 at hb3
    have HB3 := Lib.hid (HB2.out.trans (hb3.mono HB2.out.size))
    clear hb3 HB2 HT h9
    have HCB : Hid ((lackingS need l b == 0) = canB need l b) := Lib.hid rfl
    rw [HCB.out]
    cases hcb : canB need l b with
    | false =>
      have HCF := Lib.hid hcb
      clear hcb
      go_wp2_with fail
      exact HR1.out HE0.out HCF.out _ HB3.out
    | true =>
      have HCF := Lib.hid hcb
      have HTI := Lib.hid (times_in HN48.out ⟨hb0, hb1⟩)
      have HLM : Hid ((need.map (b * ·)).length = need.length) := Lib.hid (List.length_map _)
      clear hcb
      go_wp2_with fail
      refine (wanted_any w3 A c need b hc8 HN48.out ⟨hb0, hb1⟩ (HA.out.on HB3.out (Nat.le_refl _))).mono ?_
      rintro e w4 ⟨A4, c4, rfl, hI4, hb4⟩
      have HB4 := Lib.hid (HB3.out.trans (hb4.mono HB3.out.size))
      have HAS := Lib.hid (assign_any w4 A4 B c4 d (need.map (b * ·)) l (by rw [HLM.out]; exact hc8) HTI.out HPI.out hI4 (HBS.out.on HB4.out (Nat.le_refl _)))
      rw [HLM.out] at HAS
      clear hI4 hb4 HB3
      go_wp2_with fail
      refine HAS.out.mono ?_
      rintro e w5 ⟨rfl, hb5⟩
      have HB5 := Lib.hid (HB4.out.trans (hb5.mono HB4.out.size))
      have HL64 := Lib.hid (asg_len HTI.out (by rw [HLM.out]; exact hc8) HPI.out)
      have HRW := Lib.hid (rows_any w5 (asgT (need.map (b * ·)) l).L l.length need.length HL64.out hp8 hc8)
      clear hb5 HB4 HAS
      have HFT : Hid (rowsT (asgT (need.map (b * ·)) l).L l.length need.length = fillT need l b) := Lib.hid rfl
      generalize (asgT (need.map (b * ·)) l).L = L at *
      have hll0 : (0 : Int) ≤ l.length := by omega
      go_wp2_with fail
      refine HRW.out.mono ?_
      rintro e w6 ⟨A6, c6, rfl, hr6, hb6⟩
      have HH := Lib.hid (HR2.out HE0.out HCF.out w6 A6 c6 (HB5.out.trans (hb6.mono HB5.out.size)) (by rw [← HFT.out]; exact hr6))
      clear hr6 hb6
      go_wp2_with fail
      exact HH.out
  · have HE0 := Lib.hid h0
    generalize errE need l b = E at *
    go_wp2_with fail
    exact HR0.out HE0.out _ HB1.out
end Go.Proofs.Ytngoagfkcjkeoaa
