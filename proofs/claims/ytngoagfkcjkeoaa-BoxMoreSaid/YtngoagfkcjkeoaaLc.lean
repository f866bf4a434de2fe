/- Walks: the law BoxMosts. -/
import Derived.Test.YtngoagfkcjkeoaaAi
import Derived.Test.YtngoagfkcjkeoaaBt
import Derived.Test.YtngoagfkcjkeoaaRf
namespace Go.Proofs.Ytngoagfkcjkeoaa
open Go.RowKit Go.Shelf

/-- What Most returns is the document's. -/
theorem most_doc {need : List Int} {l : List Pile} {a b c : Int} (h : (boxOk need l = true ∧ GreatOf (canB need l) 8388608 a ∧ b = (lackingS need l (a + 1) : Int) ∧ c = 0) ∨ (boxOk need l = false ∧ a = 0 ∧ b = 0 ∧ c = 1)) : mostR need l = (a, b, c) := by
  rcases h with ⟨h1, h2, rfl, rfl⟩ | ⟨h1, rfl, rfl, rfl⟩
  · exact mostR_eq h1 h2
  · exact mostR_bad h1
set_option maxRecDepth 100000 in
set_option maxHeartbeats 8000000 in
theorem mosts9_any (w : World) (A B : Option Addr) (c d : Nat) (need : List Int) (l : List Pile) (b : Int) (hn : need.length ≤ 9223372036854775807) (hl : l.length ≤ 9223372036854775807) (hA : IntSl w w.heap.size A need) (hB : PileSl w w.heap.size B l) :
    Calls Try.prog 3 #[.slice A need.length c, .slice B l.length d, .int .i64 b] w (Ret (.bool true) w) := by
  have HA := Lib.hid hA
  have HB := Lib.hid hB
  have HAW := Lib.hid fun W => awake9_any W
  clear hA hB
  go_enter Try.func3, Try.ntmps3
  go_wp2_with fail
  refine (large9_any w A B need.length l.length c d hn hl).mono ?_
  rintro e w0 ⟨rfl, rfl⟩
  cases hlg : (decide (14 < need.length) || decide (14 < l.length)) with
  | true =>
    go_wp2_with fail
    refine (HAW.out _).mono ?_
    rintro e w1 ⟨rfl, hb1⟩
    have HB1 := Lib.hid hb1
    clear hb1
    go_wp2_with fail
    go_ret
    exact ⟨rfl, HB1.out⟩
  | false =>
    clear hlg
    go_wp2_with fail
    refine (most_any w A B c d need l hn hl HA.out HB.out).mono ?_
    rintro e w1 ⟨⟨x, y, z, rfl, hm⟩, hb1⟩
    have HM := Lib.hid (most_doc hm)
    have HB1 := Lib.hid hb1
    clear hm hb1
    go_wp2_with fail
    refine (rMost_any w1 A B c d need l hn hl (HA.out.on HB1.out (Nat.le_refl _)) (HB.out.on HB1.out (Nat.le_refl _))).mono ?_
    rintro e w2 ⟨rfl, hb2⟩
    rw [HM.out]
    have HB2 := Lib.hid (HB1.out.trans (hb2.mono HB1.out.size))
    clear hb2 HB1 HM
    go_wp2_with fail
    refine (lack_any w2 A B c d need l b hn hl (HA.out.on HB2.out (Nat.le_refl _)) (HB.out.on HB2.out (Nat.le_refl _))).mono ?_
    rintro e w3 ⟨rfl, hb3⟩
    have HB3 := Lib.hid (HB2.out.trans (hb3.mono HB2.out.size))
    clear hb3 HB2
    go_wp2_with fail
    refine (rLack_any w3 A B c d need l b hn hl (HA.out.on HB3.out (Nat.le_refl _)) (HB.out.on HB3.out (Nat.le_refl _))).mono ?_
    rintro e w4 ⟨rfl, hb4⟩
    have HB4 := Lib.hid (HB3.out.trans (hb4.mono HB3.out.size))
    generalize lackA need l b = q at *
    obtain ⟨q1, q2, q3⟩ := q
    dsimp only
    clear hb4 HB3 HA HB
    go_wp2_with (refine (HAW.out _).mono ?_; rintro e w5 ⟨rfl, hb5⟩)
    go_ret
    exact ⟨rfl, HB4.out.trans (hb5.mono HB4.out.size)⟩
end Go.Proofs.Ytngoagfkcjkeoaa
