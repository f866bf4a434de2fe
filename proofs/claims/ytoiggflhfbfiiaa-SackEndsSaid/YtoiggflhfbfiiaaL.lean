/- Share: the two closures, the search, the walk. -/
import Derived.Test.YtoiggflhfbfiiaaK
namespace Go.Proofs.Ytoiggflhfbfiiaa
open Go.RowKit Go.Shelf

theorem carbonOver_bd' (n : Int) (h0 : 0 ≤ n) (h1 : n ≤ 1000) : ∀ t : St, t.ok → -800000000000000000 ≤ carbonOver n t ∧ carbonOver n t ≤ 800000000000000000 := fun _ h => carbonOver_bd h h0 h1

def AdBox (w : World) (q : Nat) (hs : List Held) : Prop := q < w.heap.size ∧ ∃ A c, w.cell? ⟨q, 0, none⟩ = some (.slice A hs.length c) ∧ AdSl w w.heap.size A hs
theorem AdBox.below {w w' : World} {q : Nat} {hs : List Held} (h : AdBox w q hs) (hb : Below w.heap.size w w') : AdBox w' q hs := by
  obtain ⟨hq, A, c, hc, ha⟩ := h
  exact ⟨Nat.lt_of_lt_of_le hq hb.size, A, c, (hb.cell (p := ⟨q, 0, none⟩) hq).trans hc, (ha.below hb).more hb.size⟩

theorem fld0 (a b : Int) (w : World) : (Instr.field 74 (.agg #[.int .i64 a, .int .i64 b]) 0).run Try.prog w = .ok (.int .i64 a) w := by kernel_rfl
theorem fld1 (a b : Int) (w : World) : (Instr.field 74 (.agg #[.int .i64 a, .int .i64 b]) 1).run Try.prog w = .ok (.int .i64 b) w := by kernel_rfl
theorem over_call (w : World) (A : Option Addr) (c : Nat) (hs : List Held) (n : Int) (hA : AdSl w w.heap.size A hs) (hok : ∀ h ∈ hs, h.ok) (hl : hs.length ≤ 8) (h0 : 0 ≤ n) (h1 : n ≤ 1000) :
    Calls Try.prog 34 #[.slice A hs.length c, .func (.func 66) #[] #[.pointer (some ⟨w.heap.size, 0, none⟩)]] (w.alloc (.cells #[.int .i64 n] 3)).drew
      (Ret (.agg #[.int .i64 (together hs (carbonOver n)).least, .int .i64 (together hs (carbonOver n)).most]) w) := by
  have hb : Below w.heap.size w (w.alloc (.cells #[.int .i64 n] 3)).drew := ((Below.refl _ _).alloc (Nat.le_refl _) _).drew
  have hq : (w.alloc (.cells #[.int .i64 n] 3)).drew.cell? ⟨w.heap.size, 0, none⟩ = some (.int .i64 n) := (Blk.new w 3 #[.int .i64 n]).cell 0
  refine (together_any _ A c hs _ (carbonOver n) ((hA.below hb).more hb.size) (isMeas_over _ w.heap.size n h0 h1 hq (by simp)) hok hl (carbonOver_bd' n h0 h1)).mono ?_
  rintro e w' ⟨he, hb'⟩
  exact ⟨he, hb.trans (hb'.mono hb.size)⟩

set_option maxRecDepth 100000 in
set_option maxHeartbeats 4000000 in
theorem lo_any (w : World) (q : Nat) (hs : List Held) (n : Int) (hq : AdBox w q hs) (hok : ∀ h ∈ hs, h.ok) (hl : hs.length ≤ 8) (h0 : 0 ≤ n) (h1 : n < 1000) :
    Calls Try.prog 38 #[.int .i64 n, .pointer (some ⟨q, 0, none⟩)] w (Ret (.bool (decide ((together hs (carbonOver (n + 1))).least < 0))) w) := by
  obtain ⟨hlt, A, c, hc, ha⟩ := hq
  have HT := Lib.hid (over_call w A c hs (n + 1) ha hok hl (by omega) (by omega))
  have HW : IntKind.i64.wrap (n + 1) = n + 1 := wr (by omega) (by omega)
  clear hok ha
  have hf := fld0
  go_enter Try.func38, Try.ntmps38
  go_wp2
  go_region_with (first | (go_at_call 39; refine (mkCarbonOver _ _).mono ?_; rintro e w' ⟨rfl, rfl⟩) | (go_at_call 34; refine HT.out.mono ?_; rintro e w' ⟨rfl, hb'⟩))
  all_goals go_wp2
  all_goals go_ret
  all_goals exact ⟨rfl, hb'⟩

set_option maxRecDepth 100000 in
set_option maxHeartbeats 4000000 in
theorem hi_any (w : World) (q : Nat) (hs : List Held) (n : Int) (hq : AdBox w q hs) (hok : ∀ h ∈ hs, h.ok) (hl : hs.length ≤ 8) (h0 : 0 ≤ n) (h1 : n < 1000) :
    Calls Try.prog 40 #[.int .i64 n, .pointer (some ⟨q, 0, none⟩)] w (Ret (.bool (decide ((together hs (carbonOver n)).most ≤ 0))) w) := by
  obtain ⟨hlt, A, c, hc, ha⟩ := hq
  have HT := Lib.hid (over_call w A c hs n ha hok hl (by omega) (by omega))
  clear hok ha
  have hf := fld1
  go_enter Try.func40, Try.ntmps40
  go_wp2
  go_region_with (first | (go_at_call 39; refine (mkCarbonOver _ _).mono ?_; rintro e w' ⟨rfl, rfl⟩) | (go_at_call 34; refine HT.out.mono ?_; rintro e w' ⟨rfl, hb'⟩))
  all_goals go_wp2
  all_goals go_ret
  all_goals exact ⟨rfl, hb'⟩
end Go.Proofs.Ytoiggflhfbfiiaa
