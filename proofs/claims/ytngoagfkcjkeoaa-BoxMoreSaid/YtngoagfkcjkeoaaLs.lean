/- Walks: wanted; slices.Clone of numbers and of piles. -/
import Derived.Test.YtngoagfkcjkeoaaRe
import Derived.Test.YtngoagfkcjkeoaaLr
namespace Go.Proofs.Ytngoagfkcjkeoaa
open Go.RowKit Go.Shelf

set_option maxRecDepth 100000 in
set_option maxHeartbeats 2000000 in
theorem wanted_any (w : World) (A : Option Addr) (c : Nat) (need : List Int) (b : Int) (hl : need.length ≤ 8) (hn : ∀ n ∈ need, 0 ≤ n ∧ n ≤ 48) (hb : 0 ≤ b ∧ b ≤ 1048576) (hA : IntSl w w.heap.size A need) :
    Calls Try.prog 48 #[.slice A need.length c, .int .i64 b] w (RetTi need b w) := by
  have HA := Lib.hid hA
  have HN := Lib.hid hn
  obtain ⟨hb0, hb1⟩ := hb
  have hl0 : (0 : Int) ≤ need.length := by omega
  have hl1 : (need.length : Int) ≤ 8 := by omega
  obtain ⟨i0, hi, hz0, hz1, hz2⟩ := info9 intInfo9
  have HI := Lib.hid (And.intro hi (And.intro hz0 (And.intro hz1 hz2)))
  clear hi hz0 hz1 hz2 hA hn
  go_enter Try.func48, Try.ntmps48
  go_wp2_with fail
  go_loopw [4, 9] (fun v i wr => ∃ (k : Nat) (s0 : Value), k ≤ need.length ∧ s0 = v ∧ i = .int .i64 k ∧ Hid (wr.ownsRow w.heap.size 3 1 s0 k (intsV9 ((need.take k).map (b * ·)))) ∧ Hid (Below w.heap.size w wr)) (fun _ i _ => need.length - (intOf i).toNat)
  case atStart => exact ⟨0, _, by omega, rfl, rfl, Lib.hid (World.ownsRow_nil _ _ _ _), Lib.hid (Below.refl _ _)⟩
  case round =>
    obtain ⟨k, s0, hk, rfl, rfl, HW, HB⟩ := hrel
    by_cases hlt : k < need.length
    · obtain ⟨g, off, rfl, hg, hat⟩ := HA.out (by intro e; rw [e] at hlt; simp at hlt)
      have x0 := hat k hlt
      rw [← HB.out.cell (p := ⟨g, _, none⟩) hg] at x0
      obtain ⟨n0, n1⟩ := HN.out need[k] (List.getElem_mem hlt)
      have HX := Lib.hid (map_take_next b need k hlt)
      rw [Int.mul_comm b need[k]] at HX
      have hki : (k : Int) < need.length := by omega
      have hk0 : (0 : Int) ≤ k := by omega
      generalize need[k] = x at *
      have m0 : 0 ≤ x * b := Int.mul_nonneg n0 hb0
      have m1 : x * b ≤ 48 * 1048576 := Int.mul_le_mul n1 hb1 hb0 (by omega)
      have hw : IntKind.i64.wrap (x * b) = x * b := IntWalk.i64_in _ ⟨by omega, by omega⟩
      generalize hmm : x * b = M at *
      have hb6 : Below wr.heap.size wr (wr.alloc (.cells #[.int .i64 M] 3)) := (Below.refl _ _).alloc (Nat.le_refl _) _
      have HO5 := Lib.hid (own_low9 HW.out hb6)
      have HB6 := Lib.hid (HB.out.trans (hb6.mono HB.out.size))
      have hsz := HB6.out.size
      have hk10 : k ≤ 10 := by omega
      have HBK := Lib.hid (Blk.new wr 3 #[.int .i64 M])
      clear hb6 HW hat hg
      go_wp2_with (at_builtin; refine wpList_append_own _ rfl _ _ 22 rfl w.heap.size 3 i0 _ 1 8 und_ints9 HI.out.1 HI.out.2.1 HI.out.2.2.1 HI.out.2.2.2 rfl (by decide) s0 k (intsV9 ((need.take k).map (b * ·))) rfl HO5.out ⟨wr.heap.size, 0, none⟩ 1 1 (intsV9 [M]) rfl rfl (one_news9 (HBK.out.cell 0)) (intsV9_one _) (by unfold maxLen; omega) (by omega) hsz ?_; intro v' w2 hown hgr hnn; clear hnn; have HO := Lib.hid hown; have HG := Lib.hid hgr; clear hown hgr)
      go_roundw
      case rel => exact ⟨k + 1, _, by omega, rfl, by go_num, Lib.hid (by rw [HX.out]; exact HO.out), Lib.hid (Below.grown HB6.out HG.out hsz fun j e => (HO5.out.lt j e).1)⟩
      case measure => exact meas9 hlt
    · obtain rfl : k = need.length := by omega
      rw [List.take_length] at HW
      obtain ⟨A2, c2, rfl, hsl⟩ := own_ints9 HW.out (by simp)
      have HSL := Lib.hid hsl
      clear hsl HW
      go_wp2_with fail
      go_ret
      exact ⟨A2, c2, rfl, HSL.out, HB.out⟩
theorem own_zero9 {t : TypeId} (w : World) (B : Nat) (h : B ≤ w.heap.size) (size : Nat) : (w.alloc (.cells #[] t)).ownsRow B t size (.slice (some ⟨w.heap.size, 0, none⟩) 0 0) 0 [] :=
  ⟨by simp, .inr ⟨w.heap.size, 0, #[], rfl, h, World.alloc_heap_new w _, Nat.le_refl _, by unfold maxLen; omega, by simp, by simp⟩⟩
theorem add_block (a : Addr) (j : Nat) : (a.add j).block = a.block := by
  unfold Addr.add
  split <;> rfl
theorem und_piles9 : Try.prog.underlying 23 = some (.slice 46) := by kernel_rfl
theorem pileInfo9 : (Try.prog.info? 46).map (fun i => (i.zero, i.size, i.bytes)) = some (some (.agg #[.int .i64 0, .int .i64 0]), 2, 16) := by kernel_rfl
set_option maxRecDepth 100000 in
set_option maxHeartbeats 2000000 in
theorem cloneI_any (w : World) (a : Addr) (n c : Nat) (xs : List Value) (hn : n ≤ 8) (hx : xs.length = n * 1) (h1 : ∀ u ∈ xs, u.oneCell' = true) (ha : a.block < w.heap.size) (hA : ∀ j u, xs[j]? = some u → w.cell? (a.add j) = some u) :
    Calls Try.prog 69 #[.slice (some a) n c] w fun e w' => ∃ v, e = .returned v ∧ w'.ownsRow w.heap.size 3 1 v n xs ∧ Below w.heap.size w w' := by
  obtain ⟨i0, hi, hz0, hz1, hz2⟩ := info9 intInfo9
  have hbz : Below w.heap.size w (w.alloc (.cells #[] 3)) := (Below.refl _ _).alloc (Nat.le_refl _) _
  have HAT : Hid (∀ j u, xs[j]? = some u → (w.alloc (.cells #[] 3)).cell? (a.add j) = some u) := Lib.hid fun j u h => (hbz.cell (p := a.add j) (by rw [add_block]; exact ha)).trans (hA j u h)
  have q22 : ∀ (w : World) (a : Option Addr) (n c n' c' : Nat), (binOp .eql 22 (.slice a n c) (.slice none n' c')).run Try.prog w = .ok (.bool a.isNone) w := fun w a n c n' c' => Lib.run_eql_slice_nil w _ _ a n c n' c' und_ints9
  clear hA hbz
  go_enter Try.func69, Try.ntmps69
  go_wp2_with (at_builtin; refine wpList_append_own _ rfl _ _ 22 rfl w.heap.size 3 i0 _ 1 8 und_ints9 hi hz0 hz1 hz2 rfl (by decide) (.slice (some ⟨w.heap.size, 0, none⟩) 0 0) 0 [] rfl (own_zero9 w w.heap.size (Nat.le_refl _) 1) a n c xs rfl hx HAT.out h1 (by unfold maxLen; omega) (by omega) (by simp) ?_; intro v' w2 hown hgr hnn; clear hnn; have HO := Lib.hid hown; have HG := Lib.hid hgr; clear hown hgr)
  go_ret
  refine ⟨_, rfl, by have := HO.out; rwa [Nat.zero_add, List.nil_append] at this, Below.grown (B := w.heap.size) ((Below.refl _ w).alloc (Nat.le_refl _) (.cells #[] 3)) HG.out (by simp) (own_ge9 (own_zero9 (t := 3) w w.heap.size (Nat.le_refl _) 1))⟩
set_option maxRecDepth 100000 in
set_option maxHeartbeats 2000000 in
theorem cloneP_any (w : World) (a : Addr) (n c : Nat) (xs : List Value) (hn : n ≤ 8) (hx : xs.length = n * 2) (h1 : ∀ u ∈ xs, u.oneCell' = true) (ha : a.block < w.heap.size) (hA : ∀ j u, xs[j]? = some u → w.cell? (a.add j) = some u) :
    Calls Try.prog 71 #[.slice (some a) n c] w fun e w' => ∃ v, e = .returned v ∧ w'.ownsRow w.heap.size 46 2 v n xs ∧ Below w.heap.size w w' := by
  obtain ⟨i0, hi, hz0, hz1, hz2⟩ := info9 pileInfo9
  have hbz : Below w.heap.size w (w.alloc (.cells #[] 46)) := (Below.refl _ _).alloc (Nat.le_refl _) _
  have HAT : Hid (∀ j u, xs[j]? = some u → (w.alloc (.cells #[] 46)).cell? (a.add j) = some u) := Lib.hid fun j u h => (hbz.cell (p := a.add j) (by rw [add_block]; exact ha)).trans (hA j u h)
  have q22 : ∀ (w : World) (a : Option Addr) (n c n' c' : Nat), (binOp .eql 23 (.slice a n c) (.slice none n' c')).run Try.prog w = .ok (.bool a.isNone) w := fun w a n c n' c' => Lib.run_eql_slice_nil w _ _ a n c n' c' und_piles9
  clear hA hbz
  go_enter Try.func71, Try.ntmps71
  go_wp2_with (at_builtin; refine wpList_append_own _ rfl _ _ 23 rfl w.heap.size 46 i0 _ 2 16 und_piles9 hi hz0 hz1 hz2 rfl (by decide) (.slice (some ⟨w.heap.size, 0, none⟩) 0 0) 0 [] rfl (own_zero9 w w.heap.size (Nat.le_refl _) 2) a n c xs rfl hx HAT.out h1 (by unfold maxLen; omega) (by omega) (by simp) ?_; intro v' w2 hown hgr hnn; clear hnn; have HO := Lib.hid hown; have HG := Lib.hid hgr; clear hown hgr)
  go_ret
  refine ⟨_, rfl, by have := HO.out; rwa [Nat.zero_add, List.nil_append] at this, Below.grown (B := w.heap.size) ((Below.refl _ w).alloc (Nat.le_refl _) (.cells #[] 46)) HG.out (by simp) (own_ge9 (own_zero9 (t := 46) w w.heap.size (Nat.le_refl _) 2))⟩
end Go.Proofs.Ytngoagfkcjkeoaa
