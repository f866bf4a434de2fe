/- Walks: whether a press and draws are valid. -/
import Derived.Test.YtdadgljllnkppaaLf
namespace Go.Proofs.Ytdadgljllnkppaa
open Go.RowKit Go.Shelf

theorem press_end {p : Press} (h1 : fromB p.dies.length 1 4 = true) (h2 : p.dies.all dieOk = true) : pressOk p = endB p.shrink p.change := by unfold pressOk; rw [h1, h2]; rfl
theorem press_len {p : Press} (h1 : fromB p.dies.length 1 4 = false) : pressOk p = false := by unfold pressOk; rw [h1]; rfl
theorem press_die {p : Press} {k : Nat} (h : k < p.dies.length) (hf : dieOk p.dies[k] = false) : pressOk p = false := by unfold pressOk; rw [all_no h hf]; simp
set_option maxRecDepth 100000 in
set_option maxHeartbeats 2000000 in
theorem validPress_any (w : World) (A : Option Addr) (c : Nat) (p : Press) (hl : p.dies.length ≤ 9223372036854775807) (hA : DieSl w w.heap.size A p.dies) :
    Calls Try.prog 95 #[.agg #[.slice A p.dies.length c, .int .i64 p.shrink.lo, .int .i64 p.shrink.hi, .int .i64 p.change]] w (Ret (.bool (pressOk p)) w) := by
  have HS := Lib.hid hA
  clear hA
  have hl' : (p.dies.length : Int) ≤ 9223372036854775807 := by omega
  have hl0 : (0 : Int) ≤ p.dies.length := by omega
  cases h14 : fromB p.dies.length 1 4 with
  | false =>
    have HN := Lib.hid (press_len h14)
    have H14 := Lib.hid h14
    clear h14
    go_enter Try.func95, Try.ntmps95
    go_wp2_with fail
    refine (isFrom_any _ _ _ _).mono ?_
    rintro e w' ⟨he, rfl⟩
    rw [H14.out] at he
    subst he
    go_wp2_with fail
    go_ret
    exact ⟨ret_bool HN.out.symm, (Below.refl _ _).alloc (Nat.le_refl _) _⟩
  | true =>
    have H14 := Lib.hid h14
    clear h14
    go_enter Try.func95, Try.ntmps95
    go_wp2_with fail
    refine (isFrom_any _ _ _ _).mono ?_
    rintro e w' ⟨he, rfl⟩
    rw [H14.out] at he
    subst he
    go_wp2_with fail
    have HB : Hid (Blk (w.alloc (.cells #[.slice A p.dies.length c, .int .i64 p.shrink.lo, .int .i64 p.shrink.hi, .int .i64 p.change] 26)) w.heap.size 26 #[.slice A p.dies.length c, .int .i64 p.shrink.lo, .int .i64 p.shrink.hi, .int .i64 p.change] ∧ Below w.heap.size w (w.alloc (.cells #[.slice A p.dies.length c, .int .i64 p.shrink.lo, .int .i64 p.shrink.hi, .int .i64 p.change] 26))) := Lib.hid ⟨Blk.new _ _ _, (Below.refl _ _).alloc (Nat.le_refl _) _⟩
    generalize World.alloc w _ = W0 at HB ⊢
    go_loopw [13] (fun i wr => ∃ k : Nat, k ≤ p.dies.length ∧ i = .int .i64 k ∧ Hid ((p.dies.take k).all dieOk = true) ∧ Hid (Blk wr w.heap.size 26 #[.slice A p.dies.length c, .int .i64 p.shrink.lo, .int .i64 p.shrink.hi, .int .i64 p.change] ∧ Below w.heap.size w wr)) (fun i _ => p.dies.length - (intOf i).toNat)
    case atStart => exact ⟨0, by omega, rfl, Lib.hid (by simp), HB⟩
    case round =>
      clear HB
      obtain ⟨k, hk, rfl, HA, HB⟩ := hrel
      by_cases hlt : k < p.dies.length
      · obtain ⟨b, off, rfl, hb, hs⟩ := HS.out (by intro e; rw [e] at hlt; simp at hlt)
        obtain ⟨c0, c1, c2⟩ := hs k hlt
        clear hs
        simp only [dieF] at c0 c1 c2
        rw [← HB.out.2.cell (p := ⟨b, _, none⟩) hb] at c0 c1 c2
        have hbz : b < wr.heap.size := by have := HB.out.2.size; omega
        have hsz := HB.out.2.size
        have HN : Hid (dieOk p.dies[k] = false → pressOk p = false) := Lib.hid fun h => press_die hlt h
        have HY : Hid (dieOk p.dies[k] = true → (p.dies.take (k + 1)).all dieOk = true) := Lib.hid fun h => by rw [all_snoc hlt, HA.out, h]; rfl
        have HD : Hid (dieOk p.dies[k] = (fromB p.dies[k].wide 1 20000 && withinB ⟨p.dies[k].wear.lo, p.dies[k].wear.hi⟩ 0 200)) := Lib.hid rfl
        generalize p.dies[k] = d at *
        clear HA
        cases h1 : fromB d.wide 1 20000 with
        | false =>
          have H1 := Lib.hid h1
          clear h1
          go_wp2_with fail
          refine (isFrom_any _ _ _ _).mono ?_
          rintro e w' ⟨he, rfl⟩
          rw [H1.out] at he
          subst he
          go_wp2_with fail
          go_ret
          exact ⟨ret_bool (HN.out (by rw [HD.out, H1.out]; rfl)).symm, HB.out.2.alloc hsz _⟩
        | true =>
          have H1 := Lib.hid h1
          clear h1
          go_wp2_with fail
          refine (isFrom_any _ _ _ _).mono ?_
          rintro e w' ⟨he, rfl⟩
          rw [H1.out] at he
          subst he
          go_wp2_with fail
          replace HB : Hid (Blk (wr.alloc (.cells #[.int .i64 d.wide, .int .i64 d.wear.lo, .int .i64 d.wear.hi] 49)) w.heap.size 26 #[.slice (some ⟨b, off, none⟩) p.dies.length c, .int .i64 p.shrink.lo, .int .i64 p.shrink.hi, .int .i64 p.change] ∧ Below w.heap.size w (wr.alloc (.cells #[.int .i64 d.wide, .int .i64 d.wear.lo, .int .i64 d.wear.hi] 49))) := Lib.hid ⟨HB.out.1.alloc _, HB.out.2.alloc hsz _⟩
          clear c0 c1 c2
          generalize World.alloc wr _ = W1 at HB ⊢
          refine (within_any _ _ _ _ _).mono ?_
          rintro e W2 ⟨he, hb1⟩
          replace HB : Hid (Blk W2 w.heap.size 26 #[.slice (some ⟨b, off, none⟩) p.dies.length c, .int .i64 p.shrink.lo, .int .i64 p.shrink.hi, .int .i64 p.change] ∧ Below w.heap.size w W2) := Lib.hid ⟨HB.out.1.below hb1 HB.out.1.lt, HB.out.2.trans (hb1.mono HB.out.2.size)⟩
          clear hb1
          cases h2 : withinB ⟨d.wear.lo, d.wear.hi⟩ 0 200 with
          | false =>
            rw [h2] at he
            subst he
            have H2 := Lib.hid h2
            clear h2
            go_wp2_with fail
            go_ret
            exact ⟨ret_bool (HN.out (by rw [HD.out, H1.out, H2.out]; rfl)).symm, HB.out.2⟩
          | true =>
            rw [h2] at he
            subst he
            have H2 := Lib.hid h2
            clear h2
            go_wp2_with fail
            go_roundw
            case rel => exact ⟨k + 1, by omega, by go_num, Lib.hid (HY.out (by rw [HD.out, H1.out, H2.out]; rfl)), HB⟩
            case measure => simp [intOf]; omega
      · obtain rfl : k = p.dies.length := by omega
        have HE : Hid (pressOk p = endB p.shrink p.change) := Lib.hid (press_end H14.out (by have := HA.out; rwa [List.take_length] at this))
        have x1 := HB.out.1.cell 1
        have x2 := HB.out.1.cell 2
        have x3 := HB.out.1.cell 3
        clear hlt hk HA
        go_wp2_with fail
        refine (within_any _ _ _ _ _).mono ?_
        rintro e W2 ⟨he, hb1⟩
        have x3 := ((HB.out.1.below hb1 HB.out.1.lt).cell 3)
        have HB2 := Lib.hid (HB.out.2.trans (hb1.mono HB.out.2.size))
        clear hb1
        cases h1 : withinB ⟨p.shrink.lo, p.shrink.hi⟩ 0 300 with
        | false =>
          rw [h1] at he
          subst he
          have H1 := Lib.hid h1
          clear h1
          go_wp2_with fail
          go_ret
          exact ⟨ret_bool (by rw [HE.out]; unfold endB; rw [show withinB p.shrink 0 300 = false from H1.out]; rfl), HB2.out⟩
        | true =>
          rw [h1] at he
          subst he
          have H1 := Lib.hid h1
          clear h1
          go_wp2_with fail
          refine (isFrom_any _ _ _ _).mono ?_
          rintro e w' ⟨rfl, rfl⟩
          go_wp2_with fail
          go_ret
          exact ⟨ret_bool (by rw [HE.out]; unfold endB; rw [show withinB p.shrink 0 300 = true from H1.out]; rfl), HB2.out⟩
end Go.Proofs.Ytdadgljllnkppaa
