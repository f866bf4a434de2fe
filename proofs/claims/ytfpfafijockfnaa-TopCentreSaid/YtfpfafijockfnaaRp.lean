/- Made by program out of parts: Rp. -/
import Derived.Test.YtfpfafijockfnaaRows
import Derived.Test.YtfpfafijockfnaaWi
/- Walks of the document's own definitions (reference): a press, draws, widths. -/
namespace Go.Proofs.Ytfpfafijockfnaa
open Go.RowKit Go.Shelf

theorem press_parts3 {p : Press} (h2 : p.dies.all dieOk = true) : pressOk p = (fromB p.dies.length 1 4 && withinB ⟨p.shrink.lo, p.shrink.hi⟩ 0 300 && fromB p.change 0 10000) := by
  unfold pressOk endB; rw [h2]; simp [Bool.and_assoc]
set_option maxRecDepth 100000 in
set_option maxHeartbeats 2000000 in
theorem rpress_any (w : World) (A : Option Addr) (c : Nat) (p : Press) (hl : p.dies.length ≤ 9223372036854775807) (hA : DieSl w w.heap.size A p.dies) :
    Calls Try.prog 32 #[.agg #[.slice A p.dies.length c, .int .i64 p.shrink.lo, .int .i64 p.shrink.hi, .int .i64 p.change]] w (Ret (.bool (pressOk p)) w) := by
  have HS := Lib.hid hA
  clear hA
  have hl' : (p.dies.length : Int) ≤ 9223372036854775807 := by omega
  have hl0 : (0 : Int) ≤ p.dies.length := by omega
  go_enter Try.func32, Try.ntmps32
  go_wp2_with fail
  have HB : Hid (Blk (w.alloc (.cells #[.slice A p.dies.length c, .int .i64 p.shrink.lo, .int .i64 p.shrink.hi, .int .i64 p.change] 73)) w.heap.size 73 #[.slice A p.dies.length c, .int .i64 p.shrink.lo, .int .i64 p.shrink.hi, .int .i64 p.change] ∧ Below w.heap.size w (w.alloc (.cells #[.slice A p.dies.length c, .int .i64 p.shrink.lo, .int .i64 p.shrink.hi, .int .i64 p.change] 73))) := Lib.hid ⟨Blk.new _ _ _, (Below.refl _ _).alloc (Nat.le_refl _) _⟩
  generalize World.alloc w _ = W0 at HB ⊢
  go_loopw [3] (fun i wr => ∃ k : Nat, k ≤ p.dies.length ∧ i = .int .i64 k ∧ Hid ((p.dies.take k).all dieOk = true) ∧ Hid (Blk wr w.heap.size 73 #[.slice A p.dies.length c, .int .i64 p.shrink.lo, .int .i64 p.shrink.hi, .int .i64 p.change] ∧ Below w.heap.size w wr)) (fun i _ => p.dies.length - (intOf i).toNat)
  case atStart => exact ⟨0, by omega, rfl, Lib.hid (by simp), HB⟩
  case round =>
    clear HB
    obtain ⟨k, hk, rfl, HA, HB⟩ := hrel
    have x0 := HB.out.1.cell 0
    by_cases hlt : k < p.dies.length
    · obtain ⟨b, off, rfl, hb, hs⟩ := HS.out (by intro e; rw [e] at hlt; simp at hlt)
      obtain ⟨c0, c1, c2⟩ := hs k hlt
      clear hs
      simp only [dieF] at c0 c1 c2
      rw [← HB.out.2.cell (p := ⟨b, _, none⟩) hb] at c0 c1 c2
      have hbz : b < wr.heap.size := by have := HB.out.2.size; omega
      have hsz := HB.out.2.size
      have hk0 : (0 : Int) ≤ k := by omega
      have hkl : (k : Int) < p.dies.length := by omega
      have HN : Hid (dieOk p.dies[k] = false → pressOk p = false) := Lib.hid fun h => press_die hlt h
      have HY : Hid (dieOk p.dies[k] = true → (p.dies.take (k + 1)).all dieOk = true) := Lib.hid fun h => by rw [all_snoc hlt, HA.out, h]; rfl
      have HD : Hid (dieOk p.dies[k] = (fromB p.dies[k].wide 1 20000 && withinB ⟨p.dies[k].wear.lo, p.dies[k].wear.hi⟩ 0 200)) := Lib.hid rfl
      generalize p.dies[k] = d at *
      clear HA
      cases h1 : fromB d.wide 1 20000 with
      | false =>
        have H1 := Lib.hid h1
        clear h1
        go_wp2_with fail
        refine (rin_any _ _ _ _).mono ?_
        rintro e w' ⟨he, rfl⟩
        rw [H1.out] at he
        subst he
        go_wp2_with fail
        go_ret
        exact ⟨ret_bool (HN.out (by rw [HD.out, H1.out]; rfl)).symm, HB.out.2⟩
      | true =>
        have H1 := Lib.hid h1
        clear h1
        go_wp2_with fail
        refine (rin_any _ _ _ _).mono ?_
        rintro e w' ⟨he, rfl⟩
        rw [H1.out] at he
        subst he
        go_wp2_with fail
        refine (rspan_any _ _ _ _ _).mono ?_
        rintro e W2 ⟨he, hb1⟩
        replace HB : Hid (Blk W2 w.heap.size 73 #[.slice (some ⟨b, off, none⟩) p.dies.length c, .int .i64 p.shrink.lo, .int .i64 p.shrink.hi, .int .i64 p.change] ∧ Below w.heap.size w W2) := Lib.hid ⟨HB.out.1.below hb1 HB.out.1.lt, HB.out.2.trans (hb1.mono HB.out.2.size)⟩
        clear hb1 c0 c1 c2 x0
        cases h2 : withinB ⟨d.wear.lo, d.wear.hi⟩ 0 200 with
        | false =>
          rw [h2] at he
          subst he
          have H2 := Lib.hid h2
          clear h2
          go_wp2_with fail
          go_ret
          exact ⟨ret_bool (HN.out (by rw [HD.out, H1.out, H2.out]; rfl)).symm, HB.out.2⟩
        | true =>
          rw [h2] at he
          subst he
          have H2 := Lib.hid h2
          clear h2
          go_wp2_with fail
          go_roundw
          case rel => exact ⟨k + 1, by omega, by go_num, Lib.hid (HY.out (by rw [HD.out, H1.out, H2.out]; rfl)), HB⟩
          case measure => simp [intOf]; omega
    · obtain rfl : k = p.dies.length := by omega
      have HE : Hid (pressOk p = (fromB p.dies.length 1 4 && withinB ⟨p.shrink.lo, p.shrink.hi⟩ 0 300 && fromB p.change 0 10000)) := Lib.hid (press_parts3 (by have := HA.out; rwa [List.take_length] at this))
      have x1 := HB.out.1.cell 1
      have x2 := HB.out.1.cell 2
      clear hlt hk HA
      go_wp2_with fail
      refine (rin_any _ _ _ _).mono ?_
      rintro e w' ⟨he, rfl⟩
      cases h1 : fromB p.dies.length 1 4 with
      | false =>
        rw [h1] at he
        subst he
        have H1 := Lib.hid h1
        clear h1
        go_wp2_with fail
        go_ret
        exact ⟨ret_bool (by rw [HE.out, H1.out]; rfl), HB.out.2⟩
      | true =>
        rw [h1] at he
        subst he
        have H1 := Lib.hid h1
        clear h1
        go_wp2_with fail
        refine (rspan_any _ _ _ _ _).mono ?_
        rintro e W2 ⟨he, hb1⟩
        have x3 := ((HB.out.1.below hb1 HB.out.1.lt).cell 3)
        have HB2 := Lib.hid (HB.out.2.trans (hb1.mono HB.out.2.size))
        clear hb1
        cases h2 : withinB ⟨p.shrink.lo, p.shrink.hi⟩ 0 300 with
        | false =>
          rw [h2] at he
          subst he
          have H2 := Lib.hid h2
          clear h2
          go_wp2_with fail
          go_ret
          exact ⟨ret_bool (by rw [HE.out, H1.out, H2.out]; rfl), HB2.out⟩
        | true =>
          rw [h2] at he
          subst he
          have H2 := Lib.hid h2
          clear h2
          go_wp2_with fail
          refine (rin_any _ _ _ _).mono ?_
          rintro e w' ⟨rfl, rfl⟩
          go_wp2_with fail
          go_ret
          exact ⟨ret_bool (by rw [HE.out, H1.out, H2.out]; rfl), HB2.out⟩
end Go.Proofs.Ytfpfafijockfnaa

