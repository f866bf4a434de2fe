/- Walks: whether draws are valid; the first error. -/
import Derived.Test.YtdadgljllnkppaaVa
namespace Go.Proofs.Ytdadgljllnkppaa
open Go.RowKit Go.Shelf

theorem draws_long {l : List Draw} (h : ¬ l.length ≤ 8) : drawsOk l = false := by unfold drawsOk; rw [decide_eq_false h]; rfl
theorem draws_all {l : List Draw} (h : l.length ≤ 8) (h2 : l.all drawOk = true) : drawsOk l = true := by unfold drawsOk; rw [h2, decide_eq_true h]; rfl
theorem draws_no {l : List Draw} {k : Nat} (h : k < l.length) (hf : drawOk l[k] = false) : drawsOk l = false := by unfold drawsOk; rw [all_no h hf]; simp
set_option maxRecDepth 100000 in
set_option maxHeartbeats 2000000 in
theorem validDraws_any (w : World) (A : Option Addr) (c : Nat) (l : List Draw) (hl : l.length ≤ 9223372036854775807) (hA : DrawSl w w.heap.size A l) :
    Calls Try.prog 96 #[.slice A l.length c] w (Ret (.bool (drawsOk l)) w) := by
  have HS := Lib.hid hA
  clear hA
  have hl' : (l.length : Int) ≤ 9223372036854775807 := by omega
  have hl0 : (0 : Int) ≤ l.length := by omega
  by_cases h8 : l.length ≤ 8
  · have H8 := Lib.hid h8
    have h8' : (l.length : Int) ≤ 8 := by omega
    clear h8
    go_enter Try.func96, Try.ntmps96
    go_wp2_with fail
    go_loopw [10] (fun i wr => ∃ k : Nat, k ≤ l.length ∧ i = .int .i64 k ∧ Hid ((l.take k).all drawOk = true) ∧ Hid (Below w.heap.size w wr)) (fun i _ => l.length - (intOf i).toNat)
    case atStart => exact ⟨0, by omega, rfl, Lib.hid (by simp), Lib.hid (Below.refl _ _)⟩
    case round =>
      obtain ⟨k, hk, rfl, HA, HB⟩ := hrel
      by_cases hlt : k < l.length
      · obtain ⟨b, off, rfl, hb, hs⟩ := HS.out (by intro e; rw [e] at hlt; simp at hlt)
        obtain ⟨c0, c1, c2⟩ := hs k hlt
        clear hs
        simp only [drawF] at c0 c1 c2
        rw [← HB.out.cell (p := ⟨b, _, none⟩) hb] at c0 c1 c2
        have hbz : b < wr.heap.size := by have := HB.out.size; omega
        have hsz := HB.out.size
        have HN : Hid (drawOk l[k] = false → drawsOk l = false) := Lib.hid fun h => draws_no hlt h
        have HY : Hid (drawOk l[k] = true → (l.take (k + 1)).all drawOk = true) := Lib.hid fun h => by rw [all_snoc hlt, HA.out, h]; rfl
        have HD : Hid (drawOk l[k] = (fromB l[k].len 1 1000 && withinB ⟨l[k].want.lo, l[k].want.hi⟩ 0 20000)) := Lib.hid rfl
        generalize l[k] = d at *
        clear HA
        cases h1 : fromB d.len 1 1000 with
        | false =>
          have H1 := Lib.hid h1
          clear h1
          go_wp2_with fail
          refine (isFrom_any _ _ _ _).mono ?_
          rintro e w' ⟨he, rfl⟩
          rw [H1.out] at he
          subst he
          go_wp2_with fail
          go_ret
          exact ⟨ret_bool (HN.out (by rw [HD.out, H1.out]; rfl)).symm, HB.out.alloc hsz _⟩
        | true =>
          have H1 := Lib.hid h1
          clear h1
          go_wp2_with fail
          refine (isFrom_any _ _ _ _).mono ?_
          rintro e w' ⟨he, rfl⟩
          rw [H1.out] at he
          subst he
          go_wp2_with fail
          replace HB : Hid (Below w.heap.size w (wr.alloc (.cells #[.int .i64 d.len, .int .i64 d.want.lo, .int .i64 d.want.hi] 51))) := Lib.hid (HB.out.alloc hsz _)
          clear c0 c1 c2
          generalize World.alloc wr _ = W1 at HB ⊢
          refine (validWidth_any _ _ _).mono ?_
          rintro e W2 ⟨he, hb1⟩
          replace HB : Hid (Below w.heap.size w W2) := Lib.hid (HB.out.trans (hb1.mono HB.out.size))
          clear hb1
          cases h2 : withinB ⟨d.want.lo, d.want.hi⟩ 0 20000 with
          | false =>
            rw [h2] at he
            subst he
            have H2 := Lib.hid h2
            clear h2
            go_wp2_with fail
            go_ret
            exact ⟨ret_bool (HN.out (by rw [HD.out, H1.out, H2.out]; rfl)).symm, HB.out⟩
          | true =>
            rw [h2] at he
            subst he
            have H2 := Lib.hid h2
            clear h2
            go_wp2_with fail
            go_roundw
            case rel => exact ⟨k + 1, by omega, by go_num, Lib.hid (HY.out (by rw [HD.out, H1.out, H2.out]; rfl)), HB⟩
            case measure => simp [intOf]; omega
      · obtain rfl : k = l.length := by omega
        have HE : Hid (drawsOk l = true) := Lib.hid (draws_all H8.out (by have := HA.out; rwa [List.take_length] at this))
        clear hlt hk HA
        go_wp2_with fail
        go_ret
        exact ⟨ret_bool HE.out.symm, HB.out⟩
  · have HN := Lib.hid (draws_long h8)
    have h8' : (8 : Int) < l.length := by omega
    clear h8
    go_enter Try.func96, Try.ntmps96
    go_wp2_with fail
    go_ret
    exact ⟨ret_bool HN.out.symm, Below.refl _ _⟩

def errOf (p : Press) (l : List Draw) (o : Bool) : Int := if pressOk p = true then (if drawsOk l = true ∧ o = true then 0 else 2) else 1
set_option maxRecDepth 100000 in
set_option maxHeartbeats 2000000 in
theorem firstError_any (w : World) (A T : Option Addr) (c ct : Nat) (p : Press) (l : List Draw) (o : Bool) (hp : p.dies.length ≤ 9223372036854775807) (hl : l.length ≤ 9223372036854775807) (hA : DieSl w w.heap.size A p.dies) (hT : DrawSl w w.heap.size T l) :
    Calls Try.prog 60 #[.agg #[.slice A p.dies.length c, .int .i64 p.shrink.lo, .int .i64 p.shrink.hi, .int .i64 p.change], .slice T l.length ct, .bool o] w (Ret (.int .i64 (errOf p l o)) w) := by
  have hb0 : Below w.heap.size w (w.alloc (.cells #[.slice A p.dies.length c, .int .i64 p.shrink.lo, .int .i64 p.shrink.hi, .int .i64 p.change] 26)) := (Below.refl _ _).alloc (Nat.le_refl _) _
  have HP := Lib.hid (validPress_any (w.alloc (.cells #[.slice A p.dies.length c, .int .i64 p.shrink.lo, .int .i64 p.shrink.hi, .int .i64 p.change] 26)) A c p hp (hA.on hb0 (Nat.le_refl _)))
  have HT := Lib.hid (hT.on hb0 (Nat.le_refl _))
  have HL := Lib.hid hl
  have HB := Lib.hid hb0
  clear hp hl hA hT hb0
  cases h1 : pressOk p with
  | false =>
    have H1 := Lib.hid h1
    rw [h1] at HP
    clear h1
    go_enter Try.func60, Try.ntmps60
    go_wp2_with fail
    refine HP.out.mono ?_
    rintro e W1 ⟨rfl, hb1⟩
    have HB1 := Lib.hid (HB.out.trans (hb1.mono HB.out.size))
    clear hb1
    go_wp2_with fail
    go_ret
    exact ⟨ret_int (by unfold errOf; rw [H1.out]; rfl), HB1.out⟩
  | true =>
    have H1 := Lib.hid h1
    rw [h1] at HP
    clear h1
    cases h2 : drawsOk l with
    | false =>
      have H2 := Lib.hid h2
      clear h2
      go_enter Try.func60, Try.ntmps60
      go_wp2_with fail
      refine HP.out.mono ?_
      rintro e W1 ⟨rfl, hb1⟩
      have HB1 := Lib.hid (HB.out.trans (hb1.mono HB.out.size))
      replace HT := Lib.hid (HT.out.on hb1 (Nat.le_refl _))
      clear hb1
      go_wp2_with fail
      refine (validDraws_any _ _ _ _ HL.out HT.out).mono ?_
      rintro e W2 ⟨he, hb1⟩
      rw [H2.out] at he
      subst he
      have HB2 := Lib.hid (HB1.out.trans (hb1.mono HB1.out.size))
      clear hb1
      go_wp2_with fail
      go_ret
      exact ⟨ret_int (by unfold errOf; rw [H1.out, H2.out]; rfl), HB2.out⟩
    | true =>
      have H2 := Lib.hid h2
      clear h2
      cases o
      all_goals
        go_enter Try.func60, Try.ntmps60
        go_wp2_with fail
        refine HP.out.mono ?_
        rintro e W1 ⟨rfl, hb1⟩
        have HB1 := Lib.hid (HB.out.trans (hb1.mono HB.out.size))
        replace HT := Lib.hid (HT.out.on hb1 (Nat.le_refl _))
        clear hb1
        go_wp2_with fail
        refine (validDraws_any _ _ _ _ HL.out HT.out).mono ?_
        rintro e W2 ⟨he, hb1⟩
        rw [H2.out] at he
        subst he
        have HB2 := Lib.hid (HB1.out.trans (hb1.mono HB1.out.size))
        clear hb1
        go_wp2_with fail
        go_ret
        exact ⟨ret_int (by unfold errOf; rw [H1.out, H2.out]; rfl), HB2.out⟩
end Go.Proofs.Ytdadgljllnkppaa
