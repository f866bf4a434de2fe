/- Walks: the document's Rows. -/
import Derived.Test.YtngoagfkcjkeoaaAf
namespace Go.Proofs.Ytngoagfkcjkeoaa
open Go.RowKit Go.Shelf

theorem below_drewN {B : Nat} {a w : World} (h : Below B a w) (n : Nat) : Below B a (w.drewN n) := ⟨h.os, h.tape, h.output, h.size, h.block⟩
theorem take_eq_next {α : Type} {a b : List α} {k : Nat} (ha : k < a.length) (hb : k < b.length) (h : a.take k = b.take k) (he : a[k] = b[k]) : a.take (k + 1) = b.take (k + 1) := by
  rw [List.take_succ_eq_append_getElem ha, List.take_succ_eq_append_getElem hb, h, he]
theorem at_ne {α : Type} {a b : List α} {k : Nat} (ha : k < a.length) (hb : k < b.length) (he : a[k] ≠ b[k]) : a ≠ b := fun h => by subst h; exact he rfl
def RetRw (O P : List (List Int)) (w : World) (e : Ending) (w' : World) : Prop := e = .returned (.bool (decide (O = P))) ∧ Below w.heap.size w w'
theorem row_at {W : World} {A : Option Addr} {O : List (List Int)} (h : RowSl W A O) {i : Nat} (hi : i < O.length) : ∃ g A' c', A = some ⟨g, 0, none⟩ ∧ g < W.heap.size ∧ W.cell? ⟨g, i, none⟩ = some (.slice A' O[i].length c') ∧ IntSl W W.heap.size A' O[i] := by
  obtain ⟨g, h1, h2, h3⟩ := h (by intro e; rw [e] at hi; simp at hi)
  obtain ⟨A', c', h4, h5⟩ := h3 i hi
  exact ⟨g, A', c', h1, h2, h4, h5⟩
set_option maxRecDepth 100000 in
set_option maxHeartbeats 2000000 in
theorem rRows_any (w : World) (A B : Option Addr) (c d : Nat) (O P : List (List Int)) (hn : O.length ≤ 9223372036854775806) (_hm : P.length ≤ 9223372036854775806) (hO : RowSl w A O) (hP : RowSl w B P) (hlO : ∀ x ∈ O, x.length ≤ 9223372036854775806) (hlP : ∀ x ∈ P, x.length ≤ 9223372036854775806) :
    Calls Try.prog 21 #[.slice A O.length c, .slice B P.length d] w (RetRw O P w) := by
  have HO := Lib.hid hO
  have HP := Lib.hid hP
  have HLO := Lib.hid hlO
  have HLP := Lib.hid hlP
  have HF : Hid (O ≠ P → ∀ W, Below w.heap.size w W → RetRw O P w (.returned (.bool false)) W) := Lib.hid fun h W hb => ⟨by rw [decide_eq_false h], hb⟩
  have HT : Hid (O = P → ∀ W, Below w.heap.size w W → RetRw O P w (.returned (.bool true)) W) := Lib.hid fun h W hb => ⟨by rw [decide_eq_true h], hb⟩
  generalize RetRw O P w = Q at *
  clear hO hP hlO hlP
  go_enter Try.func21, Try.ntmps21
  by_cases hln : O.length = P.length
  · have hne : (O.length == P.length) = true := by rw [beq_iff_eq]; exact hln
    have hnei : ((O.length : Int) == P.length) = true := by rw [beq_iff_eq]; omega
    have HLN := Lib.hid hln
    clear hln
    go_wp2_with fail
    go_loopw [5] (fun i wr => ∃ k : Nat, k ≤ O.length ∧ i = .int .i64 k ∧ Hid (O.take k = P.take k) ∧ Hid (Below w.heap.size w wr)) (fun i _ => O.length - (intOf i).toNat)
    case atStart => exact ⟨0, by omega, rfl, Lib.hid rfl, Lib.hid (Below.refl _ _)⟩
    case round =>
      obtain ⟨k, hk, rfl, HTK, HB⟩ := hrel
      rename World => V
      by_cases hlt : k < O.length
      · have hltP : k < P.length := by have := HLN.out; omega
        obtain ⟨g, A', c', rfl, hg, hc, hsl⟩ := row_at HO.out hlt
        obtain ⟨g2, B', d', rfl, hg2, hc2, hsl2⟩ := row_at HP.out hltP
        have hki : (k : Int) < O.length := by omega
        have hkj : (k : Int) < P.length := by omega
        have hk0 : (0 : Int) ≤ k := by omega
        have hoL := HLO.out O[k] (List.getElem_mem hlt)
        have hpL := HLP.out P[k] (List.getElem_mem hltP)
        rw [← HB.out.cell (p := ⟨g, k, none⟩) hg] at hc
        rw [← HB.out.cell (p := ⟨g2, k, none⟩) hg2] at hc2
        have HX : Hid (O[k] = P[k] → O.take (k + 1) = P.take (k + 1)) := Lib.hid fun h => take_eq_next hlt hltP HTK.out h
        have HN : Hid (O[k] ≠ P[k] → O ≠ P) := Lib.hid fun h => at_ne hlt hltP h
        have HSL := Lib.hid (hsl.on HB.out (Nat.le_refl _))
        have HSL2 := Lib.hid (hsl2.on HB.out (Nat.le_refl _))
        have HHC : Hid (∀ W, Below V.heap.size V W → W.cell? ⟨g, k, none⟩ = some (.slice A' O[k].length c') ∧ W.cell? ⟨g2, k, none⟩ = some (.slice B' P[k].length d')) := Lib.hid fun W h => ⟨(h.cell (p := ⟨g, k, none⟩) (Nat.lt_of_lt_of_le hg HB.out.size)).trans hc, (h.cell (p := ⟨g2, k, none⟩) (Nat.lt_of_lt_of_le hg2 HB.out.size)).trans hc2⟩
        clear hsl hsl2 HTK
        generalize O[k] = x at *
        generalize P[k] = y at *
        by_cases hxy : x.length = y.length
        · have hxe : (x.length == y.length) = true := by rw [beq_iff_eq]; exact hxy
          have hxi : ((x.length : Int) == y.length) = true := by rw [beq_iff_eq]; omega
          have HXY := Lib.hid hxy
          clear hxy
          go_wp2_with fail
          go_quiet (fail)
          have HB0 := Lib.hid (below_drewN (Below.refl V.heap.size V) nq)
          generalize World.drewN V _ = W0 at *
          have HBW := Lib.hid (HB.out.trans (HB0.out.mono HB.out.size))
          obtain ⟨hc3, hc4⟩ := HHC.out W0 HB0.out
          clear hc hc2
          go_wp2_with fail
          go_loopw [6] (fun i w9 => ∃ j : Nat, j ≤ x.length ∧ i = .int .i64 j ∧ Hid (x.take j = y.take j) ∧ Hid (Below V.heap.size V w9)) (fun i _ => x.length - (intOf i).toNat)
          case atStart => exact ⟨0, by omega, rfl, Lib.hid rfl, HB0⟩
          case round =>
            obtain ⟨j, hj, rfl, HTJ, HBJ⟩ := hrel
            obtain ⟨hc5, hc6⟩ := HHC.out wr HBJ.out
            clear hc3 hc4
            have HBX := Lib.hid (HB.out.trans (HBJ.out.mono HB.out.size))
            by_cases hjl : j < x.length
            · have hjm : j < y.length := by have := HXY.out; omega
              have hji : (j : Int) < x.length := by omega
              have hjk : (j : Int) < y.length := by omega
              have hj0 : (0 : Int) ≤ j := by omega
              obtain ⟨b, off, rfl, hb, hat⟩ := HSL.out (by intro e; rw [e] at hjl; simp at hjl)
              obtain ⟨b2, off2, rfl, hb2, hat2⟩ := HSL2.out (by intro e; rw [e] at hjm; simp at hjm)
              have x0 := hat j hjl
              have y0 := hat2 j hjm
              rw [← HBJ.out.cell (p := ⟨b, _, none⟩) hb] at x0
              rw [← HBJ.out.cell (p := ⟨b2, _, none⟩) hb2] at y0
              have HX2 : Hid (x[j] = y[j] → x.take (j + 1) = y.take (j + 1)) := Lib.hid fun h => take_eq_next hjl hjm HTJ.out h
              have HN2 : Hid (x[j] ≠ y[j] → x ≠ y) := Lib.hid fun h => at_ne hjl hjm h
              clear hat hat2 HTJ
              generalize x[j] = p at *
              generalize y[j] = q at *
              by_cases hpq : p = q
              · have hpe : (p == q) = true := by rw [beq_iff_eq]; exact hpq
                have HX3 := Lib.hid (HX2.out hpq)
                clear hpq HX2 HN2
                go_wp2_with fail
                go_quiet (fail)
                go_wp2_with fail
                go_roundw
                case rel => exact ⟨j + 1, by omega, by go_num, HX3, Lib.hid (below_drewN HBJ.out _)⟩
                case measure => exact meas9 hjl
              · have hpe : (p == q) = false := by rw [beq_eq_false_iff_ne]; exact hpq
                have HXN := Lib.hid (HF.out (HN.out (HN2.out hpq)))
                clear hpq HX2 HN2
                go_wp2_with fail
                go_quiet (fail)
                go_wp2_with fail
                exact HXN.out _ (below_drewN HBX.out _)
            · obtain rfl : j = x.length := by omega
              have HX3 := Lib.hid (HX.out (by
                have := HTJ.out
                rw [List.take_length, HXY.out, List.take_length] at this
                exact this))
              go_wp2_with fail
              go_roundw
              case rel => exact ⟨k + 1, by omega, by go_num, HX3, HBX⟩
              case measure => exact meas9 hlt
        · have hxe : (x.length == y.length) = false := by rw [beq_eq_false_iff_ne]; exact hxy
          have hxi : ((x.length : Int) == y.length) = false := by rw [beq_eq_false_iff_ne]; omega
          have HXN := Lib.hid (HF.out (HN.out fun e => hxy (by rw [e])))
          clear hxy HN HX
          go_wp2_with fail
          go_quiet (fail)
          go_wp2_with fail
          exact HXN.out _ (below_drewN HB.out _)
      · obtain rfl : k = O.length := by omega
        have HE := Lib.hid (HT.out (by
          have := HTK.out
          rw [List.take_length, HLN.out, List.take_length] at this
          exact this))
        go_wp2_with fail
        exact HE.out _ HB.out
  · have hne : (O.length == P.length) = false := by rw [beq_eq_false_iff_ne]; exact hln
    have hnei : ((O.length : Int) == P.length) = false := by rw [beq_eq_false_iff_ne]; omega
    have HXN := Lib.hid (HF.out fun e => hln (by rw [e]))
    clear hln
    go_wp2_with fail
    exact HXN.out _ (Below.refl _ _)
end Go.Proofs.Ytngoagfkcjkeoaa
