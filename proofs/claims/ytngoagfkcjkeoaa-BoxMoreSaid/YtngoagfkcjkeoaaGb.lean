/- Walks: the law's own check of an assignment. -/
import Derived.Test.YtngoagfkcjkeoaaGa
import Derived.Test.YtngoagfkcjkeoaaAi
import Derived.Test.YtngoagfkcjkeoaaRg
import Derived.Laws.MakeOwn
namespace Go.Proofs.Ytngoagfkcjkeoaa
open Go.RowKit Go.Shelf

structure GoW (w : World) (S : List Int) (W : World) : Prop where
  hb : Below w.heap.size w W
  ks : Blk W w.heap.size 3 (intsV9 S).toArray
theorem GoW.call {w : World} {S : List Int} {W W' : World} (h : GoW w S W) (hb : Below W.heap.size W W') : GoW w S W' := ⟨h.hb.trans (hb.mono h.hb.size), h.ks.below hb h.ks.lt⟩
theorem GoW.put {w : World} {S : List Int} {W : World} (h : GoW w S W) (k : Nat) (x : Int) : GoW w (S.set k x) (W.setCell ⟨w.heap.size, k, none⟩ (.int .i64 x)) :=
  ⟨h.hb.setCell (p := ⟨w.heap.size, k, none⟩) (Nat.le_refl _) _, by have := h.ks.set_ k (.int .i64 x); rwa [intsV9_set] at this⟩
theorem GoW.at {w : World} {S : List Int} {W : World} (h : GoW w S W) {k : Nat} (hk : k < S.length) : W.cell? ⟨w.heap.size, k, none⟩ = some (.int .i64 S[k]) := by
  rw [h.ks.cell]
  unfold intsV9
  simp [hk]
theorem made_ints (N : Nat) (hN : N ≤ 8) (W : World) : (Instr.makeSlice 22 (.int .i64 (N : Int)) (.int .i64 (N : Int))).run Try.prog W = .ok (.slice (some ⟨W.heap.size, 0, none⟩) N N) (W.alloc (.cells (intsV9 (List.replicate N 0)).toArray 3)) := by
  obtain ⟨i, hi, hz, hs, hb⟩ := info9 intInfo9
  have hr := run_make (P := Try.prog) W 22 3 i _ (by kernel_rfl) hi hz .i64 .i64 N N (by omega) (Int.le_refl _) (by rw [hb]; omega) (by omega)
  rw [hs, Int.toNat_natCast] at hr
  rw [hr]
  have : madeCells (Value.int .i64 0).cells (N * 1) = (intsV9 (List.replicate N 0)).toArray := by
    refine Array.ext (by simp [size_madeCells, intsV9]) fun k h1 h2 => ?_
    simp [madeCells, intsV9, Value.cells, Nat.mod_one]
  rw [this]
theorem own_setFar9 {W : World} {B : Nat} {e : TypeId} {size : Nat} {v : Value} {k : Nat} {xs : List Value} (h : W.ownsRow B e size v k xs) {g : Nat} (hg : g < B) (o : Nat) (u : Value) : (W.setCell ⟨g, o, none⟩ u).ownsRow B e size v k xs := by
  refine ⟨h.1, ?_⟩
  rcases h.2 with h2 | ⟨g', cap, cur, h1, h2, h3, h4⟩
  · exact .inl h2
  · exact .inr ⟨g', cap, cur, h1, h2, (Below.heap_setCell W ⟨g, o, none⟩ u g' (by simp only []; omega)).trans h3, h4⟩
def RetGo (O : List (List Int)) (w : World) (e : Ending) (w' : World) : Prop := ∃ A c, e = .returned (.tuple #[.slice A O.length c, .bool true]) ∧ IntSl w' w'.heap.size A (O.map List.sum) ∧ Below w.heap.size w w'
set_option maxRecDepth 100000 in
set_option maxHeartbeats 8000000 in
theorem good_any (w : World) (A B C : Option Addr) (c d e9 : Nat) (need : List Int) (l : List Pile) (b : Int) (O : List (List Int)) (h8 : need.length ≤ 8) (hn48 : ∀ n ∈ need, 0 ≤ n ∧ n ≤ 48) (hP : PilesIn l) (hb : 0 ≤ b ∧ b ≤ 1048576) (hG : GoodP need l b O) (hA : IntSl w w.heap.size A need) (hB : PileSl w w.heap.size B l) (hC : RowSl w C O) :
    Calls Try.prog 25 #[.slice A need.length c, .slice B l.length d, .int .i64 b, .slice C O.length e9] w (RetGo O w) := by
  have HG := Lib.hid hG
  have HA := Lib.hid hA
  have HB := Lib.hid hB
  have HC := Lib.hid hC
  have HPI := Lib.hid hP
  have HN := Lib.hid hn48
  have hl8 := hP.1
  have hOl : (O.length == l.length) = true := by rw [beq_iff_eq]; exact hG.len
  have hOi : ((O.length : Int) == l.length) = true := by rw [beq_iff_eq, hG.len]
  have hObn : ((O.length : Int) != l.length) = false := by rw [bne, hOi]; rfl
  have HOL := Lib.hid hG.len
  have hmk := made_ints need.length h8
  have hm0 : (0 : Int) ≤ need.length := by omega
  have hm1 : (need.length : Int) ≤ 8 := by omega
  have hl0 : (0 : Int) ≤ l.length := by omega
  have hl1 : (l.length : Int) ≤ 8 := by omega
  have HW0 : Hid (GoW w (soldL O need.length 0 0) (w.alloc (.cells (intsV9 (List.replicate need.length 0)).toArray 3))) := Lib.hid ⟨(Below.refl _ _).alloc (Nat.le_refl _) _, by rw [soldL_zero]; exact Blk.new _ _ _⟩
  obtain ⟨i0, hi, hz0, hz1, hz2⟩ := info9 intInfo9
  have HI := Lib.hid (And.intro hi (And.intro hz0 (And.intro hz1 hz2)))
  clear hi hz0 hz1 hz2 hG hA hB hC hP hn48
  go_enter Try.func25, Try.ntmps25
  go_wp2_with fail
  generalize World.alloc w _ = w1 at *
  clear hmk
  go_loopw [11, 12] (fun v i wr => ∃ (k : Nat) (s0 : Value), k ≤ l.length ∧ s0 = v ∧ i = .int .i64 k ∧ Hid (GoW w (soldL O need.length k 0) wr) ∧ Hid (wr.ownsRow (w.heap.size + 1) 3 1 s0 k (intsV9 ((O.take k).map List.sum)))) (fun _ i _ => l.length - (intOf i).toNat)
  case atStart => exact ⟨0, _, by omega, rfl, rfl, HW0, Lib.hid (World.ownsRow_nil _ _ _ _)⟩
  case round =>
    obtain ⟨i, s0, hk, rfl, rfl, HW, HO⟩ := hrel
    rename World => V
    by_cases hlt : i < l.length
    · have hltO : i < O.length := by rw [HOL.out]; exact hlt
      have hii : (i : Int) < l.length := by omega
      have hiO : (i : Int) < O.length := by omega
      have hi0' : (0 : Int) ≤ i := by omega
      obtain ⟨g, A', c', rfl, hg, hc, hsl⟩ := row_at HC.out hltO
      obtain ⟨gb, offb, rfl, hgb, hatb⟩ := HB.out (by intro e; rw [e] at hlt; simp at hlt)
      obtain ⟨p0, p1⟩ := hatb i hlt
      obtain ⟨r1, r2, r3⟩ := HG.out.row i hlt
      have hOi2 : O.getD i [] = O[i] := by rw [List.getD_eq_getElem?_getD, List.getElem?_eq_getElem hltO, Option.getD_some]
      rw [hOi2] at r1 r2 r3
      obtain ⟨⟨q0, q1⟩, q2, q3⟩ := HPI.out.2 l[i] (List.getElem_mem hlt)
      obtain ⟨o, ho⟩ : ∃ o : Nat, l[i].shades = (o : Int) := ⟨l[i].shades.toNat, by omega⟩
      have ho8 : o < 256 := by omega
      have HR3 : Hid (∀ t, 0 ≤ O[i].getD t 0 ∧ (0 < O[i].getD t 0 → o.testBit t = true)) := Lib.hid fun t => by
        have := r3 t
        rw [ho, Int.toNat_natCast] at this
        exact this
      rw [ho] at p0
      have HUN := Lib.hid (used_next hltO)
      have HSR := Lib.hid (soldL_row (m := need.length) hltO)
      have HSS : Hid (∀ s, s < need.length → (soldL O need.length i s).set s (colP O i s + O[i].getD s 0) = soldL O need.length i (s + 1)) := Lib.hid fun s hs => by rw [← hOi2]; exact soldL_set hs
      have HSA : Hid (∀ s (hs : s < need.length), (soldL O need.length i s)[s]'(by rw [soldL_len]; exact hs) = colP O i s) := Lib.hid fun s hs => by rw [soldL_at hs, if_neg (by omega)]; omega
      have HBD : Hid (∀ s, s < need.length → (0 ≤ colP O i s ∧ colP O i s ≤ 50331648) ∧ colP O (i + 1) s ≤ 50331648 ∧ colP O (i + 1) s = colP O i s + O[i].getD s 0) := Lib.hid fun s hs => by
        obtain ⟨n0, n1⟩ := HN.out need[s] (List.getElem_mem hs)
        have e1 : b * need[s] ≤ 1048576 * 48 := Int.mul_le_mul hb.2 n1 n0 (by omega)
        have h1 := colP_bd HG.out (i := i) hs
        have h2 := colP_bd HG.out (i := i + 1) hs
        have h3 := colP_next hltO s
        rw [hOi2] at h3
        refine ⟨⟨h1.1, by omega⟩, by omega, h3⟩
      have HRS : Hid (∀ s, s ≤ need.length → 0 ≤ (O[i].take s).sum ∧ (O[i].take s).sum ≤ 1048576) := Lib.hid fun s hs => by
        have := sum_part O[i] s (getD_mem fun t => (HR3.out t).1)
        omega
      have HRX : Hid (∀ s (hs : s < O[i].length), (O[i].take (s + 1)).sum = (O[i].take s).sum + O[i][s]) := Lib.hid fun s hs => row_next hs
      rw [← HW.out.hb.cell (p := ⟨g, i, none⟩) hg] at hc
      rw [r1] at hc
      generalize O[i] = row at *
      generalize l[i].many = mn at *
      have hln1 : (row.length == need.length) = true := by rw [beq_iff_eq]; exact r1
      have hmni : ¬ mn < row.sum := by omega
      clear hOi2 r3 q0 q1 ho hatb
      have HSL := Lib.hid hsl
      have HRL := Lib.hid r1
      clear hsl r1
      go_wp2_with fail
      go_loopw [13, 14] (fun n q U => ∃ s : Nat, s ≤ need.length ∧ q = .int .i64 s ∧ n = .int .i64 (row.take s).sum ∧ Hid (GoW w (soldL O need.length i s) U) ∧ Hid (Below V.heap.size V U → True) ∧ Hid (U.ownsRow (w.heap.size + 1) 3 1 s0 i (intsV9 ((O.take i).map List.sum))) ∧ Hid (∀ p : Addr, p.block < w.heap.size → U.cell? p = V.cell? p)) (fun _ q _ => need.length - (intOf q).toNat)
      case atStart => exact ⟨0, by omega, rfl, by simp, HW, Lib.hid fun _ => trivial, HO, Lib.hid fun _ _ => rfl⟩
      case round =>
        obtain ⟨s, hs, rfl, rfl, HW1, -, HO1, HKV⟩ := hrel
        rename World => U
        by_cases hsl : s < need.length
        · have hsi : (s : Int) < need.length := by omega
          have hs0 : (0 : Int) ≤ s := by omega
          have hs8 : s < 8 := by omega
          have hsr : s < row.length := by rw [HRL.out]; exact hsl
          obtain ⟨gr, offr, rfl, hgr, hatr⟩ := HSL.out (by intro e; rw [e] at hsr; simp at hsr)
          have x0 := hatr s hsr
          have hgi : row.getD s 0 = row[s] := by rw [List.getD_eq_getElem?_getD, List.getElem?_eq_getElem hsr, Option.getD_some]
          obtain ⟨b1, b2, b3⟩ := HBD.out s hsl
          obtain ⟨t1, t2⟩ := HR3.out s
          obtain ⟨u1, u2⟩ := HRS.out s hs
          obtain ⟨u3, u4⟩ := HRS.out (s + 1) (by omega)
          have HRX1 := Lib.hid (HRX.out s hsr)
          have hrx := HRX.out s hsr
          have HSS1 := Lib.hid (HSS.out s hsl)
          rw [hgi] at t1 t2 b3 HSS1
          have hy := HW1.out.at (k := s) (by rw [soldL_len]; exact hsl)
          rw [HSA.out s hsl] at hy
          rw [← HW1.out.hb.cell (p := ⟨gr, _, none⟩) hgr] at x0
          have hc1 : U.cell? ⟨g, i, none⟩ = some (.slice (some ⟨gr, offr, none⟩) need.length c') := (HKV.out ⟨g, i, none⟩ hg).trans hc
          have hp0 : U.cell? ⟨gb, offb + i * 2, none⟩ = some (.int .i64 (o : Int)) := (HW1.out.hb.cell (p := ⟨gb, _, none⟩) hgb).trans p0
          clear hatr hgi
          generalize row[s] = x at *
          generalize colP O i s = y at *
          have hw1 : IntKind.i64.wrap ((row.take s).sum + x) = (row.take s).sum + x := IntWalk.i64_in _ ⟨by omega, by omega⟩
          have hw2 : IntKind.i64.wrap (y + x) = y + x := IntWalk.i64_in _ ⟨by omega, by omega⟩
          have hx0 : ¬ x < 0 := by omega
          have HTB := Lib.hid t2
          generalize hns : (row.take s).sum = ns at *
          clear t1 t2 b1 b2 b3 u1 u2 u3 u4 hns
          clear hrx
          go_upto_region 14 with fail
          go_cut [71] (fun v wx => v = .bool false ∧ U = wx)
          case first =>
            by_cases hxp : 0 < x
            · go_wp2_with fail
              refine (rHas_any o s _ (by omega) (by omega)).mono ?_
              rintro e w' ⟨rfl, rfl⟩
              rw [HTB.out hxp]
              go_wp2_with fail
              go_meet
              exact ⟨rfl, rfl⟩
            · go_wp2_with fail
              go_meet
              exact ⟨rfl, rfl⟩
          case rest =>
            obtain ⟨hv, hU⟩ := hcut
            subst hv
            subst hU
            go_upto_region 17 with fail
            have HW6 : Hid (GoW w (soldL O need.length i s) U.drew ∧ U.drew.ownsRow (w.heap.size + 1) 3 1 s0 i (intsV9 ((O.take i).map List.sum)) ∧ ∀ p : Addr, p.block < w.heap.size → U.drew.cell? p = V.cell? p) := Lib.hid ⟨HW1.out.call (Below.refl _ _).drew, own_low9 HO1.out (Below.refl _ _).drew, HKV.out⟩
            have HSD : Hid (U.drew.cell? ⟨g, i, none⟩ = some (.slice (some ⟨gr, offr, none⟩) need.length c') ∧ U.drew.cell? ⟨gr, offr + s, none⟩ = some (.int .i64 x) ∧ U.drew.cell? ⟨w.heap.size, s, none⟩ = some (.int .i64 y)) := Lib.hid ⟨hc1, x0, hy⟩
            have HZ : Hid (U.drew.cell? ⟨w.heap.size, s, none⟩ = some (.int .i64 y) ∧ U.drew.frozen? ⟨w.heap.size, s, none⟩ = false) := Lib.hid ⟨hy, (HW1.out.call (Below.refl _ _).drew).ks.frozen s⟩
            have HPUT : Hid (∀ X : World, (GoW w (soldL O need.length i s) X ∧ X.ownsRow (w.heap.size + 1) 3 1 s0 i (intsV9 ((O.take i).map List.sum)) ∧ ∀ p : Addr, p.block < w.heap.size → X.cell? p = V.cell? p) → (GoW w (soldL O need.length i (s + 1)) (X.setCell ⟨w.heap.size, s, none⟩ (.int .i64 (y + x))) ∧ (X.setCell ⟨w.heap.size, s, none⟩ (.int .i64 (y + x))).ownsRow (w.heap.size + 1) 3 1 s0 i (intsV9 ((O.take i).map List.sum)) ∧ ∀ p : Addr, p.block < w.heap.size → (X.setCell ⟨w.heap.size, s, none⟩ (.int .i64 (y + x))).cell? p = V.cell? p)) := Lib.hid fun X h => ⟨by rw [← HSS1.out]; exact h.1.put s _, own_setFar9 h.2.1 (by omega) s _, fun p hp => (((Below.refl w.heap.size X).setCell (p := ⟨w.heap.size, s, none⟩) (Nat.le_refl _) _).cell hp).trans (h.2.2 p hp)⟩
            clear hy hc1 x0 hp0 HW1 HO1 HKV HSS1
            refine C_begin (S := fun W9 => W9.cell? ⟨g, i, none⟩ = some (.slice (some ⟨gr, offr, none⟩) need.length c') ∧ W9.cell? ⟨gr, offr + s, none⟩ = some (.int .i64 x) ∧ W9.cell? ⟨w.heap.size, s, none⟩ = some (.int .i64 y)) (c := 15) (by kernel_rfl) ?_
            generalize World.drew _ = V0 at *
            have hSd := (show (fun W9 => W9.cell? ⟨g, i, none⟩ = some (.slice (some ⟨gr, offr, none⟩) need.length c') ∧ W9.cell? ⟨gr, offr + s, none⟩ = some (.int .i64 x) ∧ W9.cell? ⟨w.heap.size, s, none⟩ = some (.int .i64 y)) V0 from HSD.out)
            refine C_take (i := 0) (v := ?v17_0) rfl (by kernel_rfl) (fun _ _ _ h => h) (Or.inl ⟨by rfl, ?y17_0⟩) (Or.inr hSd) ?r17_0
            case y17_0 => (intro w0 _; go_simp; try with_reducible rfl)
            try simp only [Act.put, List.getElem_toArray, List.getElem_cons_zero, List.setIfInBounds_toArray, List.set_cons_zero, List.set_cons_succ]
            refine C_take (i := 1) (v := ?v17_1) rfl (by kernel_rfl) (fun _ _ _ h => h) (Or.inl ⟨by rfl, ?y17_1⟩) (Or.inr hSd) ?r17_1
            case y17_1 => (intro w0 _; go_simp; try with_reducible rfl)
            try simp only [Act.put, List.getElem_toArray, List.getElem_cons_succ, List.getElem_cons_zero, List.setIfInBounds_toArray, List.set_cons_zero, List.set_cons_succ]
            refine C_take (i := 2) (v := ?v17_2) rfl (by kernel_rfl) (fun _ _ _ h => h) (Or.inl ⟨by rfl, ?y17_2⟩) (Or.inr hSd) ?r17_2
            case y17_2 => (intro w0 _; go_simp; try with_reducible rfl)
            try simp only [Act.put, List.getElem_toArray, List.getElem_cons_succ, List.getElem_cons_zero, List.setIfInBounds_toArray, List.set_cons_zero, List.set_cons_succ]
            refine C_take (i := 3) (v := ?v17_3) rfl (by kernel_rfl) (fun _ _ _ h => h) (Or.inl ⟨by rfl, ?y17_3⟩) (Or.inr hSd) ?r17_3
            case y17_3 => (intro w0 _; go_simp; try with_reducible rfl)
            try simp only [Act.put, List.getElem_toArray, List.getElem_cons_succ, List.getElem_cons_zero, List.setIfInBounds_toArray, List.set_cons_zero, List.set_cons_succ]
            refine C_take (i := 4) (v := ?v17_4) rfl (by kernel_rfl) (fun _ _ _ h => h) (Or.inl ⟨by rfl, ?y17_4⟩) (Or.inr hSd) ?r17_4
            case y17_4 => (intro w0 _; go_simp; try with_reducible rfl)
            try simp only [Act.put, List.getElem_toArray, List.getElem_cons_succ, List.getElem_cons_zero, List.setIfInBounds_toArray, List.set_cons_zero, List.set_cons_succ]
            refine C_load (i := 5) (v := ?v17_5) [15] rfl (by kernel_rfl) (fun _ _ _ h => h) (Or.inl ⟨by rfl, ?y17_5⟩) hSd ?r17_5
            case y17_5 => ((intro w0 hSw; obtain ⟨y0, y1, y2⟩ := hSw; go_simp); try with_reducible rfl)
            try simp only [Act.put, List.getElem_toArray, List.getElem_cons_succ, List.getElem_cons_zero, List.setIfInBounds_toArray, List.set_cons_zero, List.set_cons_succ]
            refine C_take (i := 6) (v := ?v17_6) rfl (by kernel_rfl) (fun _ _ _ h => h) (Or.inl ⟨by rfl, ?y17_6⟩) (Or.inr hSd) ?r17_6
            case y17_6 => (intro w0 _; go_simp; try with_reducible rfl)
            try simp only [Act.put, List.getElem_toArray, List.getElem_cons_succ, List.getElem_cons_zero, List.setIfInBounds_toArray, List.set_cons_zero, List.set_cons_succ]
            refine C_take (i := 7) (v := ?v17_7) rfl (by kernel_rfl) (fun _ _ _ h => h) (Or.inl ⟨by rfl, ?y17_7⟩) (Or.inr hSd) ?r17_7
            case y17_7 => (intro w0 _; go_simp; try with_reducible rfl)
            try simp only [Act.put, List.getElem_toArray, List.getElem_cons_succ, List.getElem_cons_zero, List.setIfInBounds_toArray, List.set_cons_zero, List.set_cons_succ]
            refine C_take (i := 8) (v := ?v17_8) rfl (by kernel_rfl) (fun _ _ _ h => h) (Or.inl ⟨by rfl, ?y17_8⟩) (Or.inr hSd) ?r17_8
            case y17_8 => (intro w0 _; go_simp; try with_reducible rfl)
            try simp only [Act.put, List.getElem_toArray, List.getElem_cons_succ, List.getElem_cons_zero, List.setIfInBounds_toArray, List.set_cons_zero, List.set_cons_succ]
            refine C_load (i := 9) (v := ?v17_9) [15] rfl (by kernel_rfl) (fun _ _ _ h => h) (Or.inl ⟨by rfl, ?y17_9⟩) hSd ?r17_9
            case y17_9 => ((intro w0 hSw; obtain ⟨y0, y1, y2⟩ := hSw; go_simp); try with_reducible rfl)
            try simp only [Act.put, List.getElem_toArray, List.getElem_cons_succ, List.getElem_cons_zero, List.setIfInBounds_toArray, List.set_cons_zero, List.set_cons_succ]
            refine C_take (i := 10) (v := ?v17_10) rfl (by kernel_rfl) (fun _ _ _ h => h) (Or.inl ⟨by rfl, ?y17_10⟩) (Or.inr hSd) ?r17_10
            case y17_10 => (intro w0 _; go_simp; try with_reducible rfl)
            try simp only [Act.put, List.getElem_toArray, List.getElem_cons_succ, List.getElem_cons_zero, List.setIfInBounds_toArray, List.set_cons_zero, List.set_cons_succ]
            refine C_take (i := 11) (v := ?v17_11) rfl (by kernel_rfl) (fun _ _ _ h => h) (Or.inl ⟨by rfl, ?y17_11⟩) (Or.inr hSd) ?r17_11
            case y17_11 => (intro w0 _; go_simp; try with_reducible rfl)
            try simp only [Act.put, List.getElem_toArray, List.getElem_cons_succ, List.getElem_cons_zero, List.setIfInBounds_toArray, List.set_cons_zero, List.set_cons_succ]
            refine C_load (i := 12) (v := ?v17_12) [15] rfl (by kernel_rfl) (fun _ _ _ h => h) (Or.inl ⟨by rfl, ?y17_12⟩) hSd ?r17_12
            case y17_12 => ((intro w0 hSw; obtain ⟨y0, y1, y2⟩ := hSw; go_simp); try with_reducible rfl)
            try simp only [Act.put, List.getElem_toArray, List.getElem_cons_succ, List.getElem_cons_zero, List.setIfInBounds_toArray, List.set_cons_zero, List.set_cons_succ]
            refine C_take (i := 13) (v := ?v17_13) rfl (by kernel_rfl) (fun _ _ _ h => h) (Or.inl ⟨by rfl, ?y17_13⟩) (Or.inr hSd) ?r17_13
            case y17_13 => (intro w0 _; go_simp; try with_reducible rfl)
            try simp only [Act.put, List.getElem_toArray, List.getElem_cons_succ, List.getElem_cons_zero, List.setIfInBounds_toArray, List.set_cons_zero, List.set_cons_succ]
            refine C_take (i := 14) (v := ?v17_14) rfl (by kernel_rfl) (fun _ _ _ h => h) (Or.inl ⟨by rfl, ?y17_14⟩) (Or.inr hSd) ?r17_14
            case y17_14 => (intro w0 _; go_simp; try with_reducible rfl)
            try simp only [Act.put, List.getElem_toArray, List.getElem_cons_succ, List.getElem_cons_zero, List.setIfInBounds_toArray, List.set_cons_zero, List.set_cons_succ]
            refine C_one (i := 15) rfl (by kernel_rfl) (fun K hK => ?_)
            rw [if_pos (by rfl)]
            have z0 := HZ.out.1
            have z1 := HZ.out.2
            go_simp
            have HW7 := Lib.hid (HPUT.out _ HW6.out)
            clear z0 z1
            refine hK _ _ (.inl (by kernel_rfl)) ?_
            clear hK K
            try clear hSd
            try simp only [Act.put, List.getElem_toArray, List.getElem_cons_succ, List.getElem_cons_zero, List.setIfInBounds_toArray, List.set_cons_zero, List.set_cons_succ]
            refine C_done (by kernel_rfl) ?_ _
            generalize World.setCell V0 _ _ = V5 at *
            go_wp2_with fail
            go_roundw
            case rel => exact ⟨s + 1, by omega, by go_num, by rw [HRX1.out], Lib.hid HW7.out.1, Lib.hid fun _ => trivial, Lib.hid HW7.out.2.1, Lib.hid HW7.out.2.2⟩
            case measure => exact meas9 hsl
        · obtain rfl : s = need.length := by omega
          have hts : (row.take need.length).sum = row.sum := by rw [List.take_of_length_le (by rw [HRL.out]; omega)]
          have hmany : U.cell? ⟨gb, offb + i * 2 + 1, none⟩ = some (.int .i64 mn) := (HW1.out.hb.cell (p := ⟨gb, _, none⟩) hgb).trans p1
          have hb6 : Below U.heap.size U (U.alloc (.cells #[.int .i64 row.sum] 3)) := (Below.refl _ _).alloc (Nat.le_refl _) _
          have HO5 := Lib.hid (own_low9 HO1.out hb6)
          have HW5 := Lib.hid (HW1.out.call hb6)
          have hsz : w.heap.size + 1 ≤ (U.alloc (.cells #[.int .i64 row.sum] 3)).heap.size := by have h1 := HW1.out.ks.lt; have h2 := hb6.size; omega
          have hi10 : i ≤ 10 := by omega
          have HBK := Lib.hid (Blk.new U 3 #[.int .i64 row.sum])
          rw [hts]
          clear hb6 HW1 HO1 HKV hts hs hc p0 p1 HRS HRX HBD HSA HSS HR3
          generalize row.sum = rs at *
          go_wp2_with (at_builtin; refine wpList_append_own _ rfl _ _ 22 rfl (w.heap.size + 1) 3 i0 _ 1 8 und_ints9 HI.out.1 HI.out.2.1 HI.out.2.2.1 HI.out.2.2.2 rfl (by decide) s0 i (intsV9 ((O.take i).map List.sum)) rfl HO5.out ⟨U.heap.size, 0, none⟩ 1 1 (intsV9 [rs]) rfl rfl (one_news9 (HBK.out.cell 0)) (intsV9_one _) (by unfold maxLen; omega) (by omega) hsz ?_; intro v' w2 hown hgr hnn; clear hnn; have HO6 := Lib.hid hown; have HG6 := Lib.hid hgr; clear hown hgr)
          go_roundw
          case rel => exact ⟨i + 1, _, by omega, rfl, by go_num, Lib.hid (by rw [← HSR.out]; exact ⟨Below.grown HW5.out.hb HG6.out (Nat.le_trans (Nat.le_succ _) hsz) fun j e => by have := (HO5.out.lt j e).1; omega, HW5.out.ks.kept HG6.out fun e => by have := (HO5.out.lt _ e.symm).1; omega⟩), Lib.hid (by rw [HUN.out]; have := HO6.out; unfold intsV9 at this ⊢; rwa [← List.map_append] at this)⟩
          case measure => exact meas9 hlt
    · obtain rfl : i = l.length := by omega
      have HCO : Hid (∀ k (h : k < need.length), (soldL O need.length l.length 0)[k]'(by rw [soldL_len]; exact h) = b * need[k]) := Lib.hid fun k h => by
        rw [soldL_at h, if_neg (by omega), ← HG.out.col k h]
        unfold colP
        rw [List.take_of_length_le (by rw [HOL.out]; omega)]
        omega
      have HUS : Hid ((O.take l.length).map List.sum = O.map List.sum) := Lib.hid (by rw [List.take_of_length_le (by rw [HOL.out]; omega)])
      rw [HUS.out] at HO
      clear HUS
      go_wp2_with fail
      go_loopw [15] (fun q U => ∃ k : Nat, k ≤ need.length ∧ q = .int .i64 k ∧ Hid (GoW w (soldL O need.length l.length 0) U) ∧ Hid (U.ownsRow (w.heap.size + 1) 3 1 s0 l.length (intsV9 (O.map List.sum)))) (fun q _ => need.length - (intOf q).toNat)
      case atStart => exact ⟨0, by omega, rfl, HW, HO⟩
      case round =>
        obtain ⟨k, hk2, rfl, HW1, HO1⟩ := hrel
        rename World => U
        by_cases hkl : k < need.length
        · have hki : (k : Int) < need.length := by omega
          have hk0 : (0 : Int) ≤ k := by omega
          obtain ⟨ga, offa, rfl, hga, hata⟩ := HA.out (by intro e; rw [e] at hkl; simp at hkl)
          have x0 := hata k hkl
          rw [← HW1.out.hb.cell (p := ⟨ga, _, none⟩) hga] at x0
          have hy := HW1.out.at (k := k) (by rw [soldL_len]; exact hkl)
          rw [HCO.out k hkl] at hy
          obtain ⟨n0, n1⟩ := HN.out need[k] (List.getElem_mem hkl)
          have m0 : 0 ≤ b * need[k] := Int.mul_nonneg hb.1 n0
          have m1 : b * need[k] ≤ 1048576 * 48 := Int.mul_le_mul hb.2 n1 n0 (by omega)
          clear hata
          generalize need[k] = z at *
          have hw1 : IntKind.i64.wrap (b * z) = b * z := IntWalk.i64_in _ ⟨by omega, by omega⟩
          go_wp2_with fail
          go_quiet (fail)
          go_wp2_with fail
          go_roundw
          case rel => exact ⟨k + 1, by omega, by go_num, Lib.hid (HW1.out.call (below_drewN (Below.refl _ _) _)), Lib.hid (own_low9 HO1.out (below_drewN (Below.refl _ _) _))⟩
          case measure => exact meas9 hkl
        · obtain rfl : k = need.length := by omega
          rw [← HOL.out] at HO1
          obtain ⟨A2, c2, rfl, hsl⟩ := own_ints9 HO1.out (by rw [List.length_map])
          have HSL := Lib.hid hsl
          have HB9 := Lib.hid HW1.out.hb
          clear hsl HO1 HW1
          go_wp2_with fail
          exact bodyPost_ret (v := .tuple #[.slice A2 O.length c2, .bool true]) (by simp [results, Try.results25, go_sem]) rfl ⟨A2, c2, rfl, HSL.out, HB9.out⟩
end Go.Proofs.Ytngoagfkcjkeoaa
