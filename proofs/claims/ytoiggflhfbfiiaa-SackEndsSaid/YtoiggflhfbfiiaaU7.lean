/- Walk of the reference's lacks. -/
import Derived.Test.YtoiggflhfbfiiaaU6
namespace Go.Proofs.Ytoiggflhfbfiiaa
open Go.RowKit Go.Shelf

def lackLo (l : List Sack) (b : List Take) (n : Int) (i : Nat) : Int := min ((weightR b i).lo * (n - (sackAt l i).w.hi)) ((weightR b i).hi * (n - (sackAt l i).w.hi))
def lackHi (l : List Sack) (b : List Take) (n : Int) (i : Nat) : Int := max ((weightR b i).lo * (n - (sackAt l i).w.lo)) ((weightR b i).hi * (n - (sackAt l i).w.lo))
theorem small_prod {m : Span} (g1 : 0 ≤ m.lo) (g2 : m.lo ≤ 800000) (g3 : 0 ≤ m.hi) (g4 : m.hi ≤ 800000) {v : Int} (h1 : -1000 ≤ v) (h2 : v ≤ 1000) :
    (-800000000 ≤ m.lo * v ∧ m.lo * v ≤ 800000000) ∧ (-800000000 ≤ m.hi * v ∧ m.hi * v ≤ 800000000) := by
  rcases Int.le_total 0 v with h | h
  · have a := mul_bd g1 g2 h h2
    have b := mul_bd g3 g4 h h2
    omega
  · have a := mul_bd g1 g2 (show 0 ≤ -v by omega) (show -v ≤ 1000 by omega)
    have b := mul_bd g3 g4 (show 0 ≤ -v by omega) (show -v ≤ 1000 by omega)
    rw [Int.mul_neg] at a b
    omega
theorem lack_bd {l : List Sack} {b : List Take} {n : Int} (h0 : 0 ≤ n) (h1 : n ≤ 1000) (i : Nat) (hi : i < l.length) (hl : ∀ s ∈ l, sackOk s = true) (hb : ∀ t ∈ b, withinB t.m 1 100000 = true) (hb2 : b.length ≤ 8) :
    (-800000000 ≤ lackLo l b n i ∧ lackLo l b n i ≤ 800000000) ∧ (-800000000 ≤ lackHi l b n i ∧ lackHi l b n i ≤ 800000000) := by
  have h2 := weightR_bd i b hb
  have h3 := hl _ (List.getElem_mem hi)
  simp only [sackOk, Bool.and_eq_true, withinB_iff] at h3
  unfold lackLo lackHi
  rw [sackAt_nat hi]
  have a := small_prod h2.1 (by omega) (by omega) (by omega) (show -1000 ≤ n - l[i].w.hi by omega) (by omega)
  have c := small_prod h2.1 (by omega) (by omega) (by omega) (show -1000 ≤ n - l[i].w.lo by omega) (by omega)
  omega

set_option maxRecDepth 100000 in
set_option maxHeartbeats 8000000 in
theorem lacks_any (w : World) (A T : Option Addr) (c d : Nat) (l : List Sack) (b : List Take) (n : Int) (h0 : 0 ≤ n) (h1 : n ≤ 1000) (hl : l.length ≤ 8) (hb : b.length ≤ 8) (hA : SackSl w w.heap.size A l) (hT : TakeSl w w.heap.size T b) (hl2 : ∀ s ∈ l, sackOk s = true) (hb2 : ∀ t ∈ b, withinB t.m 1 100000 = true) :
    Calls Try.prog 48 #[.slice A l.length c, .slice T b.length d, .int .i64 n] w (Ret (.tuple #[.int .i64 (sumTo (lackLo l b n) l.length), .int .i64 (sumTo (lackHi l b n) l.length)]) w) := by
  have HA := Lib.hid hA
  have HT := Lib.hid hT
  have HL2 := Lib.hid hl2
  have HB2 := Lib.hid hb2
  clear hA hT hl2 hb2
  go_enter Try.func48, Try.ntmps48
  go_wp2
  go_loopw [8, 9, 10] (fun x y i wr => ∃ q : Nat, q ≤ l.length ∧ i = .int .i64 q ∧ x = .int .i64 (sumTo (lackLo l b n) q) ∧ y = .int .i64 (sumTo (lackHi l b n) q) ∧ Below w.heap.size w wr) (fun _ _ i _ => l.length - (intOf i).toNat)
  case atStart => exact ⟨0, by omega, rfl, rfl, rfl, Below.refl _ _⟩
  case round =>
    obtain ⟨q, hq, rfl, rfl, rfl, hB⟩ := hrel
    by_cases hlt : q < l.length
    · have hpb := fun i (hi : i < l.length) => lack_bd (l := l) (b := b) h0 h1 i hi HL2.out HB2.out hb
      have hs1 := sumTo_bd (F := lackLo l b n) (M := 800000000) q fun i hi => (hpb i (by omega)).1
      have hs2 := sumTo_bd (F := lackHi l b n) (M := 800000000) q fun i hi => (hpb i (by omega)).2
      have hs3 : -6400000000 ≤ sumTo (lackLo l b n) q ∧ sumTo (lackLo l b n) q ≤ 6400000000 ∧ -6400000000 ≤ sumTo (lackHi l b n) q ∧ sumTo (lackHi l b n) q ≤ 6400000000 := by omega
      obtain ⟨k1, k2, k3, k4⟩ := hs3
      clear hs1 hs2 hpb
      have hsl := (HA.out.below hB).more hB.size
      obtain ⟨bA, oA, rfl, hbA, hs⟩ := hsl (by intro e; subst e; simp at hlt)
      have HS := Lib.hid hs
      clear hs
      have HTw := Lib.hid ((HT.out.below hB).more hB.size)
      have hok := HL2.out _ (List.getElem_mem hlt)
      have HE : Hid (sackAt l q = l[q]) := sackAt_nat hlt
      have hwb := weightR_bd q b HB2.out
      have HF1 : Hid (sumTo (lackLo l b n) (q + 1) = sumTo (lackLo l b n) q + min ((weightR b q).lo * (n - l[q].w.hi)) ((weightR b q).hi * (n - l[q].w.hi))) := by
        show _ = _
        rw [sumTo, lackLo, HE.out]
      have HF2 : Hid (sumTo (lackHi l b n) (q + 1) = sumTo (lackHi l b n) q + max ((weightR b q).lo * (n - l[q].w.lo)) ((weightR b q).hi * (n - l[q].w.lo))) := by
        show _ = _
        rw [sumTo, lackHi, HE.out]
      generalize sumTo (lackLo l b n) q = x at k1 k2 HF1 ⊢
      generalize sumTo (lackHi l b n) q = y at k3 k4 HF2 ⊢
      clear HE
      have hwt := weight_any wr T d b q (by omega) HTw.out HB2.out
      generalize weightR b q = m at hwb hwt HF1 HF2
      have hwb1 : 0 ≤ m.lo ∧ m.lo ≤ 800000 ∧ 0 ≤ m.hi ∧ m.hi ≤ 800000 := by omega
      obtain ⟨g1, g2, g3, g4⟩ := hwb1
      clear hwb HTw
      go_wp2_with fail
      refine hwt.mono ?_
      clear hwt
      rintro e v1 ⟨rfl, hb1⟩
      obtain ⟨c0, c1, -, -, -, -⟩ := HS.out.below hb1 hbA q hlt
      have hbA1 : bA < v1.heap.size := Nat.lt_of_lt_of_le hbA hb1.size
      have hB1 := hB.trans (hb1.mono hB.size)
      clear hb1
      simp only [sackOk, Bool.and_eq_true, withinB_iff] at hok
      generalize l[q].w = s at c0 c1 hok HF1 HF2
      obtain ⟨⟨⟨o1, o2, o3⟩, -⟩, -⟩ := hok
      obtain ⟨⟨y1, y2⟩, y3, y4⟩ := small_prod g1 g2 g3 g4 (show -1000 ≤ n - s.hi by omega) (by omega)
      obtain ⟨⟨z1, z2⟩, z3, z4⟩ := small_prod g1 g2 g3 g4 (show -1000 ≤ n - s.lo by omega) (by omega)
      have hw1 : IntKind.i64.wrap (n - s.hi) = n - s.hi := wrap_in (by omega) (by omega)
      have hw2 : IntKind.i64.wrap (n - s.lo) = n - s.lo := wrap_in (by omega) (by omega)
      have HBX := Lib.hid (below_drewN (show Below w.heap.size w (v1.alloc (.cells #[.int .i64 m.lo, .int .i64 m.hi] 25)) from hB1.alloc hB1.size _))
      have HM := Lib.hid (Blk.new v1 25 #[.int .i64 m.lo, .int .i64 m.hi])
      go_wp2_with fail
      go_quiet ((fail))
      clear c0 c1 hw1 hw2 hB1
      have HM2 : Hid (Blk ((v1.alloc (.cells #[.int .i64 m.lo, .int .i64 m.hi] 25)).drewN nq) v1.heap.size 25 #[.int .i64 m.lo, .int .i64 m.hi]) := HM.out
      have HB3 := Lib.hid (HBX.out nq)
      clear HM HBX
      generalize World.drewN _ nq = v2 at HM2 HB3 ⊢
      generalize v1.heap.size = pm at HM2 ⊢
      have m0 := HM2.out.cell 0
      have m1 := HM2.out.cell 1
      by_cases t1 : m.hi * (n - s.hi) < m.lo * (n - s.hi)
      · have E1 := Lib.hid (HF1.out.trans (congrArg (x + ·) (Int.min_eq_right (show m.hi * (n - s.hi) ≤ m.lo * (n - s.hi) by omega))))
        by_cases t2 : m.lo * (n - s.lo) < m.hi * (n - s.lo)
        · have E2 := Lib.hid (HF2.out.trans (congrArg (y + ·) (Int.max_eq_right (show m.lo * (n - s.lo) ≤ m.hi * (n - s.lo) by omega))))
          go_wp2_with fail
          go_roundw
          case rel => exact ⟨q + 1, by omega, by go_num, by rw [E1.out], by rw [E2.out], HB3.out⟩
          case measure => simp [intOf]; omega
        · have E2 := Lib.hid (HF2.out.trans (congrArg (y + ·) (Int.max_eq_left (show m.hi * (n - s.lo) ≤ m.lo * (n - s.lo) by omega))))
          go_wp2_with fail
          go_roundw
          case rel => exact ⟨q + 1, by omega, by go_num, by rw [E1.out], by rw [E2.out], HB3.out⟩
          case measure => simp [intOf]; omega
      · have E1 := Lib.hid (HF1.out.trans (congrArg (x + ·) (Int.min_eq_left (show m.lo * (n - s.hi) ≤ m.hi * (n - s.hi) by omega))))
        by_cases t2 : m.lo * (n - s.lo) < m.hi * (n - s.lo)
        · have E2 := Lib.hid (HF2.out.trans (congrArg (y + ·) (Int.max_eq_right (show m.lo * (n - s.lo) ≤ m.hi * (n - s.lo) by omega))))
          go_wp2_with fail
          go_roundw
          case rel => exact ⟨q + 1, by omega, by go_num, by rw [E1.out], by rw [E2.out], HB3.out⟩
          case measure => simp [intOf]; omega
        · have E2 := Lib.hid (HF2.out.trans (congrArg (y + ·) (Int.max_eq_left (show m.hi * (n - s.lo) ≤ m.lo * (n - s.lo) by omega))))
          go_wp2_with fail
          go_roundw
          case rel => exact ⟨q + 1, by omega, by go_num, by rw [E1.out], by rw [E2.out], HB3.out⟩
          case measure => simp [intOf]; omega
    · obtain rfl : q = l.length := by omega
      go_wp2_with fail
      go_ret2
      exact ⟨rfl, hB⟩
end Go.Proofs.Ytoiggflhfbfiiaa
