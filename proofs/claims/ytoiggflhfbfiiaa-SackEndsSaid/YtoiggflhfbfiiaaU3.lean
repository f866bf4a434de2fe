/- Walks of the reference's part. -/
import Derived.Test.YtoiggflhfbfiiaaU2
import Derived.Test.YtoiggflhfbfiiaaT4
namespace Go.Proofs.Ytoiggflhfbfiiaa
open Go.RowKit Go.Shelf

theorem min_if (a b : Int) : min a b = if b < a then b else a := by split <;> omega
theorem max_if (a b : Int) : max a b = if a < b then b else a := by split <;> omega
def sumTo (F : Nat → Int) : Nat → Int
  | 0 => 0
  | n + 1 => sumTo F n + F n
theorem sumTo_bd {F : Nat → Int} {M : Int} : ∀ n : Nat, (∀ i, i < n → -M ≤ F i ∧ F i ≤ M) → -(n * M) ≤ sumTo F n ∧ sumTo F n ≤ n * M
  | 0, _ => by simp [sumTo]
  | n + 1, h => by
    have i := sumTo_bd n fun i hi => h i (by omega)
    have := h n (by omega)
    have e : ((n + 1 : Nat) : Int) * M = n * M + M := by
      have : ((n + 1 : Nat) : Int) = (n : Int) + 1 := by omega
      rw [this, Int.add_mul, Int.one_mul]
    simp only [sumTo]
    omega
def corLo (s : Sack) : Cor := ⟨s.w.lo, s.c.lo, s.l.lo⟩
def lowK (X : Cor → Int) (s : Sack) (n : Nat) : Int := ((cornersR s).take n).foldl (fun m c => min m (X c)) (X (corLo s))
def highK (X : Cor → Int) (s : Sack) (n : Nat) : Int := ((cornersR s).take n).foldl (fun m c => max m (X c)) 0
theorem cornersR_len (s : Sack) : (cornersR s).length = 8 := rfl
theorem lowK_next (X : Cor → Int) (s : Sack) (n : Nat) (h : n < 8) : lowK X s (n + 1) = min (lowK X s n) (X ((cornersR s)[n]'h)) := by
  have h' : n < (cornersR s).length := h
  unfold lowK
  rw [List.take_succ_eq_append_getElem h', List.foldl_append]
  rfl
theorem highK_next (X : Cor → Int) (s : Sack) (n : Nat) (h : n < 8) : highK X s (n + 1) = max (highK X s n) (X ((cornersR s)[n]'h)) := by
  have h' : n < (cornersR s).length := h
  unfold highK
  rw [List.take_succ_eq_append_getElem h', List.foldl_append]
  rfl
theorem cornersR_ok {s : Sack} (h : sackOk s = true) : ∀ x ∈ cornersR s, corOk x := by
  simp only [sackOk, Bool.and_eq_true, withinB_iff] at h
  intro x hx
  simp only [cornersR, List.mem_cons, List.not_mem_nil, or_false] at hx
  simp only [corOk]
  rcases hx with rfl | rfl | rfl | rfl | rfl | rfl | rfl | rfl <;> simp only <;> omega
theorem fold_bd {X : Cor → Int} {M : Int} : ∀ (l : List Cor) (a b : Int), (∀ x ∈ l, 0 ≤ X x ∧ X x ≤ M) → (0 ≤ a ∧ a ≤ M) → (0 ≤ b ∧ b ≤ M) → (0 ≤ l.foldl (fun m c => min m (X c)) a ∧ l.foldl (fun m c => min m (X c)) a ≤ M) ∧ (0 ≤ l.foldl (fun m c => max m (X c)) b ∧ l.foldl (fun m c => max m (X c)) b ≤ M)
  | [], _, _, _, h, h' => ⟨h, h'⟩
  | x :: l, a, b, hx, h, h' => by
    have := hx x (by simp)
    exact fold_bd l (min a (X x)) (max b (X x)) (fun y hy => hx y (by simp [hy])) (by omega) (by omega)
theorem lowhigh_bd (j : Nat) {s : Sack} (h : sackOk s = true) (n : Nat) : (0 ≤ lowK (kindX j) s n ∧ lowK (kindX j) s n ≤ 1000000000) ∧ (0 ≤ highK (kindX j) s n ∧ highK (kindX j) s n ≤ 1000000000) :=
  fold_bd _ _ _ (fun x hx => kindX_bd j (cornersR_ok h x (List.mem_of_mem_take hx))) (kindX_bd j (cornersR_ok h (corLo s) (by simp [cornersR, corLo]))) (by omega)

def partLo (l : List Sack) (b : List Take) (j i : Nat) : Int := (weightR b i).lo * lowK (kindX j) (sackAt l i) 8
def partHi (l : List Sack) (b : List Take) (j i : Nat) : Int := (weightR b i).hi * highK (kindX j) (sackAt l i) 8
theorem part_bd {l : List Sack} {b : List Take} (j i : Nat) (hi : i < l.length) (hl : ∀ s ∈ l, sackOk s = true) (hb : ∀ t ∈ b, withinB t.m 1 100000 = true) (hb2 : b.length ≤ 12) :
    (0 ≤ partLo l b j i ∧ partLo l b j i ≤ 1200000000000000) ∧ (0 ≤ partHi l b j i ∧ partHi l b j i ≤ 1200000000000000) := by
  have h1 := weightR_bd i b hb
  have h2 := lowhigh_bd j (hl _ (List.getElem_mem hi)) 8
  unfold partLo partHi
  rw [sackAt_nat hi]
  have m1 := mul_bd h1.1 (show (weightR b i).lo ≤ 1200000 by omega) h2.1.1 h2.1.2
  have m2 := mul_bd (show 0 ≤ (weightR b i).hi by omega) (show (weightR b i).hi ≤ 1200000 by omega) h2.2.1 h2.2.2
  omega

/-- The inner loop of part: what is held of a sack's corners. -/
structure PrtS (w : World) (pr : Nat) (Am : Span) (pm : Nat) (C : Option Addr) (s : Sack) (W : World) : Prop where
  below : Below w.heap.size w W
  r : Blk W pr 25 #[.int .i64 0, .int .i64 0]
  m : Blk W pm 25 #[.int .i64 Am.lo, .int .i64 Am.hi]
  cs : CorSl W W.heap.size C (cornersR s)
theorem PrtS.call {w : World} {pr : Nat} {Am : Span} {pm : Nat} {C : Option Addr} {s : Sack} {W W' : World} (h : PrtS w pr Am pm C s W) (hb : Below W.heap.size W W') : PrtS w pr Am pm C s W' :=
  ⟨h.below.trans (hb.mono h.below.size), h.r.below hb h.r.lt, h.m.below hb h.m.lt, (h.cs.below hb).more hb.size⟩

set_option maxRecDepth 100000 in
set_option maxHeartbeats 4000000 in
theorem part_any (w : World) (A T : Option Addr) (c d : Nat) (l : List Sack) (b : List Take) (j : Nat) (hj : j < 5) (hl : l.length ≤ 12) (hb : b.length ≤ 12) (hA : SackSl w w.heap.size A l) (hT : TakeSl w w.heap.size T b) (hl2 : ∀ s ∈ l, sackOk s = true) (hb2 : ∀ t ∈ b, withinB t.m 1 100000 = true) :
    Calls Try.prog 36 #[.slice A l.length c, .slice T b.length d, .int .i64 j] w (Ret (.agg #[.int .i64 (sumTo (partLo l b j) l.length / 1000000000), .int .i64 (cdiv (sumTo (partHi l b j) l.length) 1000000000)]) w) := by
  have HA := Lib.hid hA
  have HT := Lib.hid hT
  have HL2 := Lib.hid hl2
  have HB2 := Lib.hid hb2
  clear hA hT hl2 hb2
  go_enter Try.func36, Try.ntmps36
  go_wp2
  have hb0 : Below w.heap.size w (w.alloc (.cells #[.int .i64 0, .int .i64 0] 25)) := (Below.refl _ _).alloc (Nat.le_refl _) _
  have hB0 := Blk.new w 25 #[.int .i64 0, .int .i64 0]
  generalize World.alloc w _ = W0 at hb0 hB0 ⊢
  go_loopw [7, 8, 9] (fun x y i wr => ∃ n : Nat, n ≤ l.length ∧ i = .int .i64 n ∧ x = .int .i64 (sumTo (partLo l b j) n) ∧ y = .int .i64 (sumTo (partHi l b j) n) ∧ Hid (Blk wr w.heap.size 25 #[.int .i64 0, .int .i64 0]) ∧ Below w.heap.size w wr) (fun _ _ i _ => l.length - (intOf i).toNat)
  case atStart => exact ⟨0, by omega, rfl, rfl, rfl, hB0, hb0⟩
  case round =>
    clear hB0 hb0
    obtain ⟨n, hn, rfl, rfl, rfl, HR, hB⟩ := hrel
    by_cases hlt : n < l.length
    · have hsl := (HA.out.below hB).more hB.size
      obtain ⟨bA, oA, rfl, hbA, hs⟩ := hsl (by intro e; subst e; simp at hlt)
      obtain ⟨c0, c1, c2, c3, c4, c5⟩ := hs n hlt
      have HS := Lib.hid hs
      clear hs
      have HTw := Lib.hid ((HT.out.below hB).more hB.size)
      have hok := HL2.out _ (List.getElem_mem hlt)
      have HE : Hid (sackAt l n = l[n]) := sackAt_nat hlt
      have hwb := weightR_bd n b HB2.out
      have hpb := fun i (hi : i < n) => part_bd (l := l) (b := b) j i (by omega) HL2.out HB2.out hb
      have hs1 := sumTo_bd (F := partLo l b j) (M := 1200000000000000) n fun i hi => by have := hpb i hi; omega
      have hs2 := sumTo_bd (F := partHi l b j) (M := 1200000000000000) n fun i hi => by have := hpb i hi; omega
      clear hpb
      have hs3 : -20000000000000000 ≤ sumTo (partLo l b j) n ∧ sumTo (partLo l b j) n ≤ 20000000000000000 ∧ -20000000000000000 ≤ sumTo (partHi l b j) n ∧ sumTo (partHi l b j) n ≤ 20000000000000000 := by omega
      obtain ⟨k1, k2, k3, k4⟩ := hs3
      clear hs1 hs2
      have HF1 : Hid (sumTo (partLo l b j) (n + 1) = sumTo (partLo l b j) n + (weightR b n).lo * lowK (kindX j) l[n] 8) := by
        show _ = _
        rw [sumTo, partLo, HE.out]
      have HF2 : Hid (sumTo (partHi l b j) (n + 1) = sumTo (partHi l b j) n + (weightR b n).hi * highK (kindX j) l[n] 8) := by
        show _ = _
        rw [sumTo, partHi, HE.out]
      generalize sumTo (partLo l b j) n = x at k1 k2 HF1 ⊢
      generalize sumTo (partHi l b j) n = y at k3 k4 HF2 ⊢
      clear HE
      have hwt := weight_any wr T d b n hb HTw.out HB2.out
      generalize weightR b n = m at hwb hwt HF1 HF2
      have hwb1 : 0 ≤ m.lo ∧ m.lo ≤ 1200000 ∧ 0 ≤ m.hi ∧ m.hi ≤ 1200000 := by omega
      obtain ⟨g1, g2, g3, g4⟩ := hwb1
      clear hwb c0 c1 c2 c3 c4 c5 HTw
      go_wp2_with fail
      refine hwt.mono ?_
      clear hwt
      rintro e v1 ⟨rfl, hb1⟩
      obtain ⟨c0, c1, c2, c3, c4, c5⟩ := HS.out.below hb1 hbA n hlt
      have hbA1 : bA < v1.heap.size := Nat.lt_of_lt_of_le hbA hb1.size
      have HR1 := Lib.hid (HR.out.below hb1 HR.out.lt)
      have hB1 := hB.trans (hb1.mono hB.size)
      clear hb1
      generalize hsg : l[n] = s at c0 c1 c2 c3 c4 c5 hok HF1 HF2
      clear hsg
      go_wp2_with fail
      have HM := Lib.hid (Blk.new v1 25 #[.int .i64 m.lo, .int .i64 m.hi])
      have hbx : Below v1.heap.size v1 (v1.alloc (.cells #[.int .i64 m.lo, .int .i64 m.hi] 25)) := (Below.refl _ _).alloc (Nat.le_refl _) _
      refine (corners_any' _ s).mono ?_
      rintro e v2 ⟨C, cC, rfl, hC, hb2'⟩
      have HP : Hid (PrtS w w.heap.size m v1.heap.size C s v2) := ⟨(hB1.trans (hbx.mono hB1.size)).trans (hb2'.mono (Nat.le_trans hB1.size hbx.size)), (HR1.out.alloc _).below hb2' (HR1.out.alloc _).lt, HM.out.below hb2' HM.out.lt, hC⟩
      clear c0 c1 c2 c3 c4 c5 hbx HM HR1 hB1 hb2' hC HR hbA1
      generalize v1.heap.size = pm at HP ⊢
      obtain ⟨bC, oC, rfl, hbC, hcs⟩ := HP.out.cs (by simp [cornersR])
      have HCS := Lib.hid hcs
      obtain ⟨q0, q1, q2⟩ := hcs 0 (by simp [cornersR])
      simp only [cornersR, List.getElem_cons_zero, Nat.zero_mul, Nat.add_zero] at q0 q1 q2
      obtain ⟨r1, r2, r3, r4, r5, r6⟩ := cornersR_ok hok (corLo s) (by simp [cornersR, corLo])
      have HC0 : Hid (∀ W, Calls Try.prog 59 #[.int .i64 j, .int .i64 s.w.lo, .int .i64 s.c.lo, .int .i64 s.l.lo] W fun e w' => e = .returned (.int .i64 (lowK (kindX j) s 0)) ∧ w' = W) := fun W => (rof_any j hj s.w.lo s.c.lo s.l.lo W r1 r2 r3 r4 r5 r6).mono fun _ _ ⟨h, h'⟩ => ⟨h, h'.symm⟩
      clear hcs
      go_wp2_with fail
      go_quiet ((go_at_call 59; exact Calls.quiet_of_same (HC0.out _)))
      go_wp2_with fail
      have HP3 : Hid (PrtS w w.heap.size m pm (some ⟨bC, oC, none⟩) s (v2.drewN nq)) := HP.out.call (below_drewN (Below.refl _ _) nq)
      clear q0 q1 q2 HP hbC HCS
      generalize v2.drewN nq = v3 at HP3 ⊢
      go_loopw [12, 13, 14] (fun lo hi i wr => ∃ k : Nat, k ≤ 8 ∧ i = .int .i64 k ∧ lo = .int .i64 (lowK (kindX j) s k) ∧ hi = .int .i64 (highK (kindX j) s k) ∧ Hid (PrtS w w.heap.size m pm (some ⟨bC, oC, none⟩) s wr)) (fun _ _ i _ => 8 - (intOf i).toNat)
      case atStart => exact ⟨0, by omega, rfl, rfl, rfl, HP3⟩
      case round =>
        clear HP3
        obtain ⟨k, hk, rfl, rfl, rfl, HP⟩ := hrel
        by_cases hlt2 : k < 8
        · obtain ⟨b', o', e, hbC, hcs⟩ := HP.out.cs (by simp [cornersR])
          cases e
          obtain ⟨q0, q1, q2⟩ := hcs k hlt2
          clear hcs
          have HN1 := Lib.hid (lowK_next (kindX j) s k hlt2)
          have HN2 := Lib.hid (highK_next (kindX j) s k hlt2)
          obtain ⟨⟨z1, z2⟩, z3, z4⟩ := lowhigh_bd j hok k
          have hco := cornersR_ok hok _ (List.getElem_mem (l := cornersR s) (n := k) hlt2)
          have hkx := kindX_bd j hco
          generalize (cornersR s)[k] = co at q0 q1 q2 HN1 HN2 hco hkx
          generalize lowK (kindX j) s k = lo at z1 z2 HN1
          generalize highK (kindX j) s k = hi' at z3 z4 HN2
          obtain ⟨f1, f2, f3, f4, f5, f6⟩ := hco
          obtain ⟨f7, f8⟩ := hkx
          have HC1 : Hid (∀ W, Calls Try.prog 59 #[.int .i64 j, .int .i64 co.w, .int .i64 co.c, .int .i64 co.s] W fun e w' => e = .returned (.int .i64 (kindX j co)) ∧ w' = W) := fun W => (rof_any j hj co.w co.c co.s W f1 f2 f3 f4 f5 f6).mono fun _ _ ⟨h, h'⟩ => ⟨h, h'.symm⟩
          go_wp2_with fail
          go_quiet ((go_at_call 59; exact Calls.quiet_of_same (HC1.out _)))
          go_wp2_with fail
          have HP4 : Hid (PrtS w w.heap.size m pm (some ⟨bC, oC, none⟩) s (wr.drewN nq)) := HP.out.call (below_drewN (Below.refl _ _) nq)
          clear q0 q1 q2
          go_roundw
          case rel => exact ⟨k + 1, by omega, by go_num, by rw [HN1.out, min_if], by rw [HN2.out, max_if], HP4⟩
          case measure => simp [intOf]; omega
        · obtain rfl : k = 8 := by omega
          obtain ⟨⟨z1, z2⟩, z3, z4⟩ := lowhigh_bd j hok 8
          generalize lowK (kindX j) s 8 = lo at z1 z2 HF1 ⊢
          generalize highK (kindX j) s 8 = hi' at z3 z4 HF2 ⊢
          have m0 := HP.out.m.cell 0
          have m1 := HP.out.m.cell 1
          obtain ⟨y1, y2⟩ := mul_bd g1 g2 z1 z2
          obtain ⟨y3, y4⟩ := mul_bd g3 g4 z3 z4
          clear hk hlt2
          go_wp2_with fail
          have HR2 := Lib.hid HP.out.r
          have hB2 := HP.out.below
          go_roundw
          case rel => exact ⟨n + 1, by omega, by go_num, by rw [HF1.out], by rw [HF2.out], HR2, hB2⟩
          case measure => simp [intOf]; omega
    · obtain rfl : n = l.length := by omega
      have hpb := fun i (hi : i < l.length) => part_bd (l := l) (b := b) j i (by omega) HL2.out HB2.out hb
      have hs1 := sumTo_bd (F := partLo l b j) (M := 1200000000000000) l.length fun i hi => by have := hpb i hi; omega
      have hs2 := sumTo_bd (F := partHi l b j) (M := 1200000000000000) l.length fun i hi => by have := hpb i hi; omega
      clear hpb
      have hs3 : -20000000000000000 ≤ sumTo (partLo l b j) l.length ∧ sumTo (partLo l b j) l.length ≤ 20000000000000000 ∧ -20000000000000000 ≤ sumTo (partHi l b j) l.length ∧ sumTo (partHi l b j) l.length ≤ 20000000000000000 := by omega
      obtain ⟨k1, k2, k3, k4⟩ := hs3
      clear hs1 hs2 hn hlt
      generalize hx' : sumTo (partLo l b j) l.length = x at k1 k2 ⊢
      generalize hy' : sumTo (partHi l b j) l.length = y at k3 k4 ⊢
      have HX := Lib.hid hx'
      have HY := Lib.hid hy'
      clear hx' hy'
      have hle : w.heap.size ≤ w.heap.size := Nat.le_refl _
      go_wp2_with fail
      refine (rdown_any _ _ _ (by omega) (by omega) (by omega) (by omega)).mono ?_
      rintro e w' ⟨rfl, rfl⟩
      go_wp2_with fail
      refine (rup_any _ _ _ (by omega) (by omega) (by omega) (by omega)).mono ?_
      rintro e w' ⟨rfl, rfl⟩
      go_wp2_with (refine wpList_store_row rfl 25 (.tmp 6) (.tmp 89) rfl w.heap.size #[.int .i64 (x / 1000000000), .int .i64 (cdiv y 1000000000)] rfl rfl 25 _ HR.out (by kernel_rfl) rfl (by kernel_rfl) ?_)
      exact bodyPost_ret (results_blk rfl _ rfl (HR.out.row #[.int .i64 (x / 1000000000), .int .i64 (cdiv y 1000000000)]) (by kernel_rfl) (by kernel_rfl)) rfl ⟨by rw [HX.out, HY.out], below_setRow hB hle _⟩
end Go.Proofs.Ytoiggflhfbfiiaa
