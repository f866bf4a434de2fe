/- Walk of the reference's beyond. -/
import Derived.Test.YtoiggflhfbfiiaaU4
namespace Go.Proofs.Ytoiggflhfbfiiaa
open Go.RowKit Go.Shelf

/-- By how much, in thousandths of what a gram has, the carbon is more than a share. -/
def overX (n : Int) (x : Cor) : Int := 1000 * kindX 1 x - n * kindX 4 x
theorem overX_bd {n : Int} (h0 : 0 ≤ n) (h1 : n ≤ 1000) {x : Cor} (hx : corOk x) : -1000000000000 ≤ overX n x ∧ overX n x ≤ 1000000000000 := by
  have h2 := kindX_bd 1 hx
  have h3 := kindX_bd 4 hx
  have := mul_bd h0 h1 h3.1 h3.2
  unfold overX
  omega
def bLow (m : Span) (n : Int) (k : Nat) (a : Int) (x : Cor) : Int := if k = 0 then min (m.lo * overX n x) (m.hi * overX n x) else min a (min (m.lo * overX n x) (m.hi * overX n x))
def bHigh (m : Span) (n : Int) (k : Nat) (a : Int) (x : Cor) : Int := if k = 0 then max (m.lo * overX n x) (m.hi * overX n x) else max a (max (m.lo * overX n x) (m.hi * overX n x))
/-- The least, and the greatest, of the first corners of a sack. -/
def bLowK (m : Span) (n : Int) (s : Sack) : Nat → Int
  | 0 => 0
  | k + 1 => bLow m n k (bLowK m n s k) ((cornersR s).getD k ⟨0, 0, 0⟩)
def bHighK (m : Span) (n : Int) (s : Sack) : Nat → Int
  | 0 => 0
  | k + 1 => bHigh m n k (bHighK m n s k) ((cornersR s).getD k ⟨0, 0, 0⟩)
theorem cor_prod {m : Span} (g1 : 0 ≤ m.lo) (g2 : m.lo ≤ 800000) (g3 : 0 ≤ m.hi) (g4 : m.hi ≤ 800000) {v : Int} (h1 : -1000000000000 ≤ v) (h2 : v ≤ 1000000000000) :
    (-800000000000000000 ≤ m.lo * v ∧ m.lo * v ≤ 800000000000000000) ∧ (-800000000000000000 ≤ m.hi * v ∧ m.hi * v ≤ 800000000000000000) := by
  rcases Int.le_total 0 v with h | h
  · have a := mul_bd g1 g2 h h2
    have b := mul_bd g3 g4 h h2
    omega
  · have a := mul_bd g1 g2 (show 0 ≤ -v by omega) (show -v ≤ 1000000000000 by omega)
    have b := mul_bd g3 g4 (show 0 ≤ -v by omega) (show -v ≤ 1000000000000 by omega)
    rw [Int.mul_neg] at a b
    omega
theorem getD_mem8 (s : Sack) {k : Nat} (h : k < 8) : (cornersR s).getD k ⟨0, 0, 0⟩ = (cornersR s)[k]'h := by
  have h' : k < (cornersR s).length := h
  rw [List.getD_eq_getElem?_getD, List.getElem?_eq_getElem h']
  rfl
theorem bK_bd {m : Span} {n : Int} {s : Sack} (g1 : 0 ≤ m.lo) (g2 : m.lo ≤ 800000) (g3 : 0 ≤ m.hi) (g4 : m.hi ≤ 800000) (h0 : 0 ≤ n) (h1 : n ≤ 1000) (hs : sackOk s = true) : ∀ k, k ≤ 8 → (-800000000000000000 ≤ bLowK m n s k ∧ bLowK m n s k ≤ 800000000000000000) ∧ (-800000000000000000 ≤ bHighK m n s k ∧ bHighK m n s k ≤ 800000000000000000)
  | 0, _ => by simp [bLowK, bHighK]
  | k + 1, hk => by
    have i := bK_bd g1 g2 g3 g4 h0 h1 hs k (by omega)
    have hx := overX_bd h0 h1 (cornersR_ok hs _ (List.getElem_mem (l := cornersR s) (n := k) (show k < 8 by omega)))
    have hp := cor_prod g1 g2 g3 g4 hx.1 hx.2
    simp only [bLowK, bHighK, getD_mem8 s (show k < 8 by omega), bLow, bHigh]
    split <;> omega
/-- What hangs on one sack adds at least, and at most. -/
def overLo (l : List Sack) (b : List Take) (n : Int) (i : Nat) : Int := bLowK (weightR b i) n (sackAt l i) 8
def overHi (l : List Sack) (b : List Take) (n : Int) (i : Nat) : Int := bHighK (weightR b i) n (sackAt l i) 8
/-- With at most eight takes the sum stays far from the bounds. -/
theorem over_bd {l : List Sack} {b : List Take} {n : Int} (h0 : 0 ≤ n) (h1 : n ≤ 1000) (i : Nat) (hi : i < l.length) (hl : ∀ s ∈ l, sackOk s = true) (hb : ∀ t ∈ b, withinB t.m 1 100000 = true) (hb2 : b.length ≤ 8) :
    (-800000000000000000 ≤ overLo l b n i ∧ overLo l b n i ≤ 800000000000000000) ∧ (-800000000000000000 ≤ overHi l b n i ∧ overHi l b n i ≤ 800000000000000000) := by
  have h2 := weightR_bd i b hb
  unfold overLo overHi
  rw [sackAt_nat hi]
  exact bK_bd h2.1 (by omega) (by omega) (by omega) h0 h1 (hl _ (List.getElem_mem hi)) 8 (by omega)

/-- The inner loop of beyond: what is held of a sack's corners. -/
structure PryS (w : World) (Am : Span) (pm : Nat) (C : Option Addr) (s : Sack) (W : World) : Prop where
  below : Below w.heap.size w W
  m : Blk W pm 25 #[.int .i64 Am.lo, .int .i64 Am.hi]
  cs : CorSl W W.heap.size C (cornersR s)
theorem PryS.call {w : World} {Am : Span} {pm : Nat} {C : Option Addr} {s : Sack} {W W' : World} (h : PryS w Am pm C s W) (hb : Below W.heap.size W W') : PryS w Am pm C s W' :=
  ⟨h.below.trans (hb.mono h.below.size), h.m.below hb h.m.lt, (h.cs.below hb).more hb.size⟩
theorem kindX_one (s : Cor) : kindX 1 s = ofN 1 s.w s.c s.s := rfl

set_option maxRecDepth 100000 in
set_option maxHeartbeats 8000000 in
theorem beyond_any (w : World) (A T : Option Addr) (c d : Nat) (l : List Sack) (b : List Take) (n : Int) (h0 : 0 ≤ n) (h1 : n ≤ 1000) (hl : l.length ≤ 8) (hb : b.length ≤ 8) (hA : SackSl w w.heap.size A l) (hT : TakeSl w w.heap.size T b) (hl2 : ∀ s ∈ l, sackOk s = true) (hb2 : ∀ t ∈ b, withinB t.m 1 100000 = true) :
    Calls Try.prog 41 #[.slice A l.length c, .slice T b.length d, .int .i64 n] w (Ret (.tuple #[.int .i64 (sumTo (overLo l b n) l.length), .int .i64 (sumTo (overHi l b n) l.length)]) w) := by
  have HA := Lib.hid hA
  have HT := Lib.hid hT
  have HL2 := Lib.hid hl2
  have HB2 := Lib.hid hb2
  clear hA hT hl2 hb2
  go_enter Try.func41, Try.ntmps41
  go_wp2
  go_loopw [8, 9, 10] (fun x y i wr => ∃ q : Nat, q ≤ l.length ∧ i = .int .i64 q ∧ x = .int .i64 (sumTo (overLo l b n) q) ∧ y = .int .i64 (sumTo (overHi l b n) q) ∧ Below w.heap.size w wr) (fun _ _ i _ => l.length - (intOf i).toNat)
  case atStart => exact ⟨0, by omega, rfl, rfl, rfl, Below.refl _ _⟩
  case round =>
    obtain ⟨q, hq, rfl, rfl, rfl, hB⟩ := hrel
    have hpb := fun i (hi : i < l.length) => over_bd (l := l) (b := b) h0 h1 i hi HL2.out HB2.out hb
    have hs1 := sumTo_bd (F := overLo l b n) (M := 800000000000000000) q fun i hi => (hpb i (by omega)).1
    have hs2 := sumTo_bd (F := overHi l b n) (M := 800000000000000000) q fun i hi => (hpb i (by omega)).2
    have hs3 : -6400000000000000000 ≤ sumTo (overLo l b n) q ∧ sumTo (overLo l b n) q ≤ 6400000000000000000 ∧ -6400000000000000000 ≤ sumTo (overHi l b n) q ∧ sumTo (overHi l b n) q ≤ 6400000000000000000 := by omega
    obtain ⟨k1, k2, k3, k4⟩ := hs3
    clear hs1 hs2
    by_cases hlt : q < l.length
    · have hsl := (HA.out.below hB).more hB.size
      obtain ⟨bA, oA, rfl, hbA, hs⟩ := hsl (by intro e; subst e; simp at hlt)
      have HS := Lib.hid hs
      clear hs
      have HTw := Lib.hid ((HT.out.below hB).more hB.size)
      have hok := HL2.out _ (List.getElem_mem hlt)
      have HE : Hid (sackAt l q = l[q]) := sackAt_nat hlt
      have hwb := weightR_bd q b HB2.out
      have hqb := hpb q hlt
      clear hpb
      have hq1 : -7200000000000000000 ≤ sumTo (overLo l b n) q + overLo l b n q ∧ sumTo (overLo l b n) q + overLo l b n q ≤ 7200000000000000000 ∧ -7200000000000000000 ≤ sumTo (overHi l b n) q + overHi l b n q ∧ sumTo (overHi l b n) q + overHi l b n q ≤ 7200000000000000000 := by omega
      clear hqb
      simp only [overLo, overHi, HE.out] at hq1
      have HF1 : Hid (sumTo (overLo l b n) (q + 1) = sumTo (overLo l b n) q + bLowK (weightR b q) n l[q] 8) := by
        show _ = _
        rw [sumTo, overLo, HE.out]
      have HF2 : Hid (sumTo (overHi l b n) (q + 1) = sumTo (overHi l b n) q + bHighK (weightR b q) n l[q] 8) := by
        show _ = _
        rw [sumTo, overHi, HE.out]
      change -7200000000000000000 ≤ sumTo (overLo l b n) q + _ ∧ sumTo (overLo l b n) q + _ ≤ _ ∧ _ ≤ sumTo (overHi l b n) q + _ ∧ sumTo (overHi l b n) q + _ ≤ _ at hq1
      generalize sumTo (overLo l b n) q = x at k1 k2 HF1 hq1 ⊢
      generalize sumTo (overHi l b n) q = y at k3 k4 HF2 hq1 ⊢
      clear HE
      have hwt := weight_any wr T d b q (by omega) HTw.out HB2.out
      generalize weightR b q = m at hwb hwt HF1 HF2 hq1
      have hwb1 : 0 ≤ m.lo ∧ m.lo ≤ 800000 ∧ 0 ≤ m.hi ∧ m.hi ≤ 800000 := by omega
      obtain ⟨g1, g2, g3, g4⟩ := hwb1
      have HQ1 := Lib.hid hq1
      clear hwb HTw hq1
      go_wp2_with fail
      refine hwt.mono ?_
      clear hwt
      rintro e v1 ⟨rfl, hb1⟩
      obtain ⟨c0, c1, c2, c3, c4, c5⟩ := HS.out.below hb1 hbA q hlt
      have hbA1 : bA < v1.heap.size := Nat.lt_of_lt_of_le hbA hb1.size
      have hB1 := hB.trans (hb1.mono hB.size)
      clear hb1
      generalize hsg : l[q] = s at c0 c1 c2 c3 c4 c5 hok HF1 HF2 HQ1
      clear hsg
      go_wp2_with fail
      have HM := Lib.hid (Blk.new v1 25 #[.int .i64 m.lo, .int .i64 m.hi])
      have hbx : Below v1.heap.size v1 (v1.alloc (.cells #[.int .i64 m.lo, .int .i64 m.hi] 25)) := (Below.refl _ _).alloc (Nat.le_refl _) _
      refine (corners_any' _ s).mono ?_
      rintro e v2 ⟨C, cC, rfl, hC, hb2'⟩
      have HP : Hid (PryS w m v1.heap.size C s v2) := ⟨(hB1.trans (hbx.mono hB1.size)).trans (hb2'.mono (Nat.le_trans hB1.size hbx.size)), HM.out.below hb2' HM.out.lt, hC⟩
      clear c0 c1 c2 c3 c4 c5 hbx HM hB1 hb2' hC hbA1
      generalize v1.heap.size = pm at HP ⊢
      obtain ⟨bC, oC, rfl, hbC, hcs⟩ := HP.out.cs (by simp [cornersR])
      clear hcs hbC
      go_wp2_with fail
      go_loopw [13, 14, 15] (fun lo hi i wr => ∃ k : Nat, k ≤ 8 ∧ i = .int .i64 k ∧ lo = .int .i64 (bLowK m n s k) ∧ hi = .int .i64 (bHighK m n s k) ∧ Hid (PryS w m pm (some ⟨bC, oC, none⟩) s wr)) (fun _ _ i _ => 8 - (intOf i).toNat)
      case atStart => exact ⟨0, by omega, rfl, rfl, rfl, HP⟩
      case round =>
        clear HP
        obtain ⟨k, hk, rfl, rfl, rfl, HP⟩ := hrel
        by_cases hlt2 : k < 8
        · obtain ⟨b', o', e, hbC, hcs⟩ := HP.out.cs (by simp [cornersR])
          cases e
          obtain ⟨q0, q1, q2⟩ := hcs k hlt2
          clear hcs
          have HN1 : Hid (bLowK m n s (k + 1) = bLow m n k (bLowK m n s k) ((cornersR s)[k]'hlt2)) := by
            show _ = _
            rw [bLowK, getD_mem8 s hlt2]
          have HN2 : Hid (bHighK m n s (k + 1) = bHigh m n k (bHighK m n s k) ((cornersR s)[k]'hlt2)) := by
            show _ = _
            rw [bHighK, getD_mem8 s hlt2]
          have hco := cornersR_ok hok _ (List.getElem_mem (l := cornersR s) (n := k) hlt2)
          generalize (cornersR s)[k] = co at q0 q1 q2 HN1 HN2 hco
          generalize bLowK m n s k = lo at HN1 ⊢
          generalize bHighK m n s k = hi' at HN2 ⊢
          obtain ⟨x1, x2⟩ := kindX_bd 1 hco
          obtain ⟨x3, x4⟩ := kindX_bd 4 hco
          obtain ⟨x5, x6⟩ := mul_bd h0 h1 x3 x4
          obtain ⟨x7, x8⟩ := overX_bd h0 h1 hco
          obtain ⟨⟨y1, y2⟩, y3, y4⟩ := cor_prod g1 g2 g3 g4 x7 x8
          obtain ⟨f1, f2, f3, f4, f5, f6⟩ := hco
          have HC1 : Hid (∀ W, Calls Try.prog 59 #[.int .i64 1, .int .i64 co.w, .int .i64 co.c, .int .i64 co.s] W fun e w' => e = .returned (.int .i64 (kindX 1 co)) ∧ w' = W) := fun W => (rof_any 1 (by omega) co.w co.c co.s W f1 f2 f3 f4 f5 f6).mono fun _ _ ⟨h, h'⟩ => ⟨h, h'.symm⟩
          have HC4 : Hid (∀ W, Calls Try.prog 59 #[.int .i64 4, .int .i64 co.w, .int .i64 co.c, .int .i64 co.s] W fun e w' => e = .returned (.int .i64 (kindX 4 co)) ∧ w' = W) := fun W => (rof_any 4 (by omega) co.w co.c co.s W f1 f2 f3 f4 f5 f6).mono fun _ _ ⟨h, h'⟩ => ⟨h, h'.symm⟩
          have hw1 : IntKind.i64.wrap (1000 * kindX 1 co) = 1000 * kindX 1 co := wrap_in (by omega) (by omega)
          have hw2 : IntKind.i64.wrap (n * kindX 4 co) = n * kindX 4 co := wrap_in (by omega) (by omega)
          have hw3 : IntKind.i64.wrap (1000 * kindX 1 co - n * kindX 4 co) = overX n co := wrap_in (by unfold overX at x7; omega) (by unfold overX at x8; omega)
          clear f1 f2 f3 f4 f5 f6 x1 x2 x3 x4 x5 x6
          go_wp2_with fail
          go_quiet ((first | (go_at_call 59; with_reducible exact Calls.quiet_of_same (HC1.out _)) | (go_at_call 59; with_reducible exact Calls.quiet_of_same (HC4.out _))))
          have HP4 : Hid (PryS w m pm (some ⟨bC, oC, none⟩) s (wr.drewN nq)) := HP.out.call (below_drewN (Below.refl _ _) nq)
          clear q0 q1 q2 hw1 hw2 hw3 HC1 HC4
          have m0 := HP4.out.m.cell 0
          have m1 := HP4.out.m.cell 1
          have HN3 : Hid (k = 0 → bLowK m n s (k + 1) = min (m.lo * overX n co) (m.hi * overX n co) ∧ bHighK m n s (k + 1) = max (m.lo * overX n co) (m.hi * overX n co)) := fun h => ⟨by rw [HN1.out, bLow, if_pos h], by rw [HN2.out, bHigh, if_pos h]⟩
          have HN4 : Hid (k ≠ 0 → bLowK m n s (k + 1) = min lo (min (m.lo * overX n co) (m.hi * overX n co)) ∧ bHighK m n s (k + 1) = max hi' (max (m.lo * overX n co) (m.hi * overX n co))) := fun h => ⟨by rw [HN1.out, bLow, if_neg h], by rw [HN2.out, bHigh, if_neg h]⟩
          clear HN1 HN2
          generalize overX n co = v at x7 x8 y1 y2 y3 y4 HN3 HN4 ⊢
          clear x7 x8
          by_cases hk0 : k = 0
          · have HE := HN3.out hk0
            have HE1 := Lib.hid HE.1
            have HE2 := Lib.hid HE.2
            subst hk0
            clear HE HN3 HN4
            by_cases ho : m.hi * v < m.lo * v
            · have hn : ¬ m.lo * v < m.hi * v := by omega
              go_wp2_with fail
              go_roundw
              case rel => exact ⟨1, by omega, rfl, congrArg (Value.int IntKind.i64) (by rw [HE1.out]; omega), congrArg (Value.int IntKind.i64) (by rw [HE2.out]; omega), HP4⟩
              case measure => simp [intOf]
            · by_cases ho2 : m.lo * v < m.hi * v
              · go_wp2_with fail
                go_roundw
                case rel => exact ⟨1, by omega, rfl, congrArg (Value.int IntKind.i64) (by rw [HE1.out]; omega), congrArg (Value.int IntKind.i64) (by rw [HE2.out]; omega), HP4⟩
                case measure => simp [intOf]
              · go_wp2_with fail
                go_roundw
                case rel => exact ⟨1, by omega, rfl, congrArg (Value.int IntKind.i64) (by rw [HE1.out]; omega), congrArg (Value.int IntKind.i64) (by rw [HE2.out]; omega), HP4⟩
                case measure => simp [intOf]
          · have HE := HN4.out hk0
            have HE1 := Lib.hid HE.1
            have HE2 := Lib.hid HE.2
            clear HE HN3 HN4
            by_cases ho : m.hi * v < m.lo * v
            · have hn : ¬ m.lo * v < m.hi * v := by omega
              have e1 := Lib.hid (HE1.out.trans (congrArg (min lo) (Int.min_eq_right (show m.hi * v ≤ m.lo * v by omega))))
              have e2 := Lib.hid (HE2.out.trans (congrArg (max hi') (Int.max_eq_left (show m.hi * v ≤ m.lo * v by omega))))
              clear HE1 HE2
              by_cases t1 : m.hi * v < lo <;> by_cases t2 : hi' < m.lo * v <;> go_wp2_with fail
              all_goals
                go_roundw
                case rel => exact ⟨k + 1, by omega, by go_num, congrArg (Value.int IntKind.i64) (by rw [e1.out]; omega), congrArg (Value.int IntKind.i64) (by rw [e2.out]; omega), HP4⟩
                case measure => simp [intOf]; omega
            · have e1 := Lib.hid (HE1.out.trans (congrArg (min lo) (Int.min_eq_left (show m.lo * v ≤ m.hi * v by omega))))
              have e2 := Lib.hid (HE2.out.trans (congrArg (max hi') (Int.max_eq_right (show m.lo * v ≤ m.hi * v by omega))))
              clear HE1 HE2
              by_cases ho2 : m.lo * v < m.hi * v
              · by_cases t1 : m.lo * v < lo <;> by_cases t2 : hi' < m.hi * v <;> go_wp2_with fail
                all_goals
                  go_roundw
                  case rel => exact ⟨k + 1, by omega, by go_num, congrArg (Value.int IntKind.i64) (by rw [e1.out]; omega), congrArg (Value.int IntKind.i64) (by rw [e2.out]; omega), HP4⟩
                  case measure => simp [intOf]; omega
              · by_cases t1 : m.lo * v < lo <;> by_cases t2 : hi' < m.lo * v <;> go_wp2_with fail
                all_goals
                  go_roundw
                  case rel => exact ⟨k + 1, by omega, by go_num, congrArg (Value.int IntKind.i64) (by rw [e1.out]; omega), congrArg (Value.int IntKind.i64) (by rw [e2.out]; omega), HP4⟩
                  case measure => simp [intOf]; omega
        · obtain rfl : k = 8 := by omega
          obtain ⟨y1, y2, y3, y4⟩ := HQ1.out
          have hB2 := HP.out.below
          generalize bLowK m n s 8 = lo at y1 y2 HF1 ⊢
          generalize bHighK m n s 8 = hi' at y3 y4 HF2 ⊢
          clear hk hlt2 HQ1
          go_wp2_with fail
          go_roundw
          case rel => exact ⟨q + 1, by omega, by go_num, by rw [HF1.out], by rw [HF2.out], hB2⟩
          case measure => simp [intOf]; omega
    · obtain rfl : q = l.length := by omega
      clear hpb
      go_wp2_with fail
      go_ret2
      exact ⟨rfl, hB⟩
end Go.Proofs.Ytoiggflhfbfiiaa
