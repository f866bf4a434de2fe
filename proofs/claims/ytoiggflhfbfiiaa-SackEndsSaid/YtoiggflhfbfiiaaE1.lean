/- The law SackEnds: sharp sacks. -/
import Derived.Test.YtoiggflhfbfiiaaSv
namespace Go.Proofs.Ytoiggflhfbfiiaa
open Go.RowKit Go.Shelf

def ptS (x : Cor) : Sack := ⟨⟨x.w, x.w⟩, ⟨x.c, x.c⟩, ⟨x.s, x.s⟩⟩
def cornAt (s : Sack) (j : Nat) : Cor := (cornersR s).getD j ⟨0, 0, 0⟩
def sharpL (l : List Sack) (bits : Nat) : List Sack := l.mapIdx fun i s => ptS (cornAt s (bits / 8 ^ i % 8))
def sharpUpto (l : List Sack) (bits k : Nat) : List Sack := (sharpL l bits).take k

def ShS (bA oA k : Nat) (s : Sack) (W : World) : Prop := W.cell? ⟨bA, oA + k * 6, none⟩ = some (.int .i64 s.w.lo) ∧ W.cell? ⟨bA, oA + k * 6 + 1, none⟩ = some (.int .i64 s.w.hi) ∧ W.cell? ⟨bA, oA + k * 6 + 2, none⟩ = some (.int .i64 s.c.lo) ∧ W.cell? ⟨bA, oA + k * 6 + 3, none⟩ = some (.int .i64 s.c.hi) ∧ W.cell? ⟨bA, oA + k * 6 + 4, none⟩ = some (.int .i64 s.l.lo) ∧ W.cell? ⟨bA, oA + k * 6 + 5, none⟩ = some (.int .i64 s.l.hi)
theorem ShS.to {bA oA k : Nat} {s : Sack} {W W' : World} (h : ShS bA oA k s W) (hA : bA < W.heap.size) (hb : Below W.heap.size W W') : ShS bA oA k s W' := by
  obtain ⟨c0, c1, c2, c3, c4, c5⟩ := h
  exact ⟨(hb.cell (p := ⟨bA, _, none⟩) hA).trans c0, (hb.cell (p := ⟨bA, _, none⟩) hA).trans c1, (hb.cell (p := ⟨bA, _, none⟩) hA).trans c2, (hb.cell (p := ⟨bA, _, none⟩) hA).trans c3, (hb.cell (p := ⟨bA, _, none⟩) hA).trans c4, (hb.cell (p := ⟨bA, _, none⟩) hA).trans c5⟩
theorem Blk3.set {W : World} {p : Nat} {t : TypeId} {a b c x y z : Value} (h : Blk W p t #[x, y, z]) : Blk (((W.setCell ⟨p, 0, none⟩ a).setCell ⟨p, 1, none⟩ b).setCell ⟨p, 2, none⟩ c) p t #[a, b, c] := ((h.set_ 0 a).set_ 1 b).set_ 2 c
theorem below_set3 {B : Nat} {w W : World} {p : Nat} {a b c : Value} (h : Below B w W) (hp : B ≤ p := by omega) : Below B w (((W.setCell ⟨p, 0, none⟩ a).setCell ⟨p, 1, none⟩ b).setCell ⟨p, 2, none⟩ c) :=
  Below.setCell (p := ⟨p, 2, none⟩) (Below.setCell (p := ⟨p, 1, none⟩) (Below.setCell (p := ⟨p, 0, none⟩) h hp _) hp _) hp _
def Pt3 (p : Nat) (x : Cor) (W : World) : Prop := W.cell? ⟨p, 0, none⟩ = some (.int .i64 x.w) ∧ W.cell? ⟨p, 1, none⟩ = some (.int .i64 x.c) ∧ W.cell? ⟨p, 2, none⟩ = some (.int .i64 x.s)
theorem Pt3.to {p : Nat} {x : Cor} {W W' : World} (h : Pt3 p x W) (hp : p < W.heap.size) (hb : Below W.heap.size W W') : Pt3 p x W' :=
  ⟨(hb.cell (p := ⟨p, _, none⟩) hp).trans h.1, (hb.cell (p := ⟨p, _, none⟩) hp).trans h.2.1, (hb.cell (p := ⟨p, _, none⟩) hp).trans h.2.2⟩
theorem pt3_grown {p : Nat} {t : TypeId} {x : Cor} {W V V' : World} {row : Option Nat} (h : Blk W p t #[.int .i64 x.w, .int .i64 x.c, .int .i64 x.s]) (hb : Below W.heap.size W V) (hg : V.grownBy V' row) (hne : some p ≠ row) : Pt3 p x V' := by
  have k := (h.below hb h.lt).kept hg hne
  exact ⟨k.cell 0, k.cell 1, k.cell 2⟩
theorem SackSl.of_own {w : World} {B n : Nat} {v : Value} {l : List Sack} (hn : l.length = n) (h : w.ownsRow B 57 6 v n (sackVs l)) : ∃ A c, v = .slice A n c ∧ SackSl w w.heap.size A l := by
  subst hn
  rcases Nat.eq_zero_or_pos l.length with h0 | hne
  · have : l = [] := List.eq_nil_of_length_eq_zero h0
    subst this
    rcases h.2 with ⟨rfl, _⟩ | ⟨g, cap, cur, rfl, _⟩
    · exact ⟨none, 0, rfl, fun h => absurd rfl h⟩
    · exact ⟨_, cap, rfl, fun h => absurd rfl h⟩
  · obtain ⟨g, cap, cur, rfl, -, hb, hc⟩ := own_blk h hne
    exact ⟨_, cap, rfl, hc.sl hb hb.lt⟩
theorem sackInfo6 : (Try.prog.info? 57).map (fun i => (i.zero, i.size, i.bytes)) = some (some (.agg #[.int .i64 0, .int .i64 0, .int .i64 0, .int .i64 0, .int .i64 0, .int .i64 0]), 6, 48) := by kernel_rfl
theorem sacksSl6 : Try.prog.underlying 22 = some (.slice 57) := by kernel_rfl
theorem sharpL_len (l : List Sack) (bits : Nat) : (sharpL l bits).length = l.length := by simp [sharpL]
theorem and7 {q : Nat} (h : q < 64) : Go.bits .and .u32 (q : Int) 7 = ((q % 8 : Nat) : Int) := by
  have key : ∀ q : Fin 64, Go.bits .and .u32 ((q.val : Nat) : Int) 7 = ((q.val % 8 : Nat) : Int) := by decide
  exact key ⟨q, h⟩
theorem shr3 (n k : Nat) : (n : Int) / 2 ^ (3 * (k : Int)).toNat = ((n / 8 ^ k : Nat) : Int) := by
  have e : (3 * (k : Int)).toNat = 3 * k := by omega
  have e2 : (2 : Int) ^ (3 * k) = ((8 ^ k : Nat) : Int) := by
    rw [Int.pow_mul]
    simp
  rw [e, e2]
  exact (Int.natCast_ediv _ _).symm
def RetCor (w : World) (x : Cor) (j : Nat) (e : Ending) (w' : World) : Prop := ∃ b o c, e = .returned (.slice (some ⟨b, o, none⟩) 8 c) ∧ b < w'.heap.size ∧ w'.cell? ⟨b, o + j * 3, none⟩ = some (.int .i64 x.w) ∧ w'.cell? ⟨b, o + j * 3 + 1, none⟩ = some (.int .i64 x.c) ∧ w'.cell? ⟨b, o + j * 3 + 2, none⟩ = some (.int .i64 x.s) ∧ Below w.heap.size w w'
theorem corners_at (w : World) (s : Sack) (j : Nat) (hj : j < 8) : Calls Try.prog 60 #[.agg #[.int .i64 s.w.lo, .int .i64 s.w.hi, .int .i64 s.c.lo, .int .i64 s.c.hi, .int .i64 s.l.lo, .int .i64 s.l.hi]] w (RetCor w (cornAt s j) j) := by
  refine (corners_any' w s).mono ?_
  rintro e w' ⟨A, c, rfl, h, hb⟩
  obtain ⟨b, o, rfl, hlt, hs⟩ := h (by simp [cornersR])
  have hj' : j < (cornersR s).length := hj
  obtain ⟨h0, h1, h2⟩ := hs j hj'
  have e : cornAt s j = (cornersR s)[j] := by unfold cornAt; rw [List.getD_eq_getElem?_getD, List.getElem?_eq_getElem hj']; rfl
  exact ⟨b, o, c, rfl, hlt, by rw [e]; exact h0, by rw [e]; exact h1, by rw [e]; exact h2, hb⟩
def RetSharp (w : World) (l : List Sack) (bits : Nat) (e : Ending) (w' : World) : Prop := ∃ A c, e = .returned (.slice A l.length c) ∧ SackSl w' w'.heap.size A (sharpL l bits) ∧ Below w.heap.size w w'
set_option maxRecDepth 100000 in
set_option maxHeartbeats 4000000 in
theorem sharp_any (w : World) (A : Option Addr) (c : Nat) (l : List Sack) (bits : Nat) (hb : bits < 64) (hl : l.length ≤ 2) (hA : SackSl w w.heap.size A l) :
    Calls Try.prog 25 #[.slice A l.length c, .int .u32 bits] w (RetSharp w l bits) := by
  have HA := Lib.hid hA
  clear hA
  go_enter Try.func25, Try.ntmps25
  go_wp2
  go_loopw [5, 6] (fun v i wr => ∃ k : Nat, k ≤ l.length ∧ i = .int .i64 k ∧ Hid (wr.ownsRow w.heap.size 57 6 v k (sackVs (sharpUpto l bits k))) ∧ Below w.heap.size w wr) (fun _ i _ => l.length - (intOf i).toNat)
  case atStart => exact ⟨0, by omega, rfl, World.ownsRow_nil _ _ _ _, Below.refl _ _⟩
  case round =>
    obtain ⟨k, hk, rfl, HW, hB⟩ := hrel
    by_cases hlt : k < l.length
    · obtain ⟨bA, oA, rfl, hbA, hs⟩ := HA.out (by intro e; subst e; simp at hlt)
      obtain ⟨c0, c1, c2, c3, c4, c5⟩ := hs k hlt
      clear hs
      rw [← hB.cell (p := ⟨bA, _, none⟩) hbA] at c0 c1 c2 c3 c4 c5
      have hk2 : k = 0 ∨ k = 1 := by omega
      have hs0 : (0 : Int) ≤ 3 * (k : Int) := by omega
      have hs1 : 3 * (k : Int) ≤ 32 := by omega
      have hw0 : IntKind.i64.wrap (3 * (k : Int)) = 3 * (k : Int) := wrap_in (by omega) (by omega)
      have hq := shr3 bits k
      have hqb : bits / 8 ^ k < 64 := Nat.lt_of_le_of_lt (Nat.div_le_self _ _) hb
      have hj := and7 hqb
      have hj8 : bits / 8 ^ k % 8 < 8 := Nat.mod_lt _ (by omega)
      have hj0 : (0 : Int) ≤ ((bits / 8 ^ k % 8 : Nat) : Int) := by omega
      have hj1 : ((bits / 8 ^ k % 8 : Nat) : Int) < 8 := by omega
      have HC := Lib.hid (fun W => corners_at W l[k] _ hj8)
      have HSK : Hid ((sharpL l bits)[k]'(by simp [sharpL]; exact hlt) = ptS (cornAt l[k] (bits / 8 ^ k % 8))) := by
        show _ = _
        simp [sharpL]
      generalize cornAt l[k] (bits / 8 ^ k % 8) = x at HC HSK
      generalize l[k] = s at c0 c1 c2 c3 c4 c5 HC
      generalize bits / 8 ^ k % 8 = j at hj hj8 hj0 hj1 HC
      generalize bits / 8 ^ k = q at hq hj
      go_wp2_with fail
      have HW0 := HW
      clear hs0 hs1
      have hbo : Below wr.heap.size wr wr.drew := (Below.refl _ _).drew
      have HS0 : Hid (ShS bA oA k s wr) := ⟨c0, c1, c2, c3, c4, c5⟩
      have hsz := hB.size
      have hbW : bA < wr.heap.size := by omega
      clear c0 c1 c2 c3 c4 c5
      go_cut [7] (fun s7 wx => ∃ p : Nat, s7 = .pointer (some ⟨p, 0, none⟩) ∧ Hid (Blk wx p 96 #[.int .i64 x.w, .int .i64 x.c, .int .i64 x.s]) ∧ Hid (Below wr.heap.size wr wx) ∧ wr.heap.size ≤ p)
      case first =>
        have hX0 := Lib.hid (fun (W : World) (h : Below (World.drew (World.alloc wr (.cells #[.int .i64 0, .int .i64 0, .int .i64 0] 96))).heap.size (World.drew (World.alloc wr (.cells #[.int .i64 0, .int .i64 0, .int .i64 0] 96))) W) => (Blk.new wr 96 #[.int .i64 0, .int .i64 0, .int .i64 0]).drew.below h (by simp))
        obtain ⟨c0, c1, c2, c3, c4, c5⟩ := HS0.out
        have hbO : Hid (Below wr.heap.size wr (World.drew (World.alloc wr (.cells #[.int .i64 0, .int .i64 0, .int .i64 0] 96)))) := Lib.hid (((Below.refl _ _).alloc (Nat.le_refl _) _).drew)
        replace hbo := Lib.hid hbo
        go_region_with
          (first
            | (go_at_call 60; (with_reducible refine (HC.out (World.drew (World.alloc wr (.cells #[.int .i64 0, .int .i64 0, .int .i64 0] 96)))).mono ?_); rintro e e' ⟨b', o', c', rfl, hlt', x0, x1, x2, hb'⟩; have HX := Lib.hid (hX0.out _ hb'); have HZ := Lib.hid (hbO.out.trans (hb'.mono (by simp))); have p0 := HX.out.cell 0; have p1 := HX.out.cell 1; have p2 := HX.out.cell 2; have f0 := HX.out.frozen 0; have f1 := HX.out.frozen 1; have f2 := HX.out.frozen 2; clear hb')
            | (go_at_call 60; (with_reducible refine (HC.out _).mono ?_); rintro e e' ⟨b', o', c', rfl, hlt', x0, x1, x2, hb'⟩; have HZ := Lib.hid (hbo.out.trans hb'); clear hb')
            | fail "no arm")
        all_goals go_wp2_with fail
        all_goals go_meet
        all_goals first
          | exact ⟨_, rfl, Lib.hid (Blk.new _ _ _), Lib.hid (HZ.out.alloc HZ.out.size _), HZ.out.size⟩
          | exact ⟨_, rfl, Lib.hid (Blk3.set HX.out), Lib.hid (below_set3 HZ.out), Nat.le_refl _⟩
          | fail "end"
      case rest =>
        obtain ⟨p, rfl, HX, HBX, hpw⟩ := hcut
        have HNE : Hid (some p ≠ u5.ownBlock) := Lib.hid fun e => by have := own_lt HW.out p e.symm; omega
        obtain ⟨i0, hi, hz0, hz1, hz2⟩ := info_parts sackInfo6
        have HW1 := Lib.hid (own_call HW.out HBX.out)
        have hB1 : Hid (Below w.heap.size w wc) := Lib.hid (hB.trans (HBX.out.mono hB.size))
        have hsz1 : w.heap.size ≤ wc.heap.size := hB1.out.size
        have hp := HX.out.lt
        have HP : Hid (Pt3 p x wc) := ⟨HX.out.cell 0, HX.out.cell 1, HX.out.cell 2⟩
        have hbo : Below wc.heap.size wc wc.drew := (Below.refl _ _).drew
        have HSN : Hid (sackVs (sharpUpto l bits (k + 1)) = sackVs (sharpUpto l bits k) ++ [.int .i64 x.w, .int .i64 x.w, .int .i64 x.c, .int .i64 x.c, .int .i64 x.s, .int .i64 x.s]) := by
          show _ = _
          unfold sharpUpto
          rw [List.take_succ_eq_append_getElem (by rw [sharpL_len]; exact hlt), HSK.out]
          simp [sackVs, ptS]
        generalize sackVs (sharpUpto l bits k) = xs at HW1 HSN
        clear HW HBX hB HSK HC HS0 hq hqb hj8 hj0 hj1 hsz hbW hbA HW0
        go_wp2_with fail
        go_region_held3 (fun W => W.cell? ⟨p, 0, none⟩ = some (.int .i64 x.w) ∧ W.cell? ⟨p, 1, none⟩ = some (.int .i64 x.c) ∧ W.cell? ⟨p, 2, none⟩ = some (.int .i64 x.s))
          (first | exact HP.out.to hp hbo | exact HP.out.to hp (hbo.alloc hbo.size _) | exact pt3_grown HX.out (hbo.alloc hbo.size _) hgrow HNE.out | fail "no keep")
          (first
            | (go_at_call 24; (with_reducible refine (span_any _ _ _).mono ?_); rintro e e' ⟨rfl, hb'⟩; replace hbo := hbo.trans (hb'.mono hbo.size); clear hb')
            | (refine step_append_lies _ (by rfl) _ _ _ (by rfl) w.heap.size 57 i0 _ 6 48 sacksSl6 hi hz0 hz1 hz2 rfl (by omega) u5 k xs (by rfl) (own_call HW1.out (hbo.alloc hbo.size _)) ⟨e'.heap.size, 0, none⟩ 1 1 [.int .i64 x.w, .int .i64 x.w, .int .i64 x.c, .int .i64 x.c, .int .i64 x.s, .int .i64 x.s] (by rfl) (by rfl) (World.news_of_block (cs := #[.int .i64 x.w, .int .i64 x.w, .int .i64 x.c, .int .i64 x.c, .int .i64 x.s, .int .i64 x.s]) (t := 57) (fr := (0, 0)) (World.alloc_heap_new e' _)) (by simp [Value.oneCell']) (by omega) (by unfold maxLen; omega) (by omega) (by have := hbo.size; simp only [World.size_alloc]; omega) (e'.heap.size + 1) (by simp) ?_; intro g cap w1 hown1 hgrow hat hlt1)
            | fail "no arm")
        all_goals go_wp2_with fail
        all_goals
          have hown2 : Hid (w1.ownsRow w.heap.size 57 6 (.slice (some ⟨g, 0, none⟩) (k + 1) cap) (k + 1) (sackVs (sharpUpto l bits (k + 1)))) := by
            rw [HSN.out]
            exact Lib.hid hown1
          have hB2 := hB1.out.trans (below_append hsz1 HW1.out (hbo.alloc hbo.size _) hgrow)
          clear hown1 hgrow hat hw0
          go_roundw
          case rel => exact ⟨k + 1, by omega, by go_num, hown2, hB2⟩
          case measure => simp [intOf]; omega
    · obtain rfl : k = l.length := by omega
      have hu : sharpUpto l bits l.length = sharpL l bits := by
        unfold sharpUpto
        rw [← sharpL_len l bits, List.take_length]
      rw [hu] at HW
      have HR : Hid (∃ A c, u5 = .slice A l.length c ∧ SackSl wr wr.heap.size A (sharpL l bits)) := Lib.hid (SackSl.of_own (sharpL_len l bits) HW.out)
      clear hu HW
      go_wp2
      go_ret
      obtain ⟨A', c', rfl, h1⟩ := HR.out
      exact ⟨A', c', rfl, h1, hB⟩
end Go.Proofs.Ytoiggflhfbfiiaa
