/- Walks of the document's own definitions of layer 2: the curve, and whether it is valid. -/
import Derived.Test.YtffglhnmgapndaaSh2
namespace Go.Proofs.Ytffglhnmgapndaa
open Go.RowKit Go.Shelf

theorem two_newB (w : World) (B : Nat) (hB : B ≤ w.heap.size) (a b : Obj) : Below B w ((w.alloc a).alloc b).drew := ((((Below.refl _ _).mono hB).alloc hB _).alloc (by simp; omega) _).drew
/-- What is held behind the tints' boxes, beside the box of what is returned. -/
structure AtT (w : World) (B p q : Nat) (f t : Tint) (W : World) : Prop where
  below : Below w.heap.size w W
  box : Blk W B 50 #[.int .i64 0, .int .i64 0]
  f0 : W.cell? ⟨p, 0, none⟩ = some (.int .i64 f.r)
  f1 : W.cell? ⟨p, 1, none⟩ = some (.int .i64 f.b)
  t0 : W.cell? ⟨q, 0, none⟩ = some (.int .i64 t.r)
  t1 : W.cell? ⟨q, 1, none⟩ = some (.int .i64 t.b)

theorem AtT.ahead (w : World) (f t : Tint) : AtT w w.heap.size (w.heap.size + 1) (w.heap.size + 2) f t (((w.alloc (.cells #[.int .i64 0, .int .i64 0] 50)).alloc (.cells #[.int .i64 f.r, .int .i64 f.b] 57)).alloc (.cells #[.int .i64 t.r, .int .i64 t.b] 57)).drew :=
  ⟨((((Below.refl _ _).alloc (Nat.le_refl _) _).alloc (by simp) _).alloc (by simp; omega) _).drew, (((Blk.new w _ _).alloc _).alloc _).drew, by go_simp, by go_simp, by go_simp, by go_simp⟩
theorem AtT.behind (w : World) (f t : Tint) : AtT w w.heap.size (w.heap.size + 2) (w.heap.size + 1) f t (((w.alloc (.cells #[.int .i64 0, .int .i64 0] 50)).alloc (.cells #[.int .i64 t.r, .int .i64 t.b] 57)).alloc (.cells #[.int .i64 f.r, .int .i64 f.b] 57)).drew :=
  ⟨((((Below.refl _ _).alloc (Nat.le_refl _) _).alloc (by simp) _).alloc (by simp; omega) _).drew, (((Blk.new w _ _).alloc _).alloc _).drew, by go_simp, by go_simp, by go_simp, by go_simp⟩

set_option maxRecDepth 100000 in
set_option maxHeartbeats 4000000 in
theorem rat_any (w : World) (A : Option Addr) (cp : Nat) (c : List Tint) (g y : Int) (h : Curve c) (hA : TintSl w w.heap.size A c) (g0 : 0 ≤ g) (g1 : g ≤ 4000000000000) (y0 : 0 ≤ y) (y1 : y ≤ 4000000000000) (a0 : 0 < g + y) :
    Calls Try.prog 12 #[.slice A c.length cp, .int .i64 g, .int .i64 y] w (Ret (.agg #[.int .i64 (fracAt c g y).top, .int .i64 (fracAt c g y).under]) w) := by
  have h2 := h.two
  have h8 := h.eight
  obtain ⟨b, off, rfl, hlt, hc⟩ := hA (by intro e; subst e; simp at h2)
  have HC := Lib.hid (hc.below ((Below.refl _ _).alloc (Nat.le_refl _) (.cells #[.int .i64 0, .int .i64 0] 50) : Below w.heap.size w _) hlt)
  have H := Lib.hid h
  have HFR : Hid (fracAt c g y = fracIn (tAt c (nextIx c g (g + y) - 1)) (tAt c (nextIx c g (g + y))) g (g + y)) := rfl
  have HNX := Lib.hid (next_is h2 g (g + y))
  clear hc h hA
  go_enter Try.func12, Try.ntmps12
  go_wp2_with fail
  go_loop [8] (fun i => ∃ k : Nat, 1 ≤ k ∧ k < c.length ∧ i = .int .i64 k ∧ Hid (∀ j, 1 ≤ j → j < k → (tAt c j).r * (g + y) < 1000 * g)) (fun i => c.length - (intOf i).toNat)
  case atStart => exact ⟨1, by omega, by omega, rfl, Lib.hid fun j h1 h2 => by omega⟩
  case round =>
    obtain ⟨k, k1, k2, rfl, HB⟩ := hrel
    obtain ⟨c0, c1⟩ := HC.out k k2
    have hr := H.out.r_bd k2
    obtain ⟨r1, r2⟩ := hr
    have m1 := mul_bd r1 r2 (show 0 ≤ g + y by omega) (show g + y ≤ 8000000000000 by omega)
    obtain ⟨m1, m2⟩ := m1
    have hk0 : (0 : Int) ≤ (k : Int) := by omega
    have hkn : (k : Int) < (c.length : Int) := by omega
    go_wp2_with fail
    case roundEnd =>
      have hx : (tAt c k).r * (g + y) < 1000 * g := by assumption
      have hy : (k : Int) + 1 < (c.length : Int) := by assumption
      refine ⟨⟨k + 1, by omega, by omega, by go_num, Lib.hid fun j hj hj' => ?_⟩, by simp [intOf]; omega⟩
      by_cases e : j = k
      · subst e; exact hx
      · exact HB.out j hj (by omega)
    all_goals
      have HK : Hid (k = nextIx c g (g + y)) := Lib.hid ((IsNext.mk k1 k2 HB.out (fun hq => by omega)).uniq HNX.out)
      have HBY := (frac_bd H.out (IsNext.mk k1 k2 HB.out (fun hq => by omega)) g0 (by omega) a0).beyond
      rw [← HK.out] at HFR
      clear HK HNX HB c0 c1 r1 r2 m1 m2
      obtain ⟨j, rfl⟩ : ∃ j, k = j + 1 := ⟨k - 1, by omega⟩
      rw [show j + 1 - 1 = j by omega] at HFR HBY
      have hF := H.out.r_bd (i := j) (by omega)
      have hT := H.out.r_bd (i := j + 1) (by omega)
      have hFb := H.out.black j (by omega)
      have hTb := H.out.black (j + 1) (by omega)
      have hRi := H.out.rises j (by omega)
      obtain ⟨c0, c1⟩ := HC.out j (by omega)
      obtain ⟨d0, d1⟩ := HC.out (j + 1) (by omega)
      clear H HC k1 k2
      have hjw : IntKind.i64.wrap (j : Int) = (j : Int) := wr (by omega) (by omega)
      have hjt : ((j : Int) + 1).toNat = j + 1 := by omega
      have hj1 : (0 : Int) ≤ (j : Int) + 1 := by omega
      have hjn : (j : Int) + 1 < (c.length : Int) := by omega
      have hjn2 : (j : Int) < (c.length : Int) := by omega
      have hj0 : (0 : Int) ≤ (j : Int) := by omega
      go_cut [9, 10] (fun s9 s10 wx => ∃ p q : Nat, s9 = .pointer (some ⟨p, 0, none⟩) ∧ s10 = .pointer (some ⟨q, 0, none⟩) ∧ Hid (AtT w w.heap.size p q (tAt c j) (tAt c (j + 1)) wx))
      case first =>
        go_region_held3 (fun W => W.cell? ⟨b, off + j * 2, none⟩ = some (.int .i64 (tAt c j).r) ∧ W.cell? ⟨b, off + j * 2 + 1, none⟩ = some (.int .i64 (tAt c j).b) ∧ W.cell? ⟨b, off + (j + 1) * 2, none⟩ = some (.int .i64 (tAt c (j + 1)).r) ∧ W.cell? ⟨b, off + (j + 1) * 2 + 1, none⟩ = some (.int .i64 (tAt c (j + 1)).b)) (first | exact ⟨c0, c1, d0, d1⟩ | go_keep) (fail)
        all_goals go_wp2_with fail
        all_goals go_meet
        all_goals first
          | exact ⟨_, _, rfl, rfl, Lib.hid (AtT.ahead w _ _)⟩
          | exact ⟨_, _, rfl, rfl, Lib.hid (AtT.behind w _ _)⟩
          | fail "end"
      case rest =>
        obtain ⟨p, q, rfl, rfl, HT⟩ := hcut
        have e0 := HT.out.f0
        have e1 := HT.out.f1
        have e2 := HT.out.t0
        have e3 := HT.out.t1
        clear c0 c1 d0 d1 hjw hjt hj1 hjn2 hj0
        generalize tAt c j = f at *
        generalize tAt c (j + 1) = t at *
        obtain ⟨f1, f2⟩ := hF
        obtain ⟨t1, t2⟩ := hT
        obtain ⟨f3, f4⟩ := hFb
        obtain ⟨t3, t4⟩ := hTb
        obtain ⟨ri1, ri2⟩ := hRi
        obtain ⟨by1, by2⟩ := HBY
        have m1 := mul_bd f1 f2 (show 0 ≤ g + y by omega) (show g + y ≤ 8000000000000 by omega)
        have m2 := mul_bd (show 0 ≤ t.r - f.r by omega) (show t.r - f.r ≤ 1000 by omega) (show 0 ≤ g + y by omega) (show g + y ≤ 8000000000000 by omega)
        have m3 := mul_bd f3 f4 m2.1 m2.2
        have m4 := mul_bd (show 0 ≤ t.b - f.b by omega) (show t.b - f.b ≤ 200 by omega) by1 (show 1000 * g - f.r * (g + y) ≤ 8000000000000000 by omega)
        have m5 := mul_bd f3 f4 (show 0 ≤ t.r - f.r by omega) (show t.r - f.r ≤ 1000 by omega)
        rw [← Int.mul_assoc] at m3
        obtain ⟨m1, m1'⟩ := m1
        obtain ⟨m2, m2'⟩ := m2
        obtain ⟨m3, m3'⟩ := m3
        obtain ⟨m4, m4'⟩ := m4
        obtain ⟨m5, m5'⟩ := m5
        have HR : Hid ((fracAt c g y).top = f.b * (t.r - f.r) * (g + y) + (t.b - f.b) * (1000 * g - f.r * (g + y)) ∧ (fracAt c g y).under = (t.r - f.r) * (g + y)) := by
          refine Lib.hid ?_
          rw [HFR.out]
          exact ⟨rfl, rfl⟩
        clear HFR
        go_wp2_with (first | (refine wpList_store_row rfl 50 (.tmp 6) (.tmp 73) rfl w.heap.size #[.int .i64 (f.b * (t.r - f.r) * (g + y) + (t.b - f.b) * (1000 * g - f.r * (g + y))), .int .i64 ((t.r - f.r) * (g + y))] rfl rfl 50 _ HT.out.box (by kernel_rfl) rfl (by kernel_rfl) ?_))
        exact bodyPost_ret (results_blk rfl _ rfl (HT.out.box.row _) (by kernel_rfl) (by kernel_rfl)) rfl ⟨by rw [HR.out.1, HR.out.2], below_setRow HT.out.below (Nat.le_refl _) _⟩
end Go.Proofs.Ytffglhnmgapndaa
