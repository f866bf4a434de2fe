/- Walks of package shade: the curve at the ratio of a mix. -/
import Derived.Test.YtffglhnmgapndaaSh1
import Derived.Deep.CutBlock
import Derived.Deep.DeepCutAuto
namespace Go.Proofs.Ytffglhnmgapndaa
open Go.RowKit Go.Shelf

/-- A function value that bears one value ahead and tells a bool. -/
def IsPredF (w : World) (B : Nat) (v : Value) (n : Int) (p : Int → Bool) : Prop :=
  ∃ (k : Nat) (x : Value), v = .func (.func k) #[x] #[] ∧ (∀ args W, (callFunc k args).run Try.prog W = .ok (.enter k args) W) ∧
    ∀ (W : World) (i : Int), Below B w W → 0 ≤ i → i < n → Calls Try.prog k #[x, .int .i64 i] W (Ret (.bool (p i)) W)

set_option maxRecDepth 100000 in
set_option maxHeartbeats 2000000 in
theorem search_bears (w : World) (v : Value) (n : Int) (p : Int → Bool) (hn : 0 ≤ n) (hn' : n ≤ 1000000) (hp : IsPredF w w.heap.size v n p) (hm : ∀ i j, 0 ≤ i → i ≤ j → j < n → p i = true → p j = true) :
    Calls Try.prog 24 #[.int .i64 n, v] w (RetFirst n p w) := by
  obtain ⟨k, y, rfl, he, hc⟩ := hp
  have HC := Lib.hid hc
  have HM := Lib.hid hm
  clear hc hm
  go_enter Try.func24, Try.ntmps24
  go_wp2
  go_loopw [5, 6] (fun i j wr => ∃ a b : Int, i = .int .i64 a ∧ j = .int .i64 b ∧ 0 ≤ a ∧ a ≤ b ∧ b ≤ n ∧ Hid (∀ x, 0 ≤ x → x < a → p x = false) ∧ Hid (∀ x, b ≤ x → x < n → p x = true) ∧ Below w.heap.size w wr) (fun i j _ => (intOf j - intOf i).toNat)
  case atStart => exact ⟨0, n, rfl, rfl, by omega, hn, by omega, fun x h1 h2 => by omega, fun x h1 h2 => by omega, Below.refl _ _⟩
  case round =>
    obtain ⟨a, b, rfl, rfl, ha, hab, hb, hlo, hhi, hB⟩ := hrel
    by_cases hlt : a < b
    · go_wp2_with fail
      have hh1 : a ≤ (a + b) / 2 := by omega
      have hh2 : (a + b) / 2 < b := by omega
      generalize (a + b) / 2 = h at hh1 hh2 ⊢
      refine (HC.out wr h hB (by omega) (by omega)).mono ?_
      rintro e W1 ⟨rfl, hb1⟩
      have hB1 := hB.trans (hb1.mono hB.size)
      clear hb1 hB
      cases hph : p h with
      | true =>
        have H2 : Hid (∀ x, h ≤ x → x < n → p x = true) := fun x h1 h2 => HM.out h x (by omega) h1 h2 hph
        clear hph
        go_wp2
        go_roundw
        case rel => exact ⟨a, h, rfl, rfl, ha, hh1, by omega, hlo, H2, hB1⟩
        case measure => simp [intOf]; omega
      | false =>
        have H2 : Hid (∀ x, 0 ≤ x → x < h + 1 → p x = false) := fun x h1 h2 => by
          cases hpx : p x with
          | false => rfl
          | true => have := HM.out x h h1 (by omega) (by omega) hpx; rw [hph] at this; cases this
        clear hph
        go_wp2
        go_roundw
        case rel => exact ⟨h + 1, b, rfl, rfl, by omega, by omega, hb, H2, hhi, hB1⟩
        case measure => simp [intOf]; omega
    · obtain rfl : a = b := by omega
      go_wp2
      go_ret
      exact ⟨a, rfl, ha, hb, hlo, hhi, hB⟩

/-- Is the ratio of a mix at most that of a tint? -/
def uptoP (c : List Tint) (g y : Int) (i : Int) : Bool := decide (1000 * g ≤ (tAt c i.toNat).r * (g + y))
theorem upto_mono {c : List Tint} (h : Curve c) {g y : Int} (g0 : 0 ≤ g) (y0 : 0 ≤ y) (i j : Int) (h0 : 0 ≤ i) (hij : i ≤ j) (hj : j < (c.length : Int) - 1) (hp : uptoP c g y i = true) : uptoP c g y j = true := by
  simp only [uptoP, decide_eq_true_eq] at hp ⊢
  have h1 := (h.up_r (i := i.toNat) (j := j.toNat) (by omega) (by omega)).1
  have h2 := mul_le_r h1 (c := g + y) (by omega)
  omega
theorem next_of {c : List Tint} (h : Curve c) {g y : Int} (g1 : 1 ≤ g) {r : Int} (h0 : 0 ≤ r) (hr : r ≤ (c.length : Int) - 1) (hno : ∀ x, 0 ≤ x → x < r → uptoP c g y x = false) (hyes : ∀ x, r ≤ x → x < (c.length : Int) - 1 → uptoP c g y x = true) : r = (nextIx c g (g + y) : Int) := by
  have h2 := h.two
  have hr1 : 1 ≤ r := by
    by_cases e : 1 ≤ r
    · exact e
    · have e0 : r = 0 := by omega
      have := hyes 0 (by omega) (by omega)
      simp only [uptoP, decide_eq_true_eq] at this
      rw [show (0 : Int).toNat = 0 from rfl, h.first] at this
      omega
  have N : IsNext c g (g + y) r.toNat := ⟨by omega, by omega, fun j hj hj' => by
      have := hno j (by omega) (by omega)
      simp only [uptoP, decide_eq_false_iff_not] at this
      rw [show ((j : Int)).toNat = j by omega] at this
      omega, fun hlt => by
      have := hyes r (by omega) (by omega)
      simpa only [uptoP, decide_eq_true_eq] using this⟩
  have := N.uniq (next_is h2 g (g + y))
  omega
theorem isUpTo_pred (w : World) (b off cp : Nat) (c : List Tint) (g y : Int) (h : Curve c) (hc : TintsAt w b off c) (hlt : b < w.heap.size) (g0 : 0 ≤ g) (g1 : g ≤ 1073741824) (y0 : 0 ≤ y) (y1 : y ≤ 1073741824) :
    IsPredF w w.heap.size (.func (.func 69) #[.agg #[.slice (some ⟨b, off, none⟩) c.length cp, .int .i64 g, .int .i64 y]] #[]) ((c.length : Int) - 1) (uptoP c g y) := by
  refine ⟨_, _, rfl, enters_of Try.func69 (by kernel_rfl) rfl, fun W i hW h0 h1 => ?_⟩
  obtain ⟨k, rfl⟩ : ∃ k : Nat, i = (k : Int) := ⟨i.toNat, by omega⟩
  have hk : k < c.length := by omega
  have hr := h.r_bd hk
  have e : uptoP c g y (k : Int) = decide (1000 * g ≤ (tAt c k).r * (g + y)) := by
    unfold uptoP
    rw [show ((k : Int)).toNat = k by omega]
  rw [e]
  exact isUpTo_any b off c.length cp k g y (tAt c k).r W g0 g1 y0 y1 hr.1 hr.2 hk h.eight (Nat.lt_of_lt_of_le hlt hW.size) ((hc.below hW hlt) k hk).1

/-- What is held behind the tints' boxes. -/
structure MixT (w : World) (B p q b off n cp : Nat) (g y : Int) (f t : Tint) (W : World) : Prop where
  box : ShMix B w b off n cp g y W
  f0 : W.cell? ⟨p, 0, none⟩ = some (.int .i64 f.r)
  f1 : W.cell? ⟨p, 1, none⟩ = some (.int .i64 f.b)
  t0 : W.cell? ⟨q, 0, none⟩ = some (.int .i64 t.r)
  t1 : W.cell? ⟨q, 1, none⟩ = some (.int .i64 t.b)
  pl : p < W.heap.size
  ql : q < W.heap.size
theorem MixT.call {w : World} {B p q b off n cp : Nat} {g y : Int} {f t : Tint} {W W' : World} (h : MixT w B p q b off n cp g y f t W) (hb : Below W.heap.size W W') : MixT w B p q b off n cp g y f t W' :=
  ⟨h.box.call hb, (hb.cell (p := ⟨p, _, none⟩) h.pl).trans h.f0, (hb.cell (p := ⟨p, _, none⟩) h.pl).trans h.f1, (hb.cell (p := ⟨q, _, none⟩) h.ql).trans h.t0, (hb.cell (p := ⟨q, _, none⟩) h.ql).trans h.t1, Nat.lt_of_lt_of_le h.pl hb.size, Nat.lt_of_lt_of_le h.ql hb.size⟩

theorem MixT.cells {w : World} {B p q b off n cp : Nat} {g y : Int} {f t : Tint} {W : World} (h : MixT w B p q b off n cp g y f t W) :
    (W.cell? ⟨B, 0, none⟩ = some (.slice (some ⟨b, off, none⟩) n cp) ∧ W.cell? ⟨B, 1, none⟩ = some (.int .i64 g) ∧ W.cell? ⟨B, 2, none⟩ = some (.int .i64 y)) ∧ W.cell? ⟨p, 0, none⟩ = some (.int .i64 f.r) ∧ W.cell? ⟨p, 1, none⟩ = some (.int .i64 f.b) ∧ W.cell? ⟨q, 0, none⟩ = some (.int .i64 t.r) ∧ W.cell? ⟨q, 1, none⟩ = some (.int .i64 t.b) :=
  ⟨⟨h.box.2.2.1, h.box.2.2.2.1, h.box.2.2.2.2⟩, h.f0, h.f1, h.t0, h.t1⟩
theorem two_new (w : World) (a b : Obj) : Below w.heap.size w ((w.alloc a).alloc b).drew := (((Below.refl _ _).alloc (Nat.le_refl _) _).alloc (by simp) _).drew
theorem MixT.ahead {w w1 : World} {B b off n cp : Nat} {g y : Int} (h : ShMix B w b off n cp g y w1) (f t : Tint) :
    MixT w B w1.heap.size (w1.heap.size + 1) b off n cp g y f t ((w1.alloc (.cells #[.int .i64 f.r, .int .i64 f.b] 57)).alloc (.cells #[.int .i64 t.r, .int .i64 t.b] 57)).drew :=
  ⟨h.call (two_new _ _ _), by go_simp, by go_simp, by go_simp, by go_simp, by first | (simp; done) | (simp; omega), by first | (simp; done) | (simp; omega)⟩
theorem MixT.behind {w w1 : World} {B b off n cp : Nat} {g y : Int} (h : ShMix B w b off n cp g y w1) (f t : Tint) :
    MixT w B (w1.heap.size + 1) w1.heap.size b off n cp g y f t ((w1.alloc (.cells #[.int .i64 t.r, .int .i64 t.b] 57)).alloc (.cells #[.int .i64 f.r, .int .i64 f.b] 57)).drew :=
  ⟨h.call (two_new _ _ _), by go_simp, by go_simp, by go_simp, by go_simp, by first | (simp; done) | (simp; omega), by first | (simp; done) | (simp; omega)⟩

set_option maxRecDepth 100000 in
set_option maxHeartbeats 2000000 in
theorem mixBlack_any (w : World) (b off cp : Nat) (c : List Tint) (g y : Int) (h : Curve c) (hc : TintsAt w b off c) (hlt : b < w.heap.size) (g1 : 1 ≤ g) (g2 : g ≤ 1073741824) (y0 : 0 ≤ y) (y1 : y ≤ 1073741824) :
    Calls Try.prog 68 #[.agg #[.slice (some ⟨b, off, none⟩) c.length cp, .int .i64 g, .int .i64 y]] w (Ret (.tuple #[.int .i64 (fracAt c g y).top, .int .i64 (fracAt c g y).under]) w) := by
  have HC := Lib.hid hc
  have H := Lib.hid h
  have HP := Lib.hid fun (W : World) (hW : Below w.heap.size w W) => (isUpTo_pred W b off cp c g y h (hc.below hW hlt) (Nat.lt_of_lt_of_le hlt hW.size) (by omega) g2 y0 y1)
  have HM := Lib.hid (upto_mono h (g := g) (y := y) (by omega) y0)
  have HN := Lib.hid fun (r : Int) => next_of h g1 (y := y) (r := r)
  have h2 := h.two
  have h8 := h.eight
  clear hc h
  go_enter Try.func68, Try.ntmps68
  go_wp2_with fail
  have hb0 : Below w.heap.size w (w.alloc (.cells #[.slice (some ⟨b, off, none⟩) c.length cp, .int .i64 g, .int .i64 y] 124)) := (Below.refl _ _).alloc (Nat.le_refl _) _
  have HX0 := Lib.hid (ShMix.start w b off c.length cp g y)
  have HC0 := Lib.hid (HC.out.below hb0 hlt)
  refine (search_bears _ _ _ _ (by omega) (by omega) (HP.out _ hb0) HM.out).mono ?_
  rintro e w1 ⟨r, rfl, r0, r1, hno, hyes, hb1⟩
  obtain rfl := HN.out r r0 r1 hno hyes
  clear hno hyes r0 r1 HN HM HP
  have HX1 := Lib.hid (ShMix.call hb1 HX0.out)
  have HC1 := Lib.hid (HC0.out.below hb1 (Nat.lt_of_lt_of_le hlt hb0.size))
  have HB1 := Lib.hid (hb0.trans (hb1.mono hb0.size))
  have HFR : Hid (fracAt c g y = fracIn (tAt c (nextIx c g (g + y) - 1)) (tAt c (nextIx c g (g + y))) g (g + y)) := rfl
  have N := next_is h2 g (g + y)
  have i1 := N.one
  have i2 := N.lt
  have HNX := Lib.hid N
  clear N
  have hlt1 : b < w1.heap.size := Nat.lt_of_lt_of_le hlt HB1.out.size
  clear HX0 HC0 hb0 hb1 hlt
  generalize hj : nextIx c g (g + y) = i at *
  clear hj
  obtain ⟨j, rfl⟩ : ∃ j, i = j + 1 := ⟨i - 1, by omega⟩
  rw [show j + 1 - 1 = j by omega] at HFR
  have hj0 : (0 : Int) ≤ (j : Int) := by omega
  have hjn : (j : Int) + 1 < (c.length : Int) := by omega
  have hjn2 : (j : Int) < (c.length : Int) := by omega
  obtain ⟨x0, x1, x2, x3, x4⟩ := HX1.out
  obtain ⟨c0, c1⟩ := HC1.out j (by omega)
  obtain ⟨d0, d1⟩ := HC1.out (j + 1) (by omega)
  go_wp2_with fail
  clear i1 i2
  have hj1 : (0 : Int) ≤ (j : Int) + 1 := by omega
  have hjt : ((j : Int) + 1).toNat = j + 1 := by omega
  have hjw : IntKind.i64.wrap (j : Int) = (j : Int) := wr (by omega) (by omega)
  go_cut [5, 6] (fun s5 s6 wx => ∃ p q : Nat, s5 = .pointer (some ⟨p, 0, none⟩) ∧ s6 = .pointer (some ⟨q, 0, none⟩) ∧ Hid (MixT w w.heap.size p q b off c.length cp g y (tAt c j) (tAt c (j + 1)) wx))
  case first =>
    go_region_held3 (fun W => (W.cell? ⟨w.heap.size, 0, none⟩ = some (.slice (some ⟨b, off, none⟩) c.length cp) ∧ W.cell? ⟨w.heap.size, 1, none⟩ = some (.int .i64 g) ∧ W.cell? ⟨w.heap.size, 2, none⟩ = some (.int .i64 y)) ∧ W.cell? ⟨b, off + j * 2, none⟩ = some (.int .i64 (tAt c j).r) ∧ W.cell? ⟨b, off + j * 2 + 1, none⟩ = some (.int .i64 (tAt c j).b) ∧ W.cell? ⟨b, off + (j + 1) * 2, none⟩ = some (.int .i64 (tAt c (j + 1)).r) ∧ W.cell? ⟨b, off + (j + 1) * 2 + 1, none⟩ = some (.int .i64 (tAt c (j + 1)).b)) (first | exact ⟨⟨x2, x3, x4⟩, c0, c1, d0, d1⟩ | go_keep) (fail)
    all_goals go_wp2_with fail
    all_goals go_meet
    all_goals first
      | exact ⟨_, _, rfl, rfl, Lib.hid (MixT.ahead HX1.out _ _)⟩
      | exact ⟨_, _, rfl, rfl, Lib.hid (MixT.behind HX1.out _ _)⟩
      | fail "end"
  case rest =>
    obtain ⟨p, q, rfl, rfl, HT⟩ := hcut
    clear x0 x1 x2 x3 x4 c0 c1 d0 d1 HX1 HC1 HB1 hlt1 hjw hjt hj1 hj0 hjn2
    have hF := H.out.r_bd (i := j) (by omega)
    have hT := H.out.r_bd (i := j + 1) (by omega)
    have hFb := H.out.black j (by omega)
    have hTb := H.out.black (j + 1) (by omega)
    have hRi := H.out.rises j (by omega)
    have HBY := (frac_bd H.out HNX.out (by omega) (by omega) (by omega)).beyond
    rw [show j + 1 - 1 = j by omega] at HBY
    clear HNX H HC
    generalize tAt c j = f at *
    generalize tAt c (j + 1) = t at *
    obtain ⟨f1, f2⟩ := hF
    obtain ⟨t1, t2⟩ := hT
    obtain ⟨f3, f4⟩ := hFb
    obtain ⟨t3, t4⟩ := hTb
    obtain ⟨ri1, ri2⟩ := hRi
    obtain ⟨by1, by2⟩ := HBY
    have m1 := mul_bd f1 f2 (show 0 ≤ g + y by omega) (show g + y ≤ 2147483648 by omega)
    have m2 := mul_bd (show 0 ≤ t.r - f.r by omega) (show t.r - f.r ≤ 1000 by omega) (show 0 ≤ g + y by omega) (show g + y ≤ 2147483648 by omega)
    have m3 := mul_bd f3 f4 m2.1 m2.2
    have m4 := mul_bd (show 0 ≤ t.b - f.b by omega) (show t.b - f.b ≤ 200 by omega) by1 (show 1000 * g - f.r * (g + y) ≤ 2147483648000 by omega)
    obtain ⟨m1, m1'⟩ := m1
    obtain ⟨m2, m2'⟩ := m2
    obtain ⟨m3, m3'⟩ := m3
    obtain ⟨m4, m4'⟩ := m4
    have hw1 : IntKind.i64.wrap (1000 * g) = 1000 * g := wr (by omega) (by omega)
    have hw2 : IntKind.i64.wrap (f.r * (g + y)) = f.r * (g + y) := wr (by omega) (by omega)
    have hw3 : IntKind.i64.wrap (1000 * g - f.r * (g + y)) = 1000 * g - f.r * (g + y) := wr (by omega) (by omega)
    have hw4 : IntKind.i64.wrap (t.r - f.r) = t.r - f.r := wr (by omega) (by omega)
    have hw5 : IntKind.i64.wrap ((t.r - f.r) * (g + y)) = (t.r - f.r) * (g + y) := wr (by omega) (by omega)
    have HR : Hid ((fracAt c g y).top = f.b * ((t.r - f.r) * (g + y)) + (t.b - f.b) * (1000 * g - f.r * (g + y)) ∧ (fracAt c g y).under = (t.r - f.r) * (g + y)) := by
      refine Lib.hid ?_
      rw [HFR.out]
      simp only [fracIn]
      exact ⟨by rw [Int.mul_assoc f.b], trivial⟩
    clear HFR ri1 ri2 t1 t2 f1 f2
    go_wp2_with fail
    go_region_held3 (fun W => (W.cell? ⟨w.heap.size, 0, none⟩ = some (.slice (some ⟨b, off, none⟩) c.length cp) ∧ W.cell? ⟨w.heap.size, 1, none⟩ = some (.int .i64 g) ∧ W.cell? ⟨w.heap.size, 2, none⟩ = some (.int .i64 y)) ∧ W.cell? ⟨p, 0, none⟩ = some (.int .i64 f.r) ∧ W.cell? ⟨p, 1, none⟩ = some (.int .i64 f.b) ∧ W.cell? ⟨q, 0, none⟩ = some (.int .i64 t.r) ∧ W.cell? ⟨q, 1, none⟩ = some (.int .i64 t.b)) (first | exact HT.out.cells | exact (HT.out.call ((Below.refl _ _).drew.trans (by assumption))).cells | go_keep)
      (first | (go_at_call 70; (with_reducible refine (all_mix _ _ _ _ _ _ _ (by omega) g2 y0 y1).mono ?_); rintro e e' ⟨rfl, hb'⟩) | fail "no arm")
    replace HT := Lib.hid (HT.out.call ((Below.refl _ _).drew.trans (by assumption)))
    go_wp2_with fail
    go_region_held3 (fun W => (W.cell? ⟨w.heap.size, 0, none⟩ = some (.slice (some ⟨b, off, none⟩) c.length cp) ∧ W.cell? ⟨w.heap.size, 1, none⟩ = some (.int .i64 g) ∧ W.cell? ⟨w.heap.size, 2, none⟩ = some (.int .i64 y)) ∧ W.cell? ⟨p, 0, none⟩ = some (.int .i64 f.r) ∧ W.cell? ⟨p, 1, none⟩ = some (.int .i64 f.b) ∧ W.cell? ⟨q, 0, none⟩ = some (.int .i64 t.r) ∧ W.cell? ⟨q, 1, none⟩ = some (.int .i64 t.b)) (first | exact HT.out.cells | exact (HT.out.call ((Below.refl _ _).drew.trans (by assumption))).cells | go_keep)
      (first | (go_at_call 70; (with_reducible refine (all_mix _ _ _ _ _ _ _ (by omega) g2 y0 y1).mono ?_); rintro e e'' ⟨rfl, hb''⟩) | fail "no arm")
    replace HT := Lib.hid (HT.out.call ((Below.refl _ _).drew.trans (by assumption)))
    obtain ⟨-, e0, e1, e2, e3⟩ := HT.out.cells
    clear hw1 hw2 hw3 hw4 hw5 m1 m1'
    generalize (t.r - f.r) * (g + y) = U at *
    generalize 1000 * g - f.r * (g + y) = V at *
    go_wp2_with fail
    go_ret2
    rw [HR.out.1, HR.out.2]
    exact ⟨rfl, HT.out.box.1⟩
end Go.Proofs.Ytffglhnmgapndaa
