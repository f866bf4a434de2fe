/- Walks: whether a lead is as wide as it must be. -/
import Derived.Test.YtdadgljllnkppaaMt
namespace Go.Proofs.Ytdadgljllnkppaa
open Go.RowKit Go.Shelf

theorem cmp_ge (a b : Int) : decide (0 ≤ cmpI (a * 1000) (b * 1000000)) = decide (1000 * b ≤ a) := by
  unfold cmpI
  rw [Bool.eq_iff_iff]
  simp only [decide_eq_true_eq]
  split <;> (try split) <;> omega
theorem cmp_le (a b : Int) : decide (cmpI (a * 1000) (b * 1000000) ≤ 0) = decide (a ≤ 1000 * b) := by
  unfold cmpI
  rw [Bool.eq_iff_iff]
  simp only [decide_eq_true_eq]
  split <;> (try split) <;> omega
/-- What is held of the world while a die is asked: its box, and that of a span. -/
def ThS (w : World) (q r s q2 r2 s2 : Nat) (lo hi : Int) (W : World) : Prop := Below w.heap.size w W ∧ W.cell? ⟨w.heap.size, 3, none⟩ = some (.func (.func 134) #[] #[.pointer (some ⟨q, 0, none⟩), .pointer (some ⟨r, 0, none⟩), .pointer (some ⟨s, 0, none⟩)]) ∧ W.cell? ⟨w.heap.size, 5, none⟩ = some (.func (.func 134) #[] #[.pointer (some ⟨q2, 0, none⟩), .pointer (some ⟨r2, 0, none⟩), .pointer (some ⟨s2, 0, none⟩)]) ∧ W.cell? ⟨w.heap.size + 1, 0, none⟩ = some (.int .i64 lo) ∧ W.cell? ⟨w.heap.size + 1, 1, none⟩ = some (.int .i64 hi)
theorem ThS.start (w : World) (q r s q2 r2 s2 : Nat) (lo hi : Int) (d : Die) : ThS w q r s q2 r2 s2 lo hi ((w.alloc (.cells #[.int .i64 d.wide, .int .i64 d.wear.lo, .int .i64 d.wear.hi, .func (.func 134) #[] #[.pointer (some ⟨q, 0, none⟩), .pointer (some ⟨r, 0, none⟩), .pointer (some ⟨s, 0, none⟩)], .func (.func 98) #[] #[], .func (.func 134) #[] #[.pointer (some ⟨q2, 0, none⟩), .pointer (some ⟨r2, 0, none⟩), .pointer (some ⟨s2, 0, none⟩)], .func (.func 99) #[] #[]] 112)).alloc (.cells #[.int .i64 lo, .int .i64 hi] 24)) :=
  ⟨by repeat (first | exact Below.refl _ _ | assumption | refine Below.drew ?_ | refine Below.alloc ?_ (by first | omega | (simp only [World.size_alloc]; omega) | simp) _ | refine Below.setCell ?_ (by first | omega | (simp only [World.size_alloc]; omega) | simp) _), by go_simp, by go_simp, by go_simp, by go_simp⟩
theorem ThS.drew {w : World} {q r s q2 r2 s2 : Nat} {lo hi : Int} {W : World} (h : ThS w q r s q2 r2 s2 lo hi W) : ThS w q r s q2 r2 s2 lo hi W.drew := ⟨h.1.drew, h.2⟩
set_option maxRecDepth 100000 in
set_option maxHeartbeats 2000000 in
theorem isThick_any (w : World) (q r s q2 r2 s2 : Nat) (d : Die) (sh : Span) (lo hi u : Int) (hM : Mounted w w.heap.size q r s q2 r2 s2 d sh) (hd : DieIn d) (hs : ShrIn sh) (l0 : 0 ≤ lo) (l1 : lo ≤ 20000) (u0 : 0 ≤ u) (u1 : u ≤ 9000) :
    Calls Try.prog 69 #[.agg #[.int .i64 d.wide, .int .i64 d.wear.lo, .int .i64 d.wear.hi, .func (.func 134) #[] #[.pointer (some ⟨q, 0, none⟩), .pointer (some ⟨r, 0, none⟩), .pointer (some ⟨s, 0, none⟩)], .func (.func 98) #[] #[], .func (.func 134) #[] #[.pointer (some ⟨q2, 0, none⟩), .pointer (some ⟨r2, 0, none⟩), .pointer (some ⟨s2, 0, none⟩)], .func (.func 99) #[] #[]], .agg #[.int .i64 lo, .int .i64 hi], .int .i64 u] w (Ret (.bool (decide (1000 * lo ≤ thin d sh u))) w) := by
  have ht := thin_bd hd hs u0 u1
  have HW : Hid (∀ V, Below w.heap.size w V → Calls Try.prog 134 #[.int .i64 u, .pointer (some ⟨q, 0, none⟩), .pointer (some ⟨r, 0, none⟩), .pointer (some ⟨s, 0, none⟩)] V fun e w' => e = .returned (.int .i64 (thin d sh u)) ∧ V = w') := fun V hV => by
    obtain ⟨a, b, c, e, f⟩ := hd
    obtain ⟨g, h, i⟩ := hs
    exact width_any V q r s _ _ _ u (hM.lo.on hV (Nat.le_refl _)) a b c (by omega) (by omega) i u0 u1
  clear hd hs hM
  obtain ⟨t0, t1⟩ := ht
  have HC := Lib.hid fun V => compare_any (thin d sh u) lo V t0 (by omega) l0 l1
  have HE := Lib.hid (cmp_ge (thin d sh u) lo)
  generalize thin d sh u = t at *
  go_enter Try.func69, Try.ntmps69
  go_wp2_with fail
  have h0 := ThS.start w q r s q2 r2 s2 lo hi d
  unfold ThS at h0
  generalize World.alloc (World.alloc w _) _ = W0 at h0 ⊢
  go_region_held3 (fun W => Below w.heap.size w W ∧ W.cell? ⟨w.heap.size, 3, none⟩ = some (.func (.func 134) #[] #[.pointer (some ⟨q, 0, none⟩), .pointer (some ⟨r, 0, none⟩), .pointer (some ⟨s, 0, none⟩)]) ∧ W.cell? ⟨w.heap.size, 5, none⟩ = some (.func (.func 134) #[] #[.pointer (some ⟨q2, 0, none⟩), .pointer (some ⟨r2, 0, none⟩), .pointer (some ⟨s2, 0, none⟩)]) ∧ W.cell? ⟨w.heap.size + 1, 0, none⟩ = some (.int .i64 lo) ∧ W.cell? ⟨w.heap.size + 1, 1, none⟩ = some (.int .i64 hi)) (first | exact ThS.drew h0 | assumption | go_keep)
    (first
      | (go_at_call 134; (with_reducible refine (HW.out _ h0.1.drew).mono ?_); rintro e e' ⟨rfl, rfl⟩)
      | (go_at_call 101; (with_reducible refine (HC.out _).mono ?_); rintro e e' ⟨rfl, rfl⟩)
      | fail "no arm")
  go_wp2
  go_ret
  exact ⟨ret_bool HE.out, h0.1.drew⟩
set_option maxRecDepth 100000 in
set_option maxHeartbeats 2000000 in
theorem isThin_any (w : World) (q r s q2 r2 s2 : Nat) (d : Die) (sh : Span) (lo hi u : Int) (hM : Mounted w w.heap.size q r s q2 r2 s2 d sh) (hd : DieIn d) (hs : ShrIn sh) (l0 : 0 ≤ hi) (l1 : hi ≤ 20000) (u0 : 0 ≤ u) (u1 : u ≤ 9000) :
    Calls Try.prog 71 #[.agg #[.int .i64 d.wide, .int .i64 d.wear.lo, .int .i64 d.wear.hi, .func (.func 134) #[] #[.pointer (some ⟨q, 0, none⟩), .pointer (some ⟨r, 0, none⟩), .pointer (some ⟨s, 0, none⟩)], .func (.func 98) #[] #[], .func (.func 134) #[] #[.pointer (some ⟨q2, 0, none⟩), .pointer (some ⟨r2, 0, none⟩), .pointer (some ⟨s2, 0, none⟩)], .func (.func 99) #[] #[]], .agg #[.int .i64 lo, .int .i64 hi], .int .i64 u] w (Ret (.bool (decide (thick d sh u ≤ 1000 * hi))) w) := by
  have ht := thick_bd hd hs u0 u1
  have HW : Hid (∀ V, Below w.heap.size w V → Calls Try.prog 134 #[.int .i64 u, .pointer (some ⟨q2, 0, none⟩), .pointer (some ⟨r2, 0, none⟩), .pointer (some ⟨s2, 0, none⟩)] V fun e w' => e = .returned (.int .i64 (thick d sh u)) ∧ V = w') := fun V hV => by
    obtain ⟨a, b, c, e, f⟩ := hd
    obtain ⟨g, h, i⟩ := hs
    exact width_any V q2 r2 s2 _ _ _ u (hM.hi.on hV (Nat.le_refl _)) a b (by omega) f g (by omega) u0 u1
  clear hd hs hM
  obtain ⟨t0, t1⟩ := ht
  have HC := Lib.hid fun V => compare_any (thick d sh u) hi V t0 (by omega) l0 l1
  have HE := Lib.hid (cmp_le (thick d sh u) hi)
  generalize thick d sh u = t at *
  go_enter Try.func71, Try.ntmps71
  go_wp2_with fail
  have h0 := ThS.start w q r s q2 r2 s2 lo hi d
  unfold ThS at h0
  generalize World.alloc (World.alloc w _) _ = W0 at h0 ⊢
  go_region_held3 (fun W => Below w.heap.size w W ∧ W.cell? ⟨w.heap.size, 3, none⟩ = some (.func (.func 134) #[] #[.pointer (some ⟨q, 0, none⟩), .pointer (some ⟨r, 0, none⟩), .pointer (some ⟨s, 0, none⟩)]) ∧ W.cell? ⟨w.heap.size, 5, none⟩ = some (.func (.func 134) #[] #[.pointer (some ⟨q2, 0, none⟩), .pointer (some ⟨r2, 0, none⟩), .pointer (some ⟨s2, 0, none⟩)]) ∧ W.cell? ⟨w.heap.size + 1, 0, none⟩ = some (.int .i64 lo) ∧ W.cell? ⟨w.heap.size + 1, 1, none⟩ = some (.int .i64 hi)) (first | exact ThS.drew h0 | assumption | go_keep)
    (first
      | (go_at_call 134; (with_reducible refine (HW.out _ h0.1.drew).mono ?_); rintro e e' ⟨rfl, rfl⟩)
      | (go_at_call 101; (with_reducible refine (HC.out _).mono ?_); rintro e e' ⟨rfl, rfl⟩)
      | fail "no arm")
  go_wp2
  go_ret
  exact ⟨ret_bool HE.out, h0.1.drew⟩
set_option maxHeartbeats 2000000 in
theorem does_any (w : World) (q r s q2 r2 s2 : Nat) (d : Die) (sh : Span) (x : Draw) (u : Int) (hM : Mounted w w.heap.size q r s q2 r2 s2 d sh) (hd : DieIn d) (hs : ShrIn sh) (hx : drawOk x = true) (u0 : 0 ≤ u) (u1 : u ≤ 8000) :
    Calls Try.prog 73 #[.agg #[.int .i64 d.wide, .int .i64 d.wear.lo, .int .i64 d.wear.hi, .func (.func 134) #[] #[.pointer (some ⟨q, 0, none⟩), .pointer (some ⟨r, 0, none⟩), .pointer (some ⟨s, 0, none⟩)], .func (.func 98) #[] #[], .func (.func 134) #[] #[.pointer (some ⟨q2, 0, none⟩), .pointer (some ⟨r2, 0, none⟩), .pointer (some ⟨s2, 0, none⟩)], .func (.func 99) #[] #[]], .agg #[.int .i64 x.len, .int .i64 x.want.lo, .int .i64 x.want.hi], .int .i64 u] w (Ret (.bool (doesB d sh x u)) w) := by
  simp only [drawOk, Bool.and_eq_true, fromB_iff, withinB_iff] at hx
  obtain ⟨⟨x0, x1⟩, x2, x3, x4⟩ := hx
  have hM0 := hM.on (w' := (w.alloc (.cells #[.int .i64 d.wide, .int .i64 d.wear.lo, .int .i64 d.wear.hi, .func (.func 134) #[] #[.pointer (some ⟨q, 0, none⟩), .pointer (some ⟨r, 0, none⟩), .pointer (some ⟨s, 0, none⟩)], .func (.func 98) #[] #[], .func (.func 134) #[] #[.pointer (some ⟨q2, 0, none⟩), .pointer (some ⟨r2, 0, none⟩), .pointer (some ⟨s2, 0, none⟩)], .func (.func 99) #[] #[]] 112)).alloc (.cells #[.int .i64 x.len, .int .i64 x.want.lo, .int .i64 x.want.hi] 51)) (by repeat (first | exact Below.refl _ _ | assumption | refine Below.drew ?_ | refine Below.alloc ?_ (by first | omega | (simp only [World.size_alloc]; omega) | simp) _ | refine Below.setCell ?_ (by first | omega | (simp only [World.size_alloc]; omega) | simp) _)) (Nat.le_refl _)
  have HM := Lib.hid hM0
  have HD := Lib.hid hd
  have HS := Lib.hid hs
  clear hM hM0 hd hs
  have HE : Hid (∀ a b, decide (1000 * x.want.lo ≤ thin d sh u) = a → decide (thick d sh (u + x.len) ≤ 1000 * x.want.hi) = b → doesB d sh x u = (a && b)) := fun a b h1 h2 => by rw [← h1, ← h2]; rfl
  cases h1 : decide (1000 * x.want.lo ≤ thin d sh u) with
  | false =>
    have H1 := Lib.hid h1
    clear h1
    go_enter Try.func73, Try.ntmps73
    go_wp2_with (go_at_call 69; (with_reducible refine (isThick_any _ _ _ _ _ _ _ _ _ _ _ _ HM.out HD.out HS.out x2 (by omega) u0 (by omega)).mono ?_); rintro e W1 ⟨he, hb1⟩; rw [H1.out] at he; subst he)
    go_ret
    exact ⟨ret_bool ((HE.out _ _ H1.out rfl).symm), (by repeat (first | exact Below.refl _ _ | assumption | refine Below.drew ?_ | refine Below.alloc ?_ (by first | omega | (simp only [World.size_alloc]; omega) | simp) _ | refine Below.setCell ?_ (by first | omega | (simp only [World.size_alloc]; omega) | simp) _) : Below w.heap.size w _).trans (hb1.mono (by simp only [World.size_alloc]; omega))⟩
  | true =>
    have H1 := Lib.hid h1
    clear h1
    go_enter Try.func73, Try.ntmps73
    go_wp2_with fail
    refine (isThick_any _ _ _ _ _ _ _ _ _ _ _ _ HM.out HD.out HS.out x2 (by omega) u0 (by omega)).mono ?_
    rintro e W1 ⟨he, hb1⟩
    rw [H1.out] at he
    subst he
    replace HM := Lib.hid (HM.out.on hb1 (Nat.le_refl _))
    have hbw : Below w.heap.size w W1 := (by repeat (first | exact Below.refl _ _ | assumption | refine Below.drew ?_ | refine Below.alloc ?_ (by first | omega | (simp only [World.size_alloc]; omega) | simp) _ | refine Below.setCell ?_ (by first | omega | (simp only [World.size_alloc]; omega) | simp) _) : Below w.heap.size w ((w.alloc (.cells #[.int .i64 d.wide, .int .i64 d.wear.lo, .int .i64 d.wear.hi, .func (.func 134) #[] #[.pointer (some ⟨q, 0, none⟩), .pointer (some ⟨r, 0, none⟩), .pointer (some ⟨s, 0, none⟩)], .func (.func 98) #[] #[], .func (.func 134) #[] #[.pointer (some ⟨q2, 0, none⟩), .pointer (some ⟨r2, 0, none⟩), .pointer (some ⟨s2, 0, none⟩)], .func (.func 99) #[] #[]] 112)).alloc (.cells #[.int .i64 x.len, .int .i64 x.want.lo, .int .i64 x.want.hi] 51))).trans (hb1.mono (by simp only [World.size_alloc]; omega))
    have HB := Lib.hid hbw
    have b0 := (Blk.new w 112 #[.int .i64 d.wide, .int .i64 d.wear.lo, .int .i64 d.wear.hi, .func (.func 134) #[] #[.pointer (some ⟨q, 0, none⟩), .pointer (some ⟨r, 0, none⟩), .pointer (some ⟨s, 0, none⟩)], .func (.func 98) #[] #[], .func (.func 134) #[] #[.pointer (some ⟨q2, 0, none⟩), .pointer (some ⟨r2, 0, none⟩), .pointer (some ⟨s2, 0, none⟩)], .func (.func 99) #[] #[]]).alloc (.cells #[.int .i64 x.len, .int .i64 x.want.lo, .int .i64 x.want.hi] 51)
    have b1 := blk_at (W := w.alloc (.cells #[.int .i64 d.wide, .int .i64 d.wear.lo, .int .i64 d.wear.hi, .func (.func 134) #[] #[.pointer (some ⟨q, 0, none⟩), .pointer (some ⟨r, 0, none⟩), .pointer (some ⟨s, 0, none⟩)], .func (.func 98) #[] #[], .func (.func 134) #[] #[.pointer (some ⟨q2, 0, none⟩), .pointer (some ⟨r2, 0, none⟩), .pointer (some ⟨s2, 0, none⟩)], .func (.func 99) #[] #[]] 112)) (n := w.heap.size + 1) 51 #[.int .i64 x.len, .int .i64 x.want.lo, .int .i64 x.want.hi] (by simp)
    replace b0 := b0.below hb1 b0.lt
    replace b1 := b1.below hb1 b1.lt
    clear hbw hb1
    have y0 := b0.cell 0
    have y1 := b0.cell 1
    have y2 := b0.cell 2
    have y3 := b0.cell 3
    have y4 := b0.cell 4
    have y5 := b0.cell 5
    have y6 := b0.cell 6
    have z0 := b1.cell 0
    have z1 := b1.cell 1
    have z2 := b1.cell 2
    clear b0 b1
    go_wp2_with fail
    refine (isThin_any _ _ _ _ _ _ _ _ _ _ _ _ HM.out HD.out HS.out (by omega) x4 (by omega) (by omega)).mono ?_
    rintro e W2 ⟨rfl, hb2⟩
    have hB := HB.out.trans (hb2.mono HB.out.size)
    go_wp2_with fail
    go_ret
    exact ⟨ret_bool (by rw [HE.out _ _ H1.out rfl]; rfl), hB⟩

end Go.Proofs.Ytdadgljllnkppaa
