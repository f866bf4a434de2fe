/- Walks of package shade, and of the document's own definitions of layer 2: the leaves. -/
import Derived.Test.YtffglhnmgapndaaQd
import Derived.Test.YtffglhnmgapndaaSp
namespace Go.Proofs.Ytffglhnmgapndaa
open Go.RowKit Go.Shelf

/-- A slice of tints: its value reads as the list. -/
def TintsAt (w : World) (b off : Nat) (c : List Tint) : Prop := ∀ i, i < c.length → w.cell? ⟨b, off + i * 2, none⟩ = some (.int .i64 (tAt c i).r) ∧ w.cell? ⟨b, off + i * 2 + 1, none⟩ = some (.int .i64 (tAt c i).b)
def TintSl (w : World) (B : Nat) (A : Option Addr) (c : List Tint) : Prop := c ≠ [] → ∃ b off, A = some ⟨b, off, none⟩ ∧ b < B ∧ TintsAt w b off c
theorem TintsAt.below {w w' : World} {b off B : Nat} {c : List Tint} (h : TintsAt w b off c) (hb : Below B w w') (hlt : b < B) : TintsAt w' b off c := fun i hi => by
  obtain ⟨h0, h1⟩ := h i hi
  exact ⟨(hb.cell (p := ⟨b, _, none⟩) hlt).trans h0, (hb.cell (p := ⟨b, _, none⟩) hlt).trans h1⟩
theorem TintSl.below {w w' : World} {B : Nat} {A : Option Addr} {c : List Tint} (h : TintSl w B A c) (hb : Below B w w') : TintSl w' B A c := fun hne => by
  obtain ⟨b, off, e, hlt, hs⟩ := h hne
  exact ⟨b, off, e, hlt, hs.below hb hlt⟩
theorem TintSl.more {w : World} {B B' : Nat} {A : Option Addr} {c : List Tint} (h : TintSl w B A c) (hB : B ≤ B') : TintSl w B' A c := fun hne => by
  obtain ⟨b, off, e, hlt, hs⟩ := h hne
  exact ⟨b, off, e, by omega, hs⟩

set_option maxHeartbeats 400000 in
theorem all_mix (b off n cp : Nat) (g y : Int) (w : World) (g0 : 0 ≤ g) (g1 : g ≤ 1073741824) (y0 : 0 ≤ y) (y1 : y ≤ 1073741824) :
    Calls Try.prog 70 #[.agg #[.slice (some ⟨b, off, none⟩) n cp, .int .i64 g, .int .i64 y]] w (Ret (.int .i64 (g + y)) w) := by
  go_enter Try.func70, Try.ntmps70
  go_wp2
  go_ret
  exact ⟨rfl, (Below.refl _ _).alloc (Nat.le_refl _) _⟩

/-- What is held of the world in a region of a mix's method: its box, and a tint. -/
def ShMix (B : Nat) (w : World) (b off n cp : Nat) (g y : Int) (W : World) : Prop := Below B w W ∧ B < W.heap.size ∧ W.cell? ⟨B, 0, none⟩ = some (.slice (some ⟨b, off, none⟩) n cp) ∧ W.cell? ⟨B, 1, none⟩ = some (.int .i64 g) ∧ W.cell? ⟨B, 2, none⟩ = some (.int .i64 y)
theorem ShMix.start (w : World) (b off n cp : Nat) (g y : Int) : ShMix w.heap.size w b off n cp g y (w.alloc (.cells #[.slice (some ⟨b, off, none⟩) n cp, .int .i64 g, .int .i64 y] 124)) :=
  ⟨(Below.refl _ _).alloc (Nat.le_refl _) _, by simp, by go_simp, by go_simp, by go_simp⟩
theorem ShMix.call {B : Nat} {w W W' : World} {b off n cp : Nat} {g y : Int} (hb : Below W.heap.size W W') (h : ShMix B w b off n cp g y W) : ShMix B w b off n cp g y W' := by
  obtain ⟨h1, h2, h4, h5, h6⟩ := h
  have hs := hb.size
  exact ⟨h1.trans (hb.mono (by omega)), by omega, (hb.cell (p := ⟨B, 0, none⟩) h2).trans h4, (hb.cell (p := ⟨B, 1, none⟩) h2).trans h5, (hb.cell (p := ⟨B, 2, none⟩) h2).trans h6⟩
theorem ShMix.drew {B : Nat} {w W : World} {b off n cp : Nat} {g y : Int} (h : ShMix B w b off n cp g y W) : ShMix B w b off n cp g y W.drew := ⟨h.1.drew, h.2⟩

def ShUp (w : World) (b off n cp : Nat) (g y r : Int) (i : Nat) (W : World) : Prop := ShMix w.heap.size w b off n cp g y W ∧ W.cell? ⟨b, off + i * 2, none⟩ = some (.int .i64 r)
theorem ShUp.call {w W W' : World} {b off n cp i : Nat} {g y r : Int} (hlt : b < w.heap.size) (hb : Below W.heap.size W W') (h : ShUp w b off n cp g y r i W) : ShUp w b off n cp g y r i W' := by
  obtain ⟨h1, h2⟩ := h
  have hs := h1.2.1
  exact ⟨ShMix.call hb h1, (hb.cell (p := ⟨b, _, none⟩) (show b < W.heap.size by omega)).trans h2⟩

set_option maxHeartbeats 1000000 in
theorem isUpTo_any (b off n cp i : Nat) (g y r : Int) (w : World) (g0 : 0 ≤ g) (g1 : g ≤ 1073741824) (y0 : 0 ≤ y) (y1 : y ≤ 1073741824) (r0 : 0 ≤ r) (r1 : r ≤ 1000) (hi : i < n) (_ : n ≤ 8) (hlt : b < w.heap.size) (hc : w.cell? ⟨b, off + i * 2, none⟩ = some (.int .i64 r)) :
    Calls Try.prog 69 #[.agg #[.slice (some ⟨b, off, none⟩) n cp, .int .i64 g, .int .i64 y], .int .i64 i] w (Ret (.bool (decide (1000 * g ≤ r * (g + y)))) w) := by
  have HW : Hid (decide (IntKind.i64.wrap (1000 * g) ≤ IntKind.i64.wrap (r * (g + y))) = decide (1000 * g ≤ r * (g + y))) := by
    have h1 := mul_bd r0 r1 (show 0 ≤ g + y by omega) (show g + y ≤ 2147483648 by omega)
    show _ = _
    rw [wr (by omega) (by omega), wr (by omega) (by omega)]
  have HC := Lib.hid hc
  have HN := Lib.hid hlt
  clear hc
  have hi0 : (0 : Int) ≤ (i : Int) := by omega
  have hin : (i : Int) < (n : Int) := by omega
  go_enter Try.func69, Try.ntmps69
  go_wp2
  have h0 : ShUp w b off n cp g y r i _ := ⟨ShMix.start w b off n cp g y, ((Below.refl _ _).alloc (Nat.le_refl _) _ : Below w.heap.size w _).cell (p := ⟨b, _, none⟩) HN.out |>.trans HC.out⟩
  unfold ShUp ShMix at h0
  generalize w.alloc _ = W0 at h0 ⊢
  go_region_held3 (fun W => (Below w.heap.size w W ∧ w.heap.size < W.heap.size ∧ W.cell? ⟨w.heap.size, 0, none⟩ = some (.slice (some ⟨b, off, none⟩) n cp) ∧ W.cell? ⟨w.heap.size, 1, none⟩ = some (.int .i64 g) ∧ W.cell? ⟨w.heap.size, 2, none⟩ = some (.int .i64 y)) ∧ W.cell? ⟨b, off + i * 2, none⟩ = some (.int .i64 r)) (first | exact ⟨ShMix.drew h0.1, h0.2⟩ | (exact ShUp.call HN.out (by assumption) (by assumption)) | go_keep)
    (first | (go_at_call 70; (with_reducible refine (all_mix _ _ _ _ _ _ _ g0 g1 y0 y1).mono ?_); rintro e e' ⟨rfl, hb'⟩) | fail "no arm")
  go_wp2
  go_ret
  obtain ⟨⟨hH, -⟩, -⟩ : ShUp w b off n cp g y r i _ := by assumption
  exact ⟨ret_bool HW.out, hH⟩

set_option maxHeartbeats 400000 in
theorem common_any (a b c d : Int) (w : World) : Calls Try.prog 67 #[.agg #[.int .i64 a, .int .i64 b], .agg #[.int .i64 c, .int .i64 d]] w (Ret (.agg #[.int .i64 (max a c), .int .i64 (min b d)]) w) := by
  go_enter Try.func67, Try.ntmps67
  go_wp2
  all_goals exact bodyPost_ret (v := .agg #[.int .i64 (max a c), .int .i64 (min b d)]) (by simp [results, Try.results67, go_sem] <;> omega) rfl ⟨rfl, by repeat (first | exact Below.refl _ _ | assumption | refine Below.drew ?_ | refine Below.alloc ?_ (by first | omega | (simp only [World.size_alloc]; omega) | simp) _ | refine Below.setCell ?_ (by first | omega | (simp only [World.size_alloc]; omega) | simp) _)⟩

set_option maxHeartbeats 400000 in
theorem rin2_any (n a b : Int) (w : World) : Calls Try.prog 17 #[.int .i64 n, .int .i64 a, .int .i64 b] w fun e w' => e = .returned (.bool (decide (a ≤ n ∧ n ≤ b))) ∧ w = w' := by
  go_enter Try.func17, Try.ntmps17
  go_wp2
  all_goals go_ret
  all_goals exact ⟨ret_bool (by rw [Bool.eq_iff_iff]; first | (simp only [decide_eq_true_eq, Bool.false_eq_true, false_iff]; omega) | (simp; omega)), rfl⟩

set_option maxHeartbeats 400000 in
theorem rdown2_any (t u : Int) (w : World) (t0 : 0 ≤ t) (t1 : t ≤ 4000000000000000000) (u0 : 0 < u) (u1 : u ≤ 4000000000000000000) : Calls Try.prog 14 #[.agg #[.int .i64 t, .int .i64 u]] w (Ret (.int .i64 (t / u)) w) := by
  go_enter Try.func14, Try.ntmps14
  go_wp2
  go_ret
  exact ⟨rfl, (Below.refl _ _).alloc (Nat.le_refl _) _⟩

set_option maxHeartbeats 400000 in
theorem rup2_any (t u : Int) (w : World) (t0 : 0 ≤ t) (t1 : t ≤ 4000000000000000000) (u0 : 0 < u) (u1 : u ≤ 4000000000000000000) : Calls Try.prog 13 #[.agg #[.int .i64 t, .int .i64 u]] w (Ret (.int .i64 ((t + u - 1) / u)) w) := by
  go_enter Try.func13, Try.ntmps13
  go_wp2
  go_ret
  exact ⟨rfl, (Below.refl _ _).alloc (Nat.le_refl _) _⟩
end Go.Proofs.Ytffglhnmgapndaa
