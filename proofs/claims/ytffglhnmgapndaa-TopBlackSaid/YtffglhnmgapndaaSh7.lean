/- Walks of package shade: what leads were made of bounds how black they are. -/
import Derived.Test.YtffglhnmgapndaaSh6
namespace Go.Proofs.Ytffglhnmgapndaa
open Go.RowKit Go.Shelf

structure CutS (w : World) (B2 B3 B4 B5 B6 b off n cp : Nat) (gl gh cl ch tl bl bh : Int) (W : World) : Prop where
  below : Below w.heap.size w W
  b2 : Blk W B2 106 #[.slice (some ⟨b, off, none⟩) n cp, .int .i64 gl, .int .i64 gh, .int .i64 cl, .int .i64 ch, .int .i64 tl, .slice none 0 0, .int .i64 0, .int .i64 0, .int .i64 0, .int .i64 0, .int .i64 0]
  b3 : Blk W B3 31 #[.int .i64 bl, .int .i64 bh]
  b4 : Blk W B4 31 #[.int .i64 0, .int .i64 0]
  b5 : Blk W B5 124 #[.slice (some ⟨b, off, none⟩) n cp, .int .i64 gl, .int .i64 ch]
  b6 : Blk W B6 124 #[.slice (some ⟨b, off, none⟩) n cp, .int .i64 gh, .int .i64 cl]
  le : w.heap.size ≤ B4
theorem CutS.call {w : World} {B2 B3 B4 B5 B6 b off n cp : Nat} {gl gh cl ch tl bl bh : Int} {W W' : World} (h : CutS w B2 B3 B4 B5 B6 b off n cp gl gh cl ch tl bl bh W) (hb : Below W.heap.size W W') : CutS w B2 B3 B4 B5 B6 b off n cp gl gh cl ch tl bl bh W' :=
  ⟨h.below.trans (hb.mono h.below.size), h.b2.below hb h.b2.lt, h.b3.below hb h.b3.lt, h.b4.below hb h.b4.lt, h.b5.below hb h.b5.lt, h.b6.below hb h.b6.lt, h.le⟩
theorem CutS.all {w : World} {B2 B3 B4 B5 B6 b off n cp : Nat} {gl gh cl ch tl bl bh : Int} {W : World} (h : CutS w B2 B3 B4 B5 B6 b off n cp gl gh cl ch tl bl bh W) : W.cell? ⟨B2, 5, none⟩ = some (.int .i64 tl) ∧ W.cell? ⟨B3, 0, none⟩ = some (.int .i64 bl) ∧ W.cell? ⟨B3, 1, none⟩ = some (.int .i64 bh) ∧ W.cell? ⟨B5, 0, none⟩ = some (.slice (some ⟨b, off, none⟩) n cp) ∧ W.cell? ⟨B5, 1, none⟩ = some (.int .i64 gl) ∧ W.cell? ⟨B5, 2, none⟩ = some (.int .i64 ch) ∧ W.cell? ⟨B6, 0, none⟩ = some (.slice (some ⟨b, off, none⟩) n cp) ∧ W.cell? ⟨B6, 1, none⟩ = some (.int .i64 gh) ∧ W.cell? ⟨B6, 2, none⟩ = some (.int .i64 cl) :=
  ⟨h.b2.cell 5, h.b3.cell 0, h.b3.cell 1, h.b5.cell 0, h.b5.cell 1, h.b5.cell 2, h.b6.cell 0, h.b6.cell 1, h.b6.cell 2⟩
theorem blk_at {W : World} {p : Nat} (t : TypeId) (cs : Array Value) (h : p = W.heap.size) : Blk (W.alloc (.cells cs t)) p t cs := by subst h; exact Blk.new _ _ _
theorem CutS.start (w : World) (b off n cp : Nat) (gl gh cl ch tl bl bh : Int) : CutS w w.heap.size (w.heap.size + 1) (w.heap.size + 1 + 1) (w.heap.size + 1 + 1 + 1) (w.heap.size + 1 + 1 + 1 + 1) b off n cp gl gh cl ch tl bl bh (((((w.alloc (.cells #[.slice (some ⟨b, off, none⟩) n cp, .int .i64 gl, .int .i64 gh, .int .i64 cl, .int .i64 ch, .int .i64 tl, .slice none 0 0, .int .i64 0, .int .i64 0, .int .i64 0, .int .i64 0, .int .i64 0] 106)).alloc (.cells #[.int .i64 bl, .int .i64 bh] 31)).alloc (.cells #[.int .i64 0, .int .i64 0] 31)).alloc (.cells #[.slice (some ⟨b, off, none⟩) n cp, .int .i64 gl, .int .i64 ch] 124)).alloc (.cells #[.slice (some ⟨b, off, none⟩) n cp, .int .i64 gh, .int .i64 cl] 124)) :=
  ⟨by repeat (first | exact Below.refl _ _ | assumption | refine Below.drew ?_ | refine Below.alloc ?_ (by first | omega | (simp only [World.size_alloc]; omega) | simp) _ | refine Below.setCell ?_ (by first | omega | (simp only [World.size_alloc]; omega) | simp) _), ((((Blk.new _ _ _).alloc _).alloc _).alloc _).alloc _, (((blk_at _ _ (by simp)).alloc _).alloc _).alloc _, ((blk_at _ _ (by simp)).alloc _).alloc _, (blk_at _ _ (by simp)).alloc _, blk_at _ _ (by simp), by omega⟩

set_option maxRecDepth 100000 in
set_option maxHeartbeats 4000000 in
theorem cut_any (w : World) (b off cp : Nat) (c : List Tint) (gl gh cl ch tl bl bh : Int) (h : Curve c) (hc : TintsAt w b off c) (hlt : b < w.heap.size) (hl : LdOk gl gh cl ch tl) :
    Calls Try.prog 66 #[.agg #[.slice (some ⟨b, off, none⟩) c.length cp, .int .i64 gl, .int .i64 gh, .int .i64 cl, .int .i64 ch, .int .i64 tl, .slice none 0 0, .int .i64 0, .int .i64 0, .int .i64 0, .int .i64 0, .int .i64 0], .agg #[.int .i64 bl, .int .i64 bh]] w
      (Ret (.agg #[.int .i64 (max bl (cdiv (fracAt c gl ch).top (fracAt c gl ch).under - tl)), .int .i64 (min bh ((fracAt c gh cl).top / (fracAt c gh cl).under + tl))]) w) := by
  have H := Lib.hid h
  have HC := Lib.hid fun (W : World) (hW : Below w.heap.size w W) => hc.below hW hlt
  obtain ⟨⟨g1, g2, g3⟩, ⟨y1, y2, y3⟩, t1, t2⟩ := hl
  have F1 := fracAt_bd h (g := gl) (y := ch) (by omega) (by omega) (by omega)
  have F2 := fracAt_bd h (g := gh) (y := cl) (by omega) (by omega) (by omega)
  obtain ⟨f1, f2, f3, f4⟩ := F1
  obtain ⟨k1, k2, k3, k4⟩ := F2
  have hu : 0 ≤ cdiv (fracAt c gl ch).top (fracAt c gl ch).under ∧ cdiv (fracAt c gl ch).top (fracAt c gl ch).under ≤ 200 := by
    have h1 := (Frac.bds f1 f3 f4).2.2
    unfold Frac.up at h1
    rw [up_cdiv f1] at h1
    exact h1
  have hd : 0 ≤ (fracAt c gh cl).top / (fracAt c gh cl).under ∧ (fracAt c gh cl).top / (fracAt c gh cl).under ≤ 200 := by
    have h1 := Frac.bds k1 k3 k4
    exact ⟨h1.1, h1.2.1⟩
  obtain ⟨u1, u2⟩ := hu
  obtain ⟨u3, u4⟩ := hd
  have HUP : Hid (∀ W, Calls Try.prog 39 #[.int .i64 (fracAt c gl ch).top, .int .i64 (fracAt c gl ch).under] W fun e w' => e = .returned (.int .i64 (cdiv (fracAt c gl ch).top (fracAt c gl ch).under)) ∧ W = w') := fun W => up_any _ _ W f1 (by omega) (by omega)
  have HDN : Hid (∀ W, Calls Try.prog 38 #[.int .i64 (fracAt c gh cl).top, .int .i64 (fracAt c gh cl).under] W fun e w' => e = .returned (.int .i64 ((fracAt c gh cl).top / (fracAt c gh cl).under)) ∧ W = w') := fun W => down_any _ _ W k1 (by omega) (by omega)
  have HB1 : Hid (∀ W, Below w.heap.size w W → Calls Try.prog 68 #[.agg #[.slice (some ⟨b, off, none⟩) c.length cp, .int .i64 gl, .int .i64 ch]] W (Ret (.tuple #[.int .i64 (fracAt c gl ch).top, .int .i64 (fracAt c gl ch).under]) W)) := fun W hW => mixBlack_any W b off cp c gl ch h (hc.below hW hlt) (Nat.lt_of_lt_of_le hlt hW.size) (by omega) (by omega) (by omega) (by omega)
  have HB2 : Hid (∀ W, Below w.heap.size w W → Calls Try.prog 68 #[.agg #[.slice (some ⟨b, off, none⟩) c.length cp, .int .i64 gh, .int .i64 cl]] W (Ret (.tuple #[.int .i64 (fracAt c gh cl).top, .int .i64 (fracAt c gh cl).under]) W)) := fun W hW => mixBlack_any W b off cp c gh cl h (hc.below hW hlt) (Nat.lt_of_lt_of_le hlt hW.size) (by omega) (by omega) (by omega) (by omega)
  clear f1 f2 f3 f4 k1 k2 k3 k4 h hc H HC g1 g2 g3 y1 y2 y3
  generalize cdiv (fracAt c gl ch).top (fracAt c gl ch).under = X at *
  generalize (fracAt c gh cl).top / (fracAt c gh cl).under = Z at *
  have hw1 : IntKind.i64.wrap (X - tl) = X - tl := wrap_in (by omega) (by omega)
  have hw2 : IntKind.i64.wrap (Z + tl) = Z + tl := wrap_in (by omega) (by omega)
  go_enter Try.func66, Try.ntmps66
  go_wp2_with fail
  have HQ0 := Lib.hid (CutS.start w b off c.length cp gl gh cl ch tl bl bh)
  generalize World.alloc (World.alloc _ _) _ = V at HQ0 ⊢
  have n2 : w.heap.size + 1 + 1 ≠ w.heap.size := by omega
  have n3 : w.heap.size + 1 + 1 ≠ w.heap.size + 1 := by omega
  have n5 : w.heap.size + 1 + 1 ≠ w.heap.size + 1 + 1 + 1 := by omega
  have n6 : w.heap.size + 1 + 1 ≠ w.heap.size + 1 + 1 + 1 + 1 := by omega
  generalize w.heap.size + 1 + 1 + 1 + 1 = B6 at *
  generalize w.heap.size + 1 + 1 + 1 = B5 at *
  generalize w.heap.size + 1 + 1 = B4 at *
  generalize w.heap.size + 1 = B3 at *
  have HQ := Lib.hid (HQ0.out.call (Below.refl _ _).drew)
  clear HQ0
  go_region_held3 (fun W => W.cell? ⟨w.heap.size, 5, none⟩ = some (.int .i64 tl) ∧ W.cell? ⟨B3, 0, none⟩ = some (.int .i64 bl) ∧ W.cell? ⟨B3, 1, none⟩ = some (.int .i64 bh) ∧ W.cell? ⟨B5, 0, none⟩ = some (.slice (some ⟨b, off, none⟩) c.length cp) ∧ W.cell? ⟨B5, 1, none⟩ = some (.int .i64 gl) ∧ W.cell? ⟨B5, 2, none⟩ = some (.int .i64 ch) ∧ W.cell? ⟨B6, 0, none⟩ = some (.slice (some ⟨b, off, none⟩) c.length cp) ∧ W.cell? ⟨B6, 1, none⟩ = some (.int .i64 gh) ∧ W.cell? ⟨B6, 2, none⟩ = some (.int .i64 cl))
    (first | exact CutS.all HQ.out | go_keep)
    (first
      | (go_at_call 68; (with_reducible refine (HB1.out _ HQ.out.below).mono ?_); rintro e e' ⟨rfl, hb'⟩; replace HQ := Lib.hid (HQ.out.call hb'); clear hb')
      | (go_at_call 68; (with_reducible refine (HB2.out _ HQ.out.below).mono ?_); rintro e e' ⟨rfl, hb'⟩; replace HQ := Lib.hid (HQ.out.call hb'); clear hb')
      | (go_at_call 39; (with_reducible refine (HUP.out _).mono ?_); rintro e e' ⟨rfl, rfl⟩)
      | (go_at_call 38; (with_reducible refine (HDN.out _).mono ?_); rintro e e' ⟨rfl, rfl⟩)
      | (go_at_call 67; (with_reducible refine (common_any _ _ _ _ _).mono ?_); rintro e e' ⟨rfl, hb'⟩; replace HQ := Lib.hid (HQ.out.call hb'); clear hb'; have g0 := HQ.out.b4.cell 0; have g1 := HQ.out.b4.cell 1; have k0 := HQ.out.b4.frozen 0; have k1 := HQ.out.b4.frozen 1)
      | fail "no arm")
  go_wp2_with fail
  exact bodyPost_ret (results_blk rfl _ rfl ((HQ.out.b4.set_ 0 (.int .i64 (max bl (X - tl)))).set_ 1 (.int .i64 (min bh (Z + tl)))) (by kernel_rfl) (by kernel_rfl)) rfl ⟨rfl, Below.setCell (p := ⟨B4, 1, none⟩) (Below.setCell (p := ⟨B4, 0, none⟩) HQ.out.below HQ.out.le _) HQ.out.le _⟩
end Go.Proofs.Ytffglhnmgapndaa
