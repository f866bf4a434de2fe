/- Walks of package shade: how black leads without strokes can be. -/
import Derived.Test.YtffglhnmgapndaaSh8
namespace Go.Proofs.Ytffglhnmgapndaa
open Go.RowKit Go.Shelf

set_option maxRecDepth 100000 in
set_option maxHeartbeats 2000000 in
theorem known_yes (w : World) (b off cp bL : Nat) (c : List Tint) (gl gh cl ch tl : Int) (h : Curve c) (hc : TintsAt w b off c) (hlt : b < w.heap.size) (hl : LdOk gl gh cl ch tl) (hL : Blk w bL 43 #[.int .i64 gl, .int .i64 gh, .int .i64 cl, .int .i64 ch, .int .i64 tl, .slice none 0 0, .int .i64 0, .int .i64 0, .int .i64 0, .int .i64 0, .int .i64 0]) (hx : palest c gl ch tl ≤ darkest c gh cl tl) :
    Calls Try.prog 28 #[.slice (some ⟨b, off, none⟩) c.length cp, .slice (some ⟨bL, 0, none⟩) 1 1, .bool true] w (RetBl (palest c gl ch tl) (darkest c gh cl tl) w) := by
  have HC := Lib.hid fun (W : World) (hW : Below w.heap.size w W) => hc.below hW hlt; have HLT := Lib.hid hlt; have HH := Lib.hid h; have HL := Lib.hid hl; have HK := Lib.hid (LdS.mk (Below.refl _ _) hL); have HX := Lib.hid hx; have h8 := h.eight; clear hc h hl hL hx hlt; go_enter Try.func28, Try.ntmps28
  go_wp2_with fail; refine (validCurve_yes w _ _ c HH.out (fun _ => ⟨b, off, rfl, HLT.out, HC.out _ (Below.refl _ _)⟩)).mono ?_; rintro e w1 ⟨rfl, hb1⟩; replace HK := Lib.hid (HK.out.call hb1); clear hb1; go_wp2_with fail; refine (validLeads_one w1 bL gl gh cl ch tl HL.out HK.out.blk).mono ?_; rintro e w2 ⟨rfl, hb1⟩; replace HK := Lib.hid (HK.out.call hb1); clear hb1; go_wp2_with fail
  refine (blacks_yes w2 b off cp bL c gl gh cl ch tl HH.out (HC.out _ HK.out.below) (Nat.lt_of_lt_of_le HLT.out HK.out.below.size) HL.out HK.out.blk HX.out).mono ?_
  rintro e w3 ⟨p, cap, rfl, a0, a1, a2, hb1⟩
  have HP : Hid (w3.cell? ⟨p, 0, none⟩ = some (.int .i64 (palest c gl ch tl)) ∧ w3.cell? ⟨p, 1, none⟩ = some (.int .i64 (darkest c gh cl tl)) ∧ p < w3.heap.size ∧ Below w.heap.size w w3) := Lib.hid ⟨a0, a1, a2, HK.out.below.trans (hb1.mono HK.out.below.size)⟩
  clear a0 a1 a2 hb1
  go_wp2_with fail
  go_ret2
  exact ⟨p, cap, rfl, HP.out⟩

set_option maxRecDepth 100000 in
set_option maxHeartbeats 2000000 in
theorem known_no (w : World) (b off cp bL : Nat) (c : List Tint) (gl gh cl ch tl : Int) (h : Curve c) (hc : TintsAt w b off c) (hlt : b < w.heap.size) (hl : LdOk gl gh cl ch tl) (hL : Blk w bL 43 #[.int .i64 gl, .int .i64 gh, .int .i64 cl, .int .i64 ch, .int .i64 tl, .slice none 0 0, .int .i64 0, .int .i64 0, .int .i64 0, .int .i64 0, .int .i64 0]) (hx : darkest c gh cl tl < palest c gl ch tl) :
    Calls Try.prog 28 #[.slice (some ⟨b, off, none⟩) c.length cp, .slice (some ⟨bL, 0, none⟩) 1 1, .bool true] w (Ret (.tuple #[.slice none 0 0, .int .i64 6]) w) := by
  have HC := Lib.hid fun (W : World) (hW : Below w.heap.size w W) => hc.below hW hlt; have HLT := Lib.hid hlt; have HH := Lib.hid h; have HL := Lib.hid hl; have HK := Lib.hid (LdS.mk (Below.refl _ _) hL); have HX := Lib.hid hx; have h8 := h.eight; clear hc h hl hL hx hlt; go_enter Try.func28, Try.ntmps28
  go_wp2_with fail; refine (validCurve_yes w _ _ c HH.out (fun _ => ⟨b, off, rfl, HLT.out, HC.out _ (Below.refl _ _)⟩)).mono ?_; rintro e w1 ⟨rfl, hb1⟩; replace HK := Lib.hid (HK.out.call hb1); clear hb1; go_wp2_with fail; refine (validLeads_one w1 bL gl gh cl ch tl HL.out HK.out.blk).mono ?_; rintro e w2 ⟨rfl, hb1⟩; replace HK := Lib.hid (HK.out.call hb1); clear hb1; go_wp2_with fail
  refine (blacks_no w2 b off cp bL c gl gh cl ch tl HH.out (HC.out _ HK.out.below) (Nat.lt_of_lt_of_le HLT.out HK.out.below.size) HL.out HK.out.blk HX.out).mono ?_
  rintro e w3 ⟨rfl, hb1⟩
  have HP := Lib.hid (HK.out.below.trans (hb1.mono HK.out.below.size))
  clear hb1
  go_wp2_with fail
  go_ret2
  exact ⟨rfl, HP.out⟩

set_option maxRecDepth 100000 in
set_option maxHeartbeats 2000000 in
theorem black_yes (w : World) (A : Option Addr) (cp : Nat) (c : List Tint) (gl gh cl ch tl : Int) (h : Curve c) (hA : TintSl w w.heap.size A c) (hl : LdOk gl gh cl ch tl) (hx : palest c gl ch tl ≤ darkest c gh cl tl) :
    Calls Try.prog 10 #[.slice A c.length cp, .agg #[.int .i64 gl, .int .i64 gh, .int .i64 cl, .int .i64 ch, .int .i64 tl, .slice none 0 0, .int .i64 0, .int .i64 0, .int .i64 0, .int .i64 0, .int .i64 0]] w (Ret (.tuple #[.agg #[.int .i64 (palest c gl ch tl), .int .i64 (darkest c gh cl tl)], .int .i64 0]) w) := by
  have h2 := h.two
  obtain ⟨b, off, rfl, hlt, hc⟩ := hA (by intro e; subst e; simp at h2)
  have HC := Lib.hid fun (W : World) (hW : Below w.heap.size w W) => hc.below hW hlt
  have HLT := Lib.hid hlt
  have HH := Lib.hid h
  have HL := Lib.hid hl
  have HX := Lib.hid hx
  clear hc h hl hx hA h2 hlt
  go_enter Try.func10, Try.ntmps10
  go_wp2_with fail
  have H3 : Hid (Below w.heap.size w (((w.alloc (.cells #[.int .i64 gl, .int .i64 gh, .int .i64 cl, .int .i64 ch, .int .i64 tl, .slice none 0 0, .int .i64 0, .int .i64 0, .int .i64 0, .int .i64 0, .int .i64 0] 43)).alloc (.cells #[.int .i64 0, .int .i64 0] 31)).alloc (.cells #[.int .i64 gl, .int .i64 gh, .int .i64 cl, .int .i64 ch, .int .i64 tl, .slice none 0 0, .int .i64 0, .int .i64 0, .int .i64 0, .int .i64 0, .int .i64 0] 43)) ∧ Blk (((w.alloc (.cells #[.int .i64 gl, .int .i64 gh, .int .i64 cl, .int .i64 ch, .int .i64 tl, .slice none 0 0, .int .i64 0, .int .i64 0, .int .i64 0, .int .i64 0, .int .i64 0] 43)).alloc (.cells #[.int .i64 0, .int .i64 0] 31)).alloc (.cells #[.int .i64 gl, .int .i64 gh, .int .i64 cl, .int .i64 ch, .int .i64 tl, .slice none 0 0, .int .i64 0, .int .i64 0, .int .i64 0, .int .i64 0, .int .i64 0] 43)) (w.heap.size + 1) 31 #[.int .i64 0, .int .i64 0] ∧ Blk (((w.alloc (.cells #[.int .i64 gl, .int .i64 gh, .int .i64 cl, .int .i64 ch, .int .i64 tl, .slice none 0 0, .int .i64 0, .int .i64 0, .int .i64 0, .int .i64 0, .int .i64 0] 43)).alloc (.cells #[.int .i64 0, .int .i64 0] 31)).alloc (.cells #[.int .i64 gl, .int .i64 gh, .int .i64 cl, .int .i64 ch, .int .i64 tl, .slice none 0 0, .int .i64 0, .int .i64 0, .int .i64 0, .int .i64 0, .int .i64 0] 43)) (w.heap.size + 1 + 1) 43 #[.int .i64 gl, .int .i64 gh, .int .i64 cl, .int .i64 ch, .int .i64 tl, .slice none 0 0, .int .i64 0, .int .i64 0, .int .i64 0, .int .i64 0, .int .i64 0] ∧ w.heap.size ≤ w.heap.size + 1) :=
    Lib.hid ⟨by repeat (first | exact Below.refl _ _ | assumption | refine Below.drew ?_ | refine Below.alloc ?_ (by first | omega | (simp only [World.size_alloc]; omega) | simp) _ | refine Below.setCell ?_ (by first | omega | (simp only [World.size_alloc]; omega) | simp) _), (blk_at _ _ (by simp)).alloc _, blk_at _ _ (by simp), by omega⟩
  generalize World.alloc (World.alloc (World.alloc w _) _) _ = V at H3 ⊢
  generalize w.heap.size + 1 + 1 = p6 at H3 ⊢
  generalize w.heap.size + 1 = p4 at H3 ⊢
  refine (known_yes V b off cp p6 c gl gh cl ch tl HH.out (HC.out _ H3.out.1) (Nat.lt_of_lt_of_le HLT.out H3.out.1.size) HL.out H3.out.2.2.1 HX.out).mono ?_
  rintro e w1 ⟨p, cap, rfl, a0, a1, a2, hb1⟩
  have H4 := Lib.hid (⟨H3.out.1.trans (hb1.mono H3.out.1.size), H3.out.2.1.below hb1 H3.out.2.1.lt, H3.out.2.2.2⟩ : Below w.heap.size w w1 ∧ Blk w1 p4 31 #[.int .i64 0, .int .i64 0] ∧ w.heap.size ≤ p4)
  clear H3 hb1
  have x0 := H4.out.2.1.cell 0
  have x1 := H4.out.2.1.cell 1
  have y0 := H4.out.2.1.frozen 0
  have y1 := H4.out.2.1.frozen 1
  go_wp2_with fail
  exact bodyPost_ret (results_blk_tmp rfl _ rfl ((H4.out.2.1.set_ 0 (.int .i64 (palest c gl ch tl))).set_ 1 (.int .i64 (darkest c gh cl tl))) (by kernel_rfl) (by kernel_rfl)) rfl ⟨rfl, Below.setCell (p := ⟨p4, 1, none⟩) (Below.setCell (p := ⟨p4, 0, none⟩) H4.out.1 H4.out.2.2 _) H4.out.2.2 _⟩
set_option maxRecDepth 100000 in
set_option maxHeartbeats 2000000 in
theorem black_no (w : World) (A : Option Addr) (cp : Nat) (c : List Tint) (gl gh cl ch tl : Int) (h : Curve c) (hA : TintSl w w.heap.size A c) (hl : LdOk gl gh cl ch tl) (hx : darkest c gh cl tl < palest c gl ch tl) :
    Calls Try.prog 10 #[.slice A c.length cp, .agg #[.int .i64 gl, .int .i64 gh, .int .i64 cl, .int .i64 ch, .int .i64 tl, .slice none 0 0, .int .i64 0, .int .i64 0, .int .i64 0, .int .i64 0, .int .i64 0]] w (Ret (.tuple #[.agg #[.int .i64 0, .int .i64 0], .int .i64 6]) w) := by
  have h2 := h.two
  obtain ⟨b, off, rfl, hlt, hc⟩ := hA (by intro e; subst e; simp at h2)
  have HC := Lib.hid fun (W : World) (hW : Below w.heap.size w W) => hc.below hW hlt
  have HLT := Lib.hid hlt
  have HH := Lib.hid h
  have HL := Lib.hid hl
  have HX := Lib.hid hx
  clear hc h hl hx hA h2 hlt
  go_enter Try.func10, Try.ntmps10
  go_wp2_with fail
  have H3 : Hid (Below w.heap.size w (((w.alloc (.cells #[.int .i64 gl, .int .i64 gh, .int .i64 cl, .int .i64 ch, .int .i64 tl, .slice none 0 0, .int .i64 0, .int .i64 0, .int .i64 0, .int .i64 0, .int .i64 0] 43)).alloc (.cells #[.int .i64 0, .int .i64 0] 31)).alloc (.cells #[.int .i64 gl, .int .i64 gh, .int .i64 cl, .int .i64 ch, .int .i64 tl, .slice none 0 0, .int .i64 0, .int .i64 0, .int .i64 0, .int .i64 0, .int .i64 0] 43)) ∧ Blk (((w.alloc (.cells #[.int .i64 gl, .int .i64 gh, .int .i64 cl, .int .i64 ch, .int .i64 tl, .slice none 0 0, .int .i64 0, .int .i64 0, .int .i64 0, .int .i64 0, .int .i64 0] 43)).alloc (.cells #[.int .i64 0, .int .i64 0] 31)).alloc (.cells #[.int .i64 gl, .int .i64 gh, .int .i64 cl, .int .i64 ch, .int .i64 tl, .slice none 0 0, .int .i64 0, .int .i64 0, .int .i64 0, .int .i64 0, .int .i64 0] 43)) (w.heap.size + 1) 31 #[.int .i64 0, .int .i64 0] ∧ Blk (((w.alloc (.cells #[.int .i64 gl, .int .i64 gh, .int .i64 cl, .int .i64 ch, .int .i64 tl, .slice none 0 0, .int .i64 0, .int .i64 0, .int .i64 0, .int .i64 0, .int .i64 0] 43)).alloc (.cells #[.int .i64 0, .int .i64 0] 31)).alloc (.cells #[.int .i64 gl, .int .i64 gh, .int .i64 cl, .int .i64 ch, .int .i64 tl, .slice none 0 0, .int .i64 0, .int .i64 0, .int .i64 0, .int .i64 0, .int .i64 0] 43)) (w.heap.size + 1 + 1) 43 #[.int .i64 gl, .int .i64 gh, .int .i64 cl, .int .i64 ch, .int .i64 tl, .slice none 0 0, .int .i64 0, .int .i64 0, .int .i64 0, .int .i64 0, .int .i64 0] ∧ w.heap.size ≤ w.heap.size + 1) :=
    Lib.hid ⟨by repeat (first | exact Below.refl _ _ | assumption | refine Below.drew ?_ | refine Below.alloc ?_ (by first | omega | (simp only [World.size_alloc]; omega) | simp) _ | refine Below.setCell ?_ (by first | omega | (simp only [World.size_alloc]; omega) | simp) _), (blk_at _ _ (by simp)).alloc _, blk_at _ _ (by simp), by omega⟩
  generalize World.alloc (World.alloc (World.alloc w _) _) _ = V at H3 ⊢
  generalize w.heap.size + 1 + 1 = p6 at H3 ⊢
  generalize w.heap.size + 1 = p4 at H3 ⊢
  refine (known_no V b off cp p6 c gl gh cl ch tl HH.out (HC.out _ H3.out.1) (Nat.lt_of_lt_of_le HLT.out H3.out.1.size) HL.out H3.out.2.2.1 HX.out).mono ?_
  rintro e w1 ⟨rfl, hb1⟩
  have H4 := Lib.hid (⟨H3.out.1.trans (hb1.mono H3.out.1.size), H3.out.2.1.below hb1 H3.out.2.1.lt, H3.out.2.2.2⟩ : Below w.heap.size w w1 ∧ Blk w1 p4 31 #[.int .i64 0, .int .i64 0] ∧ w.heap.size ≤ p4)
  clear H3 hb1
  have x0 := H4.out.2.1.cell 0
  have x1 := H4.out.2.1.cell 1
  have y0 := H4.out.2.1.frozen 0
  have y1 := H4.out.2.1.frozen 1
  go_wp2_with fail
  exact bodyPost_ret (results_blk_tmp rfl _ rfl ((H4.out.2.1.set_ 0 (.int .i64 0)).set_ 1 (.int .i64 0)) (by kernel_rfl) (by kernel_rfl)) rfl ⟨rfl, Below.setCell (p := ⟨p4, 1, none⟩) (Below.setCell (p := ⟨p4, 0, none⟩) H4.out.1 H4.out.2.2 _) H4.out.2.2 _⟩
end Go.Proofs.Ytffglhnmgapndaa
