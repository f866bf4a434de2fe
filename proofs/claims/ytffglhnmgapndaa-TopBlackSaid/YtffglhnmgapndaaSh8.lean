/- Walks of package shade: all that bounds how black leads without strokes can be, and how black they can be. -/
import Derived.Test.YtffglhnmgapndaaSh7
namespace Go.Proofs.Ytffglhnmgapndaa
open Go.RowKit Go.Shelf

def RetEv (b off n cp : Nat) (gl gh cl ch tl : Int) (w : World) (e : Ending) (w' : World) : Prop :=
  ∃ p : Nat, e = .returned (.slice (some ⟨p, 0, none⟩) 1 1) ∧ Blk w' p 98 #[.iface 106 (.agg #[.slice (some ⟨b, off, none⟩) n cp, .int .i64 gl, .int .i64 gh, .int .i64 cl, .int .i64 ch, .int .i64 tl, .slice none 0 0, .int .i64 0, .int .i64 0, .int .i64 0, .int .i64 0, .int .i64 0])] ∧ w.heap.size ≤ p ∧ Below w.heap.size w w'
set_option maxRecDepth 100000 in
set_option maxHeartbeats 2000000 in
theorem evidenceOf_any (w : World) (b off n cp : Nat) (gl gh cl ch tl : Int) :
    Calls Try.prog 48 #[.slice (some ⟨b, off, none⟩) n cp, .agg #[.int .i64 gl, .int .i64 gh, .int .i64 cl, .int .i64 ch, .int .i64 tl, .slice none 0 0, .int .i64 0, .int .i64 0, .int .i64 0, .int .i64 0, .int .i64 0]] w (RetEv b off n cp gl gh cl ch tl w) := by
  go_enter Try.func48, Try.ntmps48
  go_wp2_with fail
  have HE : Hid (∀ W, W = (w.alloc (.cells #[.int .i64 gl, .int .i64 gh, .int .i64 cl, .int .i64 ch, .int .i64 tl, .slice none 0 0, .int .i64 0, .int .i64 0, .int .i64 0, .int .i64 0, .int .i64 0] 43)).alloc (.cells #[.iface 106 (.agg #[.slice (some ⟨b, off, none⟩) n cp, .int .i64 gl, .int .i64 gh, .int .i64 cl, .int .i64 ch, .int .i64 tl, .slice none 0 0, .int .i64 0, .int .i64 0, .int .i64 0, .int .i64 0, .int .i64 0])] 98) → RetEv b off n cp gl gh cl ch tl w (.returned (.slice (some ⟨w.heap.size + 1, 0, none⟩) 1 1)) W) := fun W hW => by
    subst hW
    exact ⟨_, rfl, blk_at _ _ (by simp), by omega, by repeat (first | exact Below.refl _ _ | assumption | refine Below.drew ?_ | refine Below.alloc ?_ (by first | omega | (simp only [World.size_alloc]; omega) | simp) _ | refine Below.setCell ?_ (by first | omega | (simp only [World.size_alloc]; omega) | simp) _)⟩
  have HE2 := Lib.hid (HE.out _ rfl)
  clear HE
  generalize World.alloc (World.alloc _ _) _ = V at HE2 ⊢
  generalize w.heap.size + 1 = p at HE2 ⊢
  go_loopw [5, 16] (fun s i wr => s = .slice (some ⟨p, 0, none⟩) 1 1 ∧ i = .int .i64 0 ∧ Hid (RetEv b off n cp gl gh cl ch tl w (.returned (.slice (some ⟨p, 0, none⟩) 1 1)) wr)) (fun _ _ _ => 0)
  case atStart => exact ⟨rfl, rfl, HE2⟩
  case round =>
    clear HE2
    obtain ⟨rfl, rfl, HE⟩ := hrel
    go_wp2_with fail
    go_ret
    obtain ⟨p', he, h1, h2, h3⟩ := HE.out
    exact ⟨p', by simpa using he, h1, h2, h3⟩

/-- What is held while the evidence is gone through. -/
structure BlS (w : World) (p9 pE b off n cp : Nat) (gl gh cl ch tl x z : Int) (W : World) : Prop where
  below : Below w.heap.size w W
  b9 : Blk W p9 31 #[.int .i64 x, .int .i64 z]
  bE : Blk W pE 98 #[.iface 106 (.agg #[.slice (some ⟨b, off, none⟩) n cp, .int .i64 gl, .int .i64 gh, .int .i64 cl, .int .i64 ch, .int .i64 tl, .slice none 0 0, .int .i64 0, .int .i64 0, .int .i64 0, .int .i64 0, .int .i64 0])]
  le : w.heap.size ≤ p9
  ne : p9 ≠ pE
theorem BlS.call {w : World} {p9 pE b off n cp : Nat} {gl gh cl ch tl x z : Int} {W W' : World} (h : BlS w p9 pE b off n cp gl gh cl ch tl x z W) (hb : Below W.heap.size W W') : BlS w p9 pE b off n cp gl gh cl ch tl x z W' :=
  ⟨h.below.trans (hb.mono h.below.size), h.b9.below hb h.b9.lt, h.bE.below hb h.bE.lt, h.le, h.ne⟩
theorem BlS.set {w : World} {p9 pE b off n cp : Nat} {gl gh cl ch tl x z : Int} {W : World} (h : BlS w p9 pE b off n cp gl gh cl ch tl x z W) (x' z' : Int) :
    BlS w p9 pE b off n cp gl gh cl ch tl x' z' ((W.setCell ⟨p9, 0, none⟩ (.int .i64 x')).setCell ⟨p9, 1, none⟩ (.int .i64 z')) :=
  ⟨Below.setCell (p := ⟨p9, 1, none⟩) (Below.setCell (p := ⟨p9, 0, none⟩) h.below h.le _) h.le _, (h.b9.set_ 0 _).set_ 1 _, (h.bE.far (p := ⟨p9, 0, none⟩) (Ne.symm h.ne) _).far (p := ⟨p9, 1, none⟩) (Ne.symm h.ne) _, h.le, h.ne⟩

def darkest (c : List Tint) (gh cl tl : Int) : Int := min 200 ((fracAt c gh cl).top / (fracAt c gh cl).under + tl)
def palest (c : List Tint) (gl ch tl : Int) : Int := max 0 (cdiv (fracAt c gl ch).top (fracAt c gl ch).under - tl)

def RetBl (x z : Int) (w : World) (e : Ending) (w' : World) : Prop :=
  ∃ p cap : Nat, e = .returned (.tuple #[.slice (some ⟨p, 0, none⟩) 1 cap, .int .i64 0]) ∧ w'.cell? ⟨p, 0, none⟩ = some (.int .i64 x) ∧ w'.cell? ⟨p, 1, none⟩ = some (.int .i64 z) ∧ p < w'.heap.size ∧ Below w.heap.size w w'

theorem cut_method (b off n cp : Nat) (gl gh cl ch tl : Int) (w : World) : (method 230 106 (.agg #[.slice (some ⟨b, off, none⟩) n cp, .int .i64 gl, .int .i64 gh, .int .i64 cl, .int .i64 ch, .int .i64 tl, .slice none 0 0, .int .i64 0, .int .i64 0, .int .i64 0, .int .i64 0, .int .i64 0]) "pencilworks/shade.cut").run Try.prog w = .ok (66, .agg #[.slice (some ⟨b, off, none⟩) n cp, .int .i64 gl, .int .i64 gh, .int .i64 cl, .int .i64 ch, .int .i64 tl, .slice none 0 0, .int .i64 0, .int .i64 0, .int .i64 0, .int .i64 0, .int .i64 0]) w := by kernel_rfl
theorem app_cells (W : World) (t : TypeId) (x z : Value) (rest : Array Value) :
    (((W.alloc (.cells #[x, z] t)).alloc (.cells (#[x, z] ++ rest) t)).drew).cell? ⟨W.heap.size + 1, 0, none⟩ = some x ∧ (((W.alloc (.cells #[x, z] t)).alloc (.cells (#[x, z] ++ rest) t)).drew).cell? ⟨W.heap.size + 1, 1, none⟩ = some z ∧ W.heap.size + 1 < (((W.alloc (.cells #[x, z] t)).alloc (.cells (#[x, z] ++ rest) t)).drew).heap.size ∧ Below W.heap.size W (((W.alloc (.cells #[x, z] t)).alloc (.cells (#[x, z] ++ rest) t)).drew) := by
  have hb : Blk (((W.alloc (.cells #[x, z] t)).alloc (.cells (#[x, z] ++ rest) t)).drew) (W.heap.size + 1) t (#[x, z] ++ rest) := (blk_at t _ (by simp)).drew
  refine ⟨(hb.cell 0).trans ?_, (hb.cell 1).trans ?_, hb.lt, two_new _ _ _⟩
  · exact (Array.getElem?_append_left (by simp)).trans rfl
  · exact (Array.getElem?_append_left (by simp)).trans rfl

set_option maxRecDepth 100000 in
set_option maxHeartbeats 4000000 in
theorem blacks_yes (w : World) (b off cp bL : Nat) (c : List Tint) (gl gh cl ch tl : Int) (h : Curve c) (hc : TintsAt w b off c) (hlt : b < w.heap.size) (hl : LdOk gl gh cl ch tl) (hL : Blk w bL 43 #[.int .i64 gl, .int .i64 gh, .int .i64 cl, .int .i64 ch, .int .i64 tl, .slice none 0 0, .int .i64 0, .int .i64 0, .int .i64 0, .int .i64 0, .int .i64 0]) (hx : palest c gl ch tl ≤ darkest c gh cl tl) :
    Calls Try.prog 43 #[.slice (some ⟨b, off, none⟩) c.length cp, .slice (some ⟨bL, 0, none⟩) 1 1] w (RetBl (palest c gl ch tl) (darkest c gh cl tl) w) := by
  have H0 := Lib.hid (LdS.mk (Below.refl _ _) hL)
  have HCUT : Hid (∀ W, Below w.heap.size w W → Calls Try.prog 66 #[.agg #[.slice (some ⟨b, off, none⟩) c.length cp, .int .i64 gl, .int .i64 gh, .int .i64 cl, .int .i64 ch, .int .i64 tl, .slice none 0 0, .int .i64 0, .int .i64 0, .int .i64 0, .int .i64 0, .int .i64 0], .agg #[.int .i64 0, .int .i64 200]] W (Ret (.agg #[.int .i64 (palest c gl ch tl), .int .i64 (darkest c gh cl tl)]) W)) := fun W hW => cut_any W b off cp c gl gh cl ch tl 0 200 h (hc.below hW hlt) (Nat.lt_of_lt_of_le hlt hW.size) hl
  have HX := Lib.hid hx
  clear h hc hlt hl hL hx
  generalize palest c gl ch tl = x at *
  generalize darkest c gh cl tl = z at *
  go_enter Try.func43, Try.ntmps43
  go_wp2_with fail
  go_step3
  go_wp2_with fail
  go_step3
  go_wp2_with fail
  go_loopw [6, 14] (fun s i wr => (i = .int .i64 0 ∧ s = .slice none 0 0 ∧ Hid (LdS w bL gl gh cl ch tl wr)) ∨ (i = .int .i64 1 ∧ ∃ p cap : Nat, s = .slice (some ⟨p, 0, none⟩) 1 cap ∧ Hid (wr.cell? ⟨p, 0, none⟩ = some (.int .i64 x) ∧ wr.cell? ⟨p, 1, none⟩ = some (.int .i64 z) ∧ p < wr.heap.size ∧ Below w.heap.size w wr))) (fun _ i _ => 1 - (intOf i).toNat)
  case atStart => exact .inl ⟨rfl, rfl, H0⟩
  case round =>
    clear H0
    rcases hrel with ⟨rfl, rfl, HL⟩ | ⟨rfl, p, cap, rfl, HP⟩
    · obtain ⟨e0, e1, e2, e3, e4, e5, e6, e7, e8, e9, e10⟩ := HL.out.cells
      go_wp2_with fail
      clear e0 e1 e2 e3 e4 e5 e6 e7 e8 e9 e10
      have h9 : Hid (Blk ((wr.alloc (.cells #[.int .i64 gl, .int .i64 gh, .int .i64 cl, .int .i64 ch, .int .i64 tl, .slice none 0 0, .int .i64 0, .int .i64 0, .int .i64 0, .int .i64 0, .int .i64 0] 43)).alloc (.cells #[.int .i64 0, .int .i64 200] 31)) (wr.heap.size + 1) 31 #[.int .i64 0, .int .i64 200] ∧ Below w.heap.size w ((wr.alloc (.cells #[.int .i64 gl, .int .i64 gh, .int .i64 cl, .int .i64 ch, .int .i64 tl, .slice none 0 0, .int .i64 0, .int .i64 0, .int .i64 0, .int .i64 0, .int .i64 0] 43)).alloc (.cells #[.int .i64 0, .int .i64 200] 31)) ∧ w.heap.size ≤ wr.heap.size + 1) := by
        have hs := HL.out.below.size
        exact Lib.hid ⟨blk_at _ _ (by simp), (HL.out.below.alloc hs _).alloc (by simp; omega) _, by omega⟩
      have hp9 : wr.heap.size + 1 < ((wr.alloc (.cells #[.int .i64 gl, .int .i64 gh, .int .i64 cl, .int .i64 ch, .int .i64 tl, .slice none 0 0, .int .i64 0, .int .i64 0, .int .i64 0, .int .i64 0, .int .i64 0] 43)).alloc (.cells #[.int .i64 0, .int .i64 200] 31)).heap.size := h9.out.1.lt
      generalize World.alloc (World.alloc wr _) _ = V at h9 hp9 ⊢
      generalize wr.heap.size + 1 = p9 at h9 hp9 ⊢
      refine (evidenceOf_any _ _ _ _ _ _ _ _ _ _).mono ?_
      rintro e v1 ⟨pE, rfl, hbE, hge, hb1⟩
      have HS := Lib.hid (BlS.mk (h9.out.2.1.trans (hb1.mono h9.out.2.1.size)) (h9.out.1.below hb1 hp9) hbE h9.out.2.2 (by omega))
      clear h9 hp9 hbE hge hb1
      go_wp2_with fail
      go_loopw [11, 23] (fun s i wr => (i = .int .i64 0 ∧ Hid (BlS w p9 pE b off c.length cp gl gh cl ch tl 0 200 wr)) ∨ (i = .int .i64 1 ∧ Hid (BlS w p9 pE b off c.length cp gl gh cl ch tl x z wr))) (fun _ i _ => 1 - (intOf i).toNat)
      case atStart => exact .inl ⟨rfl, HS⟩
      case round =>
        clear HS
        rcases hrel with ⟨rfl, HS⟩ | ⟨rfl, HS⟩
        · have x0 := HS.out.b9.cell 0
          have x1 := HS.out.b9.cell 1
          have x2 := HS.out.bE.cell 0
          have hm := cut_method b off c.length cp gl gh cl ch tl
          go_wp2_with fail
          clear x0 x1 x2 hm
          refine (HCUT.out _ HS.out.below).mono ?_
          rintro e v2 ⟨rfl, hb1⟩
          replace HS := Lib.hid (HS.out.call hb1)
          have x0 := HS.out.b9.cell 0
          have x1 := HS.out.b9.cell 1
          have y0 := HS.out.b9.frozen 0
          have y1 := HS.out.b9.frozen 1
          have hd : decide (z < x) = false := by have := HX.out; simpa using this
          clear hb1
          go_wp2_with fail
          go_roundw
          case rel => exact .inr ⟨rfl, Lib.hid (HS.out.set x z)⟩
          case measure => simp [intOf]
        · have x0 := HS.out.b9.cell 0
          have x1 := HS.out.b9.cell 1
          go_wp2_with fail
          obtain ⟨a0, a1, a2, a3⟩ := app_cells wr 31 (.int .i64 x) (.int .i64 z) (Builtin.zeroCells #[.int .i64 0, .int .i64 0] ((Question.appendCap 1 0 31).cut (wr.tape wr.drawn (Question.appendCap 1 0 31)) - 1))
          exact ⟨.inr ⟨rfl, _, _, rfl, Lib.hid ⟨a0, a1, a2, HS.out.below.trans (a3.mono HS.out.below.size)⟩⟩, by simp [intOf]⟩
    · go_wp2_with fail
      try rw [Exit.noGoto_ret]
      go_ret2
      obtain ⟨h1, h2, h3, h4⟩ := HP.out
      exact ⟨p, cap, rfl, h1, h2, h3, h4⟩
set_option maxRecDepth 100000 in
set_option maxHeartbeats 4000000 in
theorem blacks_no (w : World) (b off cp bL : Nat) (c : List Tint) (gl gh cl ch tl : Int) (h : Curve c) (hc : TintsAt w b off c) (hlt : b < w.heap.size) (hl : LdOk gl gh cl ch tl) (hL : Blk w bL 43 #[.int .i64 gl, .int .i64 gh, .int .i64 cl, .int .i64 ch, .int .i64 tl, .slice none 0 0, .int .i64 0, .int .i64 0, .int .i64 0, .int .i64 0, .int .i64 0]) (hx : darkest c gh cl tl < palest c gl ch tl) :
    Calls Try.prog 43 #[.slice (some ⟨b, off, none⟩) c.length cp, .slice (some ⟨bL, 0, none⟩) 1 1] w (Ret (.tuple #[.slice none 0 0, .int .i64 6]) w) := by
  have H0 := Lib.hid (LdS.mk (Below.refl _ _) hL)
  have HCUT : Hid (∀ W, Below w.heap.size w W → Calls Try.prog 66 #[.agg #[.slice (some ⟨b, off, none⟩) c.length cp, .int .i64 gl, .int .i64 gh, .int .i64 cl, .int .i64 ch, .int .i64 tl, .slice none 0 0, .int .i64 0, .int .i64 0, .int .i64 0, .int .i64 0, .int .i64 0], .agg #[.int .i64 0, .int .i64 200]] W (Ret (.agg #[.int .i64 (palest c gl ch tl), .int .i64 (darkest c gh cl tl)]) W)) := fun W hW => cut_any W b off cp c gl gh cl ch tl 0 200 h (hc.below hW hlt) (Nat.lt_of_lt_of_le hlt hW.size) hl
  have HX := Lib.hid hx
  clear h hc hlt hl hL hx
  generalize palest c gl ch tl = x at *
  generalize darkest c gh cl tl = z at *
  go_enter Try.func43, Try.ntmps43
  go_wp2_with fail
  go_step3
  go_wp2_with fail
  go_step3
  go_wp2_with fail
  go_loopw [6, 14] (fun s i wr => i = .int .i64 0 ∧ s = .slice none 0 0 ∧ Hid (LdS w bL gl gh cl ch tl wr)) (fun _ i _ => 1 - (intOf i).toNat)
  case atStart => exact ⟨rfl, rfl, H0⟩
  case round =>
    clear H0
    obtain ⟨rfl, rfl, HL⟩ := hrel
    · obtain ⟨e0, e1, e2, e3, e4, e5, e6, e7, e8, e9, e10⟩ := HL.out.cells
      go_wp2_with fail
      clear e0 e1 e2 e3 e4 e5 e6 e7 e8 e9 e10
      have h9 : Hid (Blk ((wr.alloc (.cells #[.int .i64 gl, .int .i64 gh, .int .i64 cl, .int .i64 ch, .int .i64 tl, .slice none 0 0, .int .i64 0, .int .i64 0, .int .i64 0, .int .i64 0, .int .i64 0] 43)).alloc (.cells #[.int .i64 0, .int .i64 200] 31)) (wr.heap.size + 1) 31 #[.int .i64 0, .int .i64 200] ∧ Below w.heap.size w ((wr.alloc (.cells #[.int .i64 gl, .int .i64 gh, .int .i64 cl, .int .i64 ch, .int .i64 tl, .slice none 0 0, .int .i64 0, .int .i64 0, .int .i64 0, .int .i64 0, .int .i64 0] 43)).alloc (.cells #[.int .i64 0, .int .i64 200] 31)) ∧ w.heap.size ≤ wr.heap.size + 1) := by
        have hs := HL.out.below.size
        exact Lib.hid ⟨blk_at _ _ (by simp), (HL.out.below.alloc hs _).alloc (by simp; omega) _, by omega⟩
      have hp9 : wr.heap.size + 1 < ((wr.alloc (.cells #[.int .i64 gl, .int .i64 gh, .int .i64 cl, .int .i64 ch, .int .i64 tl, .slice none 0 0, .int .i64 0, .int .i64 0, .int .i64 0, .int .i64 0, .int .i64 0] 43)).alloc (.cells #[.int .i64 0, .int .i64 200] 31)).heap.size := h9.out.1.lt
      generalize World.alloc (World.alloc wr _) _ = V at h9 hp9 ⊢
      generalize wr.heap.size + 1 = p9 at h9 hp9 ⊢
      refine (evidenceOf_any _ _ _ _ _ _ _ _ _ _).mono ?_
      rintro e v1 ⟨pE, rfl, hbE, hge, hb1⟩
      have HS := Lib.hid (BlS.mk (h9.out.2.1.trans (hb1.mono h9.out.2.1.size)) (h9.out.1.below hb1 hp9) hbE h9.out.2.2 (by omega))
      clear h9 hp9 hbE hge hb1
      go_wp2_with fail
      go_loopw [11, 23] (fun s i wr => i = .int .i64 0 ∧ Hid (BlS w p9 pE b off c.length cp gl gh cl ch tl 0 200 wr)) (fun _ i _ => 1 - (intOf i).toNat)
      case atStart => exact ⟨rfl, HS⟩
      case round =>
        clear HS
        obtain ⟨rfl, HS⟩ := hrel
        have x0 := HS.out.b9.cell 0
        have x1 := HS.out.b9.cell 1
        have x2 := HS.out.bE.cell 0
        have hm := cut_method b off c.length cp gl gh cl ch tl
        go_wp2_with fail
        clear x0 x1 x2 hm
        refine (HCUT.out _ HS.out.below).mono ?_
        rintro e v2 ⟨rfl, hb1⟩
        replace HS := Lib.hid (HS.out.call hb1)
        have x0 := HS.out.b9.cell 0
        have x1 := HS.out.b9.cell 1
        have y0 := HS.out.b9.frozen 0
        have y1 := HS.out.b9.frozen 1
        have hd : decide (z < x) = true := by have := HX.out; simpa using this
        clear hb1
        go_wp2_with fail
        try rw [Exit.noGoto_ret]
        go_ret2
        exact ⟨rfl, (HS.out.set x z).below⟩
end Go.Proofs.Ytffglhnmgapndaa
