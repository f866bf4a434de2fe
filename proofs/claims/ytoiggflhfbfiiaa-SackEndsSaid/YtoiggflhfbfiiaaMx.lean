/- The law's function value 'within': a mixture's share. -/
import Derived.Test.YtoiggflhfbfiiaaZ
import Derived.Test.YtoiggflhfbfiiaaRf
namespace Go.Proofs.Ytoiggflhfbfiiaa
open Go.RowKit Go.Shelf

def mixB (n1 n2 : Nat) (total n : Int) : List Take := [⟨n1, ⟨n, n⟩⟩, ⟨n2, ⟨total - n, total - n⟩⟩]
def mixW (l : List Sack) (n1 n2 : Nat) (total wl wh n : Int) : Bool := decide (wl ≤ (shareOf (heldsOf l (mixB n1 n2 total n))).lo ∧ (shareOf (heldsOf l (mixB n1 n2 total n))).hi ≤ wh)
theorem mixB_valid {l : List Sack} {n1 n2 : Nat} {total n : Int} (hv : sacksOk l = true) (h1 : n1 < l.length) (h2 : n2 < l.length) (ht : total ≤ 100000) (hn : 1 ≤ n) (hn' : n < total) : validB l (mixB n1 n2 total n) = true := by
  simp [validB, hv, mixB, takeOk, idxB, withinB]
  omega

structure Cap (w : World) (A : Option Addr) (c : Nat) (l : List Sack) (n1 n2 : Nat) (total wl wh : Int) (q1 q2 q3 q4 q5 : Nat) (W : World) : Prop where
  below : Below w.heap.size w W
  c1 : W.cell? ⟨q1, 0, none⟩ = some (.slice A l.length c)
  c2 : W.cell? ⟨q2, 0, none⟩ = some (.int .i64 n1)
  c3 : W.cell? ⟨q3, 0, none⟩ = some (.int .i64 n2)
  c4 : W.cell? ⟨q4, 0, none⟩ = some (.int .i64 total)
  c5 : W.cell? ⟨q5, 0, none⟩ = some (.int .i64 wl)
  c6 : W.cell? ⟨q5, 1, none⟩ = some (.int .i64 wh)
  l1 : q1 < w.heap.size
  l2 : q2 < w.heap.size
  l3 : q3 < w.heap.size
  l4 : q4 < w.heap.size
  l5 : q5 < w.heap.size
theorem Cap.to {w : World} {A : Option Addr} {c : Nat} {l : List Sack} {n1 n2 : Nat} {total wl wh : Int} {q1 q2 q3 q4 q5 : Nat} {W W' : World} (h : Cap w A c l n1 n2 total wl wh q1 q2 q3 q4 q5 W) (hb : Below w.heap.size W W') : Cap w A c l n1 n2 total wl wh q1 q2 q3 q4 q5 W' :=
  ⟨h.below.trans hb, (hb.cell (p := ⟨q1, 0, none⟩) h.l1).trans h.c1, (hb.cell (p := ⟨q2, 0, none⟩) h.l2).trans h.c2, (hb.cell (p := ⟨q3, 0, none⟩) h.l3).trans h.c3, (hb.cell (p := ⟨q4, 0, none⟩) h.l4).trans h.c4, (hb.cell (p := ⟨q5, 0, none⟩) h.l5).trans h.c5, (hb.cell (p := ⟨q5, 1, none⟩) h.l5).trans h.c6, h.l1, h.l2, h.l3, h.l4, h.l5⟩
def CapS (w : World) (A : Option Addr) (c : Nat) (l : List Sack) (n1 n2 : Nat) (total : Int) (q1 q2 q3 q4 : Nat) (W : World) : Prop :=
  Below w.heap.size w W ∧ W.cell? ⟨q1, 0, none⟩ = some (.slice A l.length c) ∧ W.cell? ⟨q2, 0, none⟩ = some (.int .i64 n1) ∧ W.cell? ⟨q3, 0, none⟩ = some (.int .i64 n2) ∧ W.cell? ⟨q4, 0, none⟩ = some (.int .i64 total)
theorem Cap.s {w : World} {A : Option Addr} {c : Nat} {l : List Sack} {n1 n2 : Nat} {total wl wh : Int} {q1 q2 q3 q4 q5 : Nat} (h : Cap w A c l n1 n2 total wl wh q1 q2 q3 q4 q5 w) {W : World} (hb : Below w.heap.size w W) : CapS w A c l n1 n2 total q1 q2 q3 q4 W :=
  ⟨hb, (h.to hb).c1, (h.to hb).c2, (h.to hb).c3, (h.to hb).c4⟩

theorem CapS.call {w : World} {A : Option Addr} {c : Nat} {l : List Sack} {n1 n2 : Nat} {total wl wh : Int} {q1 q2 q3 q4 q5 : Nat} (h : Cap w A c l n1 n2 total wl wh q1 q2 q3 q4 q5 w) {W W' : World} (hb : Below W.heap.size W W') (hs : CapS w A c l n1 n2 total q1 q2 q3 q4 W) : CapS w A c l n1 n2 total q1 q2 q3 q4 W' :=
  h.s (hs.1.trans (hb.mono hs.1.size))
theorem CapS.alloc {w : World} {A : Option Addr} {c : Nat} {l : List Sack} {n1 n2 : Nat} {total wl wh : Int} {q1 q2 q3 q4 q5 : Nat} (h : Cap w A c l n1 n2 total wl wh q1 q2 q3 q4 q5 w) {W : World} (o : Obj) (hs : CapS w A c l n1 n2 total q1 q2 q3 q4 W) : CapS w A c l n1 n2 total q1 q2 q3 q4 (W.alloc o) :=
  h.s (hs.1.alloc hs.1.size o)

theorem CapS.b {w : World} {A : Option Addr} {c : Nat} {l : List Sack} {n1 n2 : Nat} {total : Int} {q1 q2 q3 q4 : Nat} {W : World} (hs : CapS w A c l n1 n2 total q1 q2 q3 q4 W) : Below w.heap.size w W := hs.1
theorem CapS.below2 {w : World} {A : Option Addr} {c : Nat} {l : List Sack} {n1 n2 : Nat} {total : Int} {q1 q2 q3 q4 : Nat} {W W' : World} (hs : CapS w A c l n1 n2 total q1 q2 q3 q4 W) (hb : Below W.heap.size W W') : Below w.heap.size w W' := hs.1.trans (hb.mono hs.1.size)
theorem share_mix (w : World) (A : Option Addr) (c : Nat) (l : List Sack) (n1 n2 : Nat) (total n : Int) (hl : l.length ≤ 100) (hA : SackSl w w.heap.size A l) (hv : validB l (mixB n1 n2 total n) = true) {W : World} (hb : Below w.heap.size w W) (g : Nat) (hB : Blk W g 51 #[.int .i64 n1, .int .i64 n, .int .i64 n, .int .i64 n2, .int .i64 (total - n), .int .i64 (total - n)]) (k : Nat) :
    Calls Try.prog 13 #[.slice A l.length c, .slice (some ⟨g, 0, none⟩) 2 k] W (Ret (.tuple #[.agg #[.int .i64 (shareOf (heldsOf l (mixB n1 n2 total n))).lo, .int .i64 (shareOf (heldsOf l (mixB n1 n2 total n))).hi], .int .i64 0]) W) := by
  have hT : TakeSl W W.heap.size (some ⟨g, 0, none⟩) (mixB n1 n2 total n) := by
    refine fun _ => ⟨_, 0, rfl, hB.lt, fun i hi => ?_⟩
    have : i = 0 ∨ i = 1 := by simp [mixB] at hi; omega
    rcases this with rfl | rfl
    · exact ⟨hB.cell 0, hB.cell 1, hB.cell 2⟩
    · exact ⟨hB.cell 3, hB.cell 4, hB.cell 5⟩
  exact share_yes _ A _ c k l (mixB n1 n2 total n) hl (by simp [mixB]) ((hA.below hb).more hb.size) hT hv
theorem share_A (w : World) (A : Option Addr) (c : Nat) (l : List Sack) (n1 n2 : Nat) (total n : Int) (hl : l.length ≤ 100) (hA : SackSl w w.heap.size A l) (hv : validB l (mixB n1 n2 total n) = true) (W : World) (hb : Below w.heap.size w (W.alloc (.cells #[.int .i64 n1, .int .i64 n, .int .i64 n, .int .i64 n2, .int .i64 (total - n), .int .i64 (total - n)] 51))) (k : Nat) :
    Calls Try.prog 13 #[.slice A l.length c, .slice (some ⟨W.heap.size, 0, none⟩) 2 k] (W.alloc (.cells #[.int .i64 n1, .int .i64 n, .int .i64 n, .int .i64 n2, .int .i64 (total - n), .int .i64 (total - n)] 51)) (Ret (.tuple #[.agg #[.int .i64 (shareOf (heldsOf l (mixB n1 n2 total n))).lo, .int .i64 (shareOf (heldsOf l (mixB n1 n2 total n))).hi], .int .i64 0]) (W.alloc (.cells #[.int .i64 n1, .int .i64 n, .int .i64 n, .int .i64 n2, .int .i64 (total - n), .int .i64 (total - n)] 51))) :=
  share_mix w A c l n1 n2 total n hl hA hv hb _ (Blk.new _ _ _) k
theorem share_B (w : World) (A : Option Addr) (c : Nat) (l : List Sack) (n1 n2 : Nat) (total n : Int) (hl : l.length ≤ 100) (hA : SackSl w w.heap.size A l) (hv : validB l (mixB n1 n2 total n) = true) (W : World) (hb : Below w.heap.size w ((W.alloc (.cells #[.int .i64 n1, .int .i64 n, .int .i64 n, .int .i64 n2, .int .i64 (total - n), .int .i64 (total - n)] 51)).alloc (.cells #[.int .i64 0, .int .i64 0] 25))) (k : Nat) :
    Calls Try.prog 13 #[.slice A l.length c, .slice (some ⟨W.heap.size, 0, none⟩) 2 k] ((W.alloc (.cells #[.int .i64 n1, .int .i64 n, .int .i64 n, .int .i64 n2, .int .i64 (total - n), .int .i64 (total - n)] 51)).alloc (.cells #[.int .i64 0, .int .i64 0] 25)) (Ret (.tuple #[.agg #[.int .i64 (shareOf (heldsOf l (mixB n1 n2 total n))).lo, .int .i64 (shareOf (heldsOf l (mixB n1 n2 total n))).hi], .int .i64 0]) ((W.alloc (.cells #[.int .i64 n1, .int .i64 n, .int .i64 n, .int .i64 n2, .int .i64 (total - n), .int .i64 (total - n)] 51)).alloc (.cells #[.int .i64 0, .int .i64 0] 25))) :=
  share_mix w A c l n1 n2 total n hl hA hv hb _ ((Blk.new _ _ _).alloc _) k
theorem share_C (w : World) (A : Option Addr) (c : Nat) (l : List Sack) (n1 n2 : Nat) (total n : Int) (hl : l.length ≤ 100) (hA : SackSl w w.heap.size A l) (hv : validB l (mixB n1 n2 total n) = true) (W : World) (hb : Below w.heap.size w ((W.alloc (.cells #[.int .i64 0, .int .i64 0] 25)).alloc (.cells #[.int .i64 n1, .int .i64 n, .int .i64 n, .int .i64 n2, .int .i64 (total - n), .int .i64 (total - n)] 51))) (k : Nat) :
    Calls Try.prog 13 #[.slice A l.length c, .slice (some ⟨W.heap.size + 1, 0, none⟩) 2 k] ((W.alloc (.cells #[.int .i64 0, .int .i64 0] 25)).alloc (.cells #[.int .i64 n1, .int .i64 n, .int .i64 n, .int .i64 n2, .int .i64 (total - n), .int .i64 (total - n)] 51)) (Ret (.tuple #[.agg #[.int .i64 (shareOf (heldsOf l (mixB n1 n2 total n))).lo, .int .i64 (shareOf (heldsOf l (mixB n1 n2 total n))).hi], .int .i64 0]) ((W.alloc (.cells #[.int .i64 0, .int .i64 0] 25)).alloc (.cells #[.int .i64 n1, .int .i64 n, .int .i64 n, .int .i64 n2, .int .i64 (total - n), .int .i64 (total - n)] 51))) := by
  have h := Blk.new (W.alloc (.cells #[.int .i64 0, .int .i64 0] 25)) 51 #[.int .i64 n1, .int .i64 n, .int .i64 n, .int .i64 n2, .int .i64 (total - n), .int .i64 (total - n)]
  rw [World.size_alloc] at h
  exact share_mix w A c l n1 n2 total n hl hA hv hb _ h k
theorem Blk.new2 (W : World) (o : Obj) (ty : TypeId) (cs : Array Value) : Blk ((W.alloc o).alloc (.cells cs ty)) (W.heap.size + 1) ty cs := by
  have h := Blk.new (W.alloc o) ty cs
  rwa [World.size_alloc] at h
def BxS (w : World) (p : Nat) (W : World) : Prop := Blk W p 25 #[.int .i64 0, .int .i64 0] ∧ w.heap.size ≤ p
theorem BxS.call {w : World} {p : Nat} {W W' : World} (h : BxS w p W) (hb : Below W.heap.size W W') : BxS w p W' := ⟨h.1.below hb h.1.lt, h.2⟩
theorem BxS.new {w W : World} (h : w.heap.size ≤ W.heap.size) : BxS w W.heap.size (W.alloc (.cells #[.int .i64 0, .int .i64 0] 25)) := ⟨Blk.new _ _ _, h⟩
theorem BxS.newd (w : World) : BxS w w.heap.size (w.alloc (.cells #[.int .i64 0, .int .i64 0] 25)).drew := ⟨(Blk.new w _ _).drew, Nat.le_refl _⟩
theorem BxS.alloc {w : World} {p : Nat} {W : World} (h : BxS w p W) (o : Obj) : BxS w p (W.alloc o) := ⟨h.1.alloc o, h.2⟩
theorem BxS.new2 {w W : World} (h : w.heap.size ≤ W.heap.size) (o : Obj) : BxS w (W.heap.size + 1) ((W.alloc o).alloc (.cells #[.int .i64 0, .int .i64 0] 25)) := by
  have := BxS.new (w := w) (W := W.alloc o) (by simp; omega)
  rwa [World.size_alloc] at this
theorem BxS.set {w : World} {p : Nat} {W : World} {a b : Value} (h : BxS w p W) : Blk ((W.setCell ⟨p, 0, none⟩ a).setCell ⟨p, 1, none⟩ b) p 25 #[a, b] := (h.1.set_ 0 a).set_ 1 b
theorem blkB (W : World) (o : Obj) : Blk ((W.alloc o).alloc (.cells #[.int .i64 0, .int .i64 0] 25)) (W.heap.size + 1) 25 #[.int .i64 0, .int .i64 0] := by
  have h := Blk.new (W.alloc o) 25 #[.int .i64 0, .int .i64 0]
  rwa [World.size_alloc] at h

set_option maxRecDepth 100000 in
set_option maxHeartbeats 4000000 in
theorem mixed1_any (w : World) (A : Option Addr) (c : Nat) (l : List Sack) (n1 n2 : Nat) (total wl wh n : Int) (q1 q2 q3 q4 q5 : Nat) (hl : l.length ≤ 100) (hA : SackSl w w.heap.size A l) (hv : sacksOk l = true) (h1 : n1 < l.length) (h2 : n2 < l.length)
    (ht : total ≤ 100000) (hn : 1 ≤ n) (hn' : n < total) (hc : Cap w A c l n1 n2 total wl wh q1 q2 q3 q4 q5 w) :
    Calls Try.prog 28 #[.int .i64 n, .pointer (some ⟨q1, 0, none⟩), .pointer (some ⟨q2, 0, none⟩), .pointer (some ⟨q3, 0, none⟩), .pointer (some ⟨q4, 0, none⟩), .pointer (some ⟨q5, 0, none⟩)] w (Ret (.bool (mixW l n1 n2 total wl wh n)) w) := by
  have HC := Lib.hid hc
  have HA := Lib.hid hA
  have HV := Lib.hid (mixB_valid hv h1 h2 ht hn hn')
  have HW : IntKind.i64.wrap (total - n) = total - n := wr (by omega) (by omega)
  clear hc hA
  go_enter Try.func28, Try.ntmps28
  go_wp2
  go_cut [8, 9] (fun s8 s9 wx => ∃ p : Nat, s8 = .pointer (some ⟨p, 0, none⟩) ∧ s9 = .int .i64 0 ∧ Hid (Blk wx p 25 #[.int .i64 (shareOf (heldsOf l (mixB n1 n2 total n))).lo, .int .i64 (shareOf (heldsOf l (mixB n1 n2 total n))).hi] ∧ Below w.heap.size w wx))
  case first =>
    go_region_held3 (fun W => Below w.heap.size w W ∧ W.cell? ⟨q1, 0, none⟩ = some (.slice A l.length c) ∧ W.cell? ⟨q2, 0, none⟩ = some (.int .i64 n1) ∧ W.cell? ⟨q3, 0, none⟩ = some (.int .i64 n2) ∧ W.cell? ⟨q4, 0, none⟩ = some (.int .i64 total))
      (first | exact HC.out.s (Below.refl _ _).drew | exact HC.out.s hbe | (exact CapS.call HC.out (by assumption) (by assumption)) | (exact CapS.alloc HC.out _ (by assumption)) | (exact HC.out.s (Below.alloc hbe hbe.size _)) | (exact HC.out.s (Below.setCell (p := ⟨_, 1, none⟩) (Below.setCell (p := ⟨_, 0, none⟩) hbe hpz _) hpz _)) | go_keep)
      (first
        | (go_at_call 24; (with_reducible refine (span_any _ _ (World.drew (World.alloc w (.cells #[.int .i64 0, .int .i64 0] 25)))).mono ?_); rintro e e' ⟨rfl, hb'⟩; have hX := Lib.hid (BxS.call (BxS.newd w) hb'); have hez := Below.size (CapS.below2 (by assumption : CapS w A c l n1 n2 total q1 q2 q3 q4 _) hb'))
        | (go_at_call 24; (with_reducible refine (span_any _ _ (World.alloc _ (.cells #[.int .i64 0, .int .i64 0] 25))).mono ?_); rintro e e' ⟨rfl, hb'⟩; go_must (first | have hX := Lib.hid (BxS.call (BxS.new (w := w) (W := w.drew) (Nat.le_refl _)) hb') | have hX := Lib.hid (BxS.call (BxS.new (w := w) hez) hb')); go_must ((have hez := Below.size (CapS.below2 (by assumption : CapS w A c l n1 n2 total q1 q2 q3 q4 _) hb'))))
        | (go_at_call 24; refine (span_any _ _ _).mono ?_; rintro e e' ⟨rfl, hb'⟩; (try have hX2 := hX.out.call hb'); (try clear hX); (try have hX := Lib.hid hX2); (try clear hX2); go_must (have hez := Below.size (CapS.below2 (by assumption : CapS w A c l n1 n2 total q1 q2 q3 q4 _) hb')))
        | (go_at_call 13; refine (share_mix w A c l n1 n2 total n hl HA.out HV.out ?_ _ ?_ _).mono ?_; (· exact CapS.b (by assumption)); (· with_reducible exact (Blk.new _ _ _).alloc _); rintro e e2 ⟨rfl, hb2⟩; have hbe := CapS.below2 (by assumption : CapS w A c l n1 n2 total q1 q2 q3 q4 _) hb2; have hX := Lib.hid (BxS.call (BxS.new2 (w := w) hez _) hb2); have x0 := hX.out.1.cell 0; have x1 := hX.out.1.cell 1; have y0 := hX.out.1.frozen 0; have y1 := hX.out.1.frozen 1; have hpz := hX.out.2)
        | (go_at_call 13; refine (share_mix w A c l n1 n2 total n hl HA.out HV.out ?_ _ ?_ _).mono ?_; (· exact CapS.b (by assumption)); (· with_reducible exact Blk.new2 _ _ _ _); rintro e e2 ⟨rfl, hb2⟩; have hbe := CapS.below2 (by assumption : CapS w A c l n1 n2 total q1 q2 q3 q4 _) hb2; have hX := Lib.hid (BxS.call (BxS.alloc (BxS.new (w := w) hez) _) hb2); have x0 := hX.out.1.cell 0; have x1 := hX.out.1.cell 1; have y0 := hX.out.1.frozen 0; have y1 := hX.out.1.frozen 1; have hpz := hX.out.2)
        | (go_at_call 13; refine (share_mix w A c l n1 n2 total n hl HA.out HV.out ?_ _ ?_ _).mono ?_; (· exact CapS.b (by assumption)); (· with_reducible exact Blk.new _ _ _); rintro e e2 ⟨rfl, hb2⟩; have hbe := CapS.below2 (by assumption : CapS w A c l n1 n2 total q1 q2 q3 q4 _) hb2; (try have hX2 := (hX.out.alloc _).call hb2); (try clear hX); (try have hX := Lib.hid hX2); (try clear hX2); (try (have x0 := hX.out.1.cell 0; have x1 := hX.out.1.cell 1; have y0 := hX.out.1.frozen 0; have y1 := hX.out.1.frozen 1; have hpz := hX.out.2)))
        | fail "no arm")
    all_goals go_wp2_with fail
    all_goals go_meet
    all_goals (first | exact ⟨_, rfl, rfl, Lib.hid ⟨BxS.set hX.out, CapS.b (by assumption)⟩⟩ | exact ⟨_, rfl, rfl, Lib.hid ⟨Blk.new _ _ _, CapS.b (by assumption)⟩⟩ | fail "end")
  case rest =>
    obtain ⟨p, rfl, rfl, hs⟩ := hcut
    have hb := hs.out.2
    have b0 := hs.out.1.cell 0
    have b1 := hs.out.1.cell 1
    have hcc := HC.out.to hb
    have c5 := hcc.c5
    have c6 := hcc.c6
    clear hcc hs
    have HR : mixW l n1 n2 total wl wh n = decide (wl ≤ (shareOf (heldsOf l (mixB n1 n2 total n))).lo ∧ (shareOf (heldsOf l (mixB n1 n2 total n))).hi ≤ wh) := rfl
    generalize (shareOf (heldsOf l (mixB n1 n2 total n))).lo = x0 at b0 HR ⊢
    generalize (shareOf (heldsOf l (mixB n1 n2 total n))).hi = x1 at b1 HR ⊢
    go_wp2
    all_goals go_ret
    all_goals refine ⟨ret_bool ?_, hb⟩
    all_goals (clear b0 b1 c5 c6 hb HC HA HV HW; by_cases g1 : wl ≤ x0 <;> by_cases g2 : x1 ≤ wh <;> simp [HR, g1, g2] <;> omega)
end Go.Proofs.Ytoiggflhfbfiiaa
