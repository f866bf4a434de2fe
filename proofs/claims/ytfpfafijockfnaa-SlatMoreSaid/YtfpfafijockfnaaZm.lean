/- What the document says at the inputs of the law SlatNames. -/
import Derived.Test.YtfpfafijockfnaaYm
import Derived.Great.BuildSlice
namespace Go.Proofs.Ytfpfafijockfnaa
open Go.RowKit Go.Shelf

theorem wp_bs {P : Program} {o : Oper} {a : Act} {w : World} {K : Act → World → Prop} {Q : Exit → Act → World → Prop} (t e : TypeId) (len : Nat) (parts : Array (Nat × Operand)) (ho : o.op = .buildSlice t len parts)
    (cells : Array Value) (vs : List Value) (z : Value) (n : Nat) (hu : P.underlying t = some (.slice e)) (hi : (P.info? e).map (fun i => (i.zero, i.size)) = some (some z, n)) (hn : 0 < n ∧ 0 < len ∧ len * n ≤ 2 ^ 24)
    (hv : parts.toList.map (fun x => (x.1, a.eval x.2)) = (vs.zipIdx 0).map fun x => (x.2, x.1)) (h1 : vs.all (fun v => v.cells.size == n) = true) (h2 : vs.length = len) (hc : (vs.flatMap fun v => v.cells.toList).toArray = cells)
    (h : K (a.put o.dst (.slice (some ⟨w.heap.size, 0, none⟩) len len)) (w.alloc (.cells cells e))) : o.wp P a w K Q := by
  cases hie : P.info? e with
  | none => rw [hie] at hi; cases hi
  | some ie =>
    rw [hie] at hi
    simp only [Option.map_some, Option.some.injEq, Prod.mk.injEq] at hi
    obtain ⟨hz, rfl⟩ := hi
    subst hc
    refine wp_buildSlice t e len parts ho _ ie z hu hie hz (by omega) (Nat.ne_of_gt (Nat.mul_pos hn.2.1 hn.1)) ?_ h
    rw [Array.toList_map]
    rw [show (parts.toList.map fun (i, x) => (i, a.eval x)) = (vs.zipIdx 0).map fun x => (x.2, x.1) from hv]
    exact Great.fill_whole hn.1 vs _ (fun v hv => by have := List.all_eq_true.1 h1 v hv; simpa using this) (by simp [h2])
theorem ints_of3 {W : World} {g : Nat} {a b c : Int} (h : Blk W g 3 #[.int .i64 a, .int .i64 b, .int .i64 c]) : IntSl W W.heap.size (some ⟨g, 0, none⟩) [a, b, c] := fun _ => ⟨g, 0, rfl, h.lt, fun j hj => by
  have hx : j = 0 ∨ j = 1 ∨ j = 2 := by simp at hj; omega
  rcases hx with rfl | rfl | rfl
  · exact h.cell 0
  · exact h.cell 1
  · exact h.cell 2⟩
theorem ints_of2 {W : World} {g : Nat} {a b : Int} (h : Blk W g 3 #[.int .i64 a, .int .i64 b]) : IntSl W W.heap.size (some ⟨g, 0, none⟩) [a, b] := fun _ => ⟨g, 0, rfl, h.lt, fun j hj => by
  have hx : j = 0 ∨ j = 1 := by simp at hj; omega
  rcases hx with rfl | rfl
  · exact h.cell 0
  · exact h.cell 1⟩
theorem gr_plan {W : World} {B : Nat} {A : Option Addr} {c : Nat} {l : List Int} (h : W.ownsRow B 3 1 (.slice A l.length c) l.length (intsV l)) : PlanAt W (.slice A l.length c) l := ⟨h.1, by rcases h.2 with h9 | ⟨g, cap, cur, h1, h2, h3⟩; exact .inl h9; exact .inr ⟨g, cap, cur, h1, Nat.zero_le _, h3⟩⟩
theorem set2_low {W : World} {B g : Nat} {x y : Value} (hg : B ≤ g) : Below B W (W.setCells g 0 [x, y]) := below_set2 (Below.refl _ _) hg
theorem offN0_law : offS jL aL bL 0 = ⟨-12, 16⟩ ∧ offH jL aL bL 0 = ⟨-70, 40⟩ ∧ offE jL aL bL 0 = 0 := by decide +kernel
theorem offN0_any (w : World) : Calls Try.prog 19 #[.agg #[.int .i64 10, .int .i64 20, .int .i64 2000, .int .i64 2020, .int .i64 (-5), .int .i64 5, .int .i64 (-10), .int .i64 10, .int .i64 40, .int .i64 3], .agg #[.int .i64 5000, .int .i64 5010, .int .i64 1010, .int .i64 1020, .int .i64 0, .int .i64 4, .int .i64 1, .int .i64 2], .agg #[.int .i64 4980, .int .i64 4990, .int .i64 1000, .int .i64 1010, .int .i64 (-2), .int .i64 2, .int .i64 0, .int .i64 1], .int .i64 0] w (Ret (.tuple #[.agg #[.int .i64 (-12), .int .i64 16], .agg #[.int .i64 (-70), .int .i64 40], .int .i64 0]) w) := by
  have h := off5_any jL aL bL 0 w
  rw [offN0_law.1, offN0_law.2.1, offN0_law.2.2] at h
  exact h
theorem offN2_law : offS jL aL bL 2 = ⟨-10, 22⟩ ∧ offH jL aL bL 2 = ⟨-70, 40⟩ ∧ offE jL aL bL 2 = 0 := by decide +kernel
theorem offN2_any (w : World) : Calls Try.prog 19 #[.agg #[.int .i64 10, .int .i64 20, .int .i64 2000, .int .i64 2020, .int .i64 (-5), .int .i64 5, .int .i64 (-10), .int .i64 10, .int .i64 40, .int .i64 3], .agg #[.int .i64 5000, .int .i64 5010, .int .i64 1010, .int .i64 1020, .int .i64 0, .int .i64 4, .int .i64 1, .int .i64 2], .agg #[.int .i64 4980, .int .i64 4990, .int .i64 1000, .int .i64 1010, .int .i64 (-2), .int .i64 2, .int .i64 0, .int .i64 1], .int .i64 2] w (Ret (.tuple #[.agg #[.int .i64 (-10), .int .i64 22], .agg #[.int .i64 (-70), .int .i64 40], .int .i64 0]) w) := by
  have h := off5_any jL aL bL 2 w
  rw [offN2_law.1, offN2_law.2.1, offN2_law.2.2] at h
  exact h
def jT : Jig := { jL with glue := ⟨9, 20⟩, lead := ⟨2000, 2020⟩ }
theorem cloT : cloN jT aL bL = 1 ∧ cloE jT aL bL = 0 := by decide +kernel
theorem closesT_any (w : World) : Calls Try.prog 22 #[.agg #[.int .i64 9, .int .i64 20, .int .i64 2000, .int .i64 2020, .int .i64 (-5), .int .i64 5, .int .i64 (-10), .int .i64 10, .int .i64 40, .int .i64 3], .agg #[.int .i64 5000, .int .i64 5010, .int .i64 1010, .int .i64 1020, .int .i64 0, .int .i64 4, .int .i64 1, .int .i64 2], .agg #[.int .i64 4980, .int .i64 4990, .int .i64 1000, .int .i64 1010, .int .i64 (-2), .int .i64 2, .int .i64 0, .int .i64 1]] w (Ret (.tuple #[.int .i64 1, .int .i64 0]) w) := by
  have h := closesN_any jT aL bL w
  rw [cloT.1, cloT.2] at h
  exact h
def jK : Jig := { jL with glue := ⟨10, 20⟩, lead := ⟨2051, 2060⟩ }
theorem cloK : cloN jK aL bL = 0 ∧ cloE jK aL bL = 0 := by decide +kernel
theorem closesK_any (w : World) : Calls Try.prog 22 #[.agg #[.int .i64 10, .int .i64 20, .int .i64 2051, .int .i64 2060, .int .i64 (-5), .int .i64 5, .int .i64 (-10), .int .i64 10, .int .i64 40, .int .i64 3], .agg #[.int .i64 5000, .int .i64 5010, .int .i64 1010, .int .i64 1020, .int .i64 0, .int .i64 4, .int .i64 1, .int .i64 2], .agg #[.int .i64 4980, .int .i64 4990, .int .i64 1000, .int .i64 1010, .int .i64 (-2), .int .i64 2, .int .i64 0, .int .i64 1]] w (Ret (.tuple #[.int .i64 0, .int .i64 0]) w) := by
  have h := closesN_any jK aL bL w
  rw [cloK.1, cloK.2] at h
  exact h
theorem graM_law : graL jL aL bL [30] = [-1, -1, -1] ∧ graE jL aL bL [30] = 0 := by decide +kernel
theorem ints_of1 {W : World} {g : Nat} {a : Int} (h : Blk W g 3 #[.int .i64 a]) : IntSl W W.heap.size (some ⟨g, 0, none⟩) [a] := fun _ => ⟨g, 0, rfl, h.lt, fun j hj => by
  have hx : j = 0 := by simp at hj; omega
  subst hx
  exact h.cell 0⟩
theorem gradesM_any (w : World) (g : Nat) (hg : Blk w g 3 #[.int .i64 30]) : Calls Try.prog 23 #[.agg #[.int .i64 10, .int .i64 20, .int .i64 2000, .int .i64 2020, .int .i64 (-5), .int .i64 5, .int .i64 (-10), .int .i64 10, .int .i64 40, .int .i64 3], .agg #[.int .i64 5000, .int .i64 5010, .int .i64 1010, .int .i64 1020, .int .i64 0, .int .i64 4, .int .i64 1, .int .i64 2], .agg #[.int .i64 4980, .int .i64 4990, .int .i64 1000, .int .i64 1010, .int .i64 (-2), .int .i64 2, .int .i64 0, .int .i64 1], .slice (some ⟨g, 0, none⟩) 1 1] w (RetGr [-1, -1, -1] 0 w) := by
  have h := grades5_any jL aL bL (some ⟨g, 0, none⟩) 1 [30] w (by simp) (ints_of1 hg)
  rw [graM_law.1, graM_law.2] at h
  exact h
theorem pairM_law : pairR jL [aL, cL] [bL, dL] 37 = (([0, 1], 6), 0) := by decide +kernel
theorem pairM_any (w : World) (g h : Nat) (hg : Blk w g 37 #[.int .i64 5000, .int .i64 5010, .int .i64 1010, .int .i64 1020, .int .i64 0, .int .i64 4, .int .i64 1, .int .i64 2, .int .i64 4900, .int .i64 4910, .int .i64 1010, .int .i64 1020, .int .i64 0, .int .i64 4, .int .i64 1, .int .i64 2]) (hh : Blk w h 37 #[.int .i64 4980, .int .i64 4990, .int .i64 1000, .int .i64 1010, .int .i64 (-2), .int .i64 2, .int .i64 0, .int .i64 1, .int .i64 4880, .int .i64 4890, .int .i64 1000, .int .i64 1010, .int .i64 (-2), .int .i64 2, .int .i64 0, .int .i64 1]) : Calls Try.prog 13 #[.agg #[.int .i64 10, .int .i64 20, .int .i64 2000, .int .i64 2020, .int .i64 (-5), .int .i64 5, .int .i64 (-10), .int .i64 10, .int .i64 40, .int .i64 3], .slice (some ⟨g, 0, none⟩) 2 2, .slice (some ⟨h, 0, none⟩) 2 2, .int .i64 37] w (fun e w' => ∃ A c, e = .returned (.tuple #[.slice A 2 c, .int .i64 6, .int .i64 0]) ∧ PlanAt w' (.slice A 2 c) [0, 1] ∧ Below w.heap.size w w') := by
  have h9 := pairW_any w (some ⟨g, 0, none⟩) (some ⟨h, 0, none⟩) 2 2 jL [aL, cL] [bL, dL] 37 (by simp) (by simp) (slats2 hg) (slats2 hh)
  rw [pairM_law] at h9
  exact h9
/-- Two jigs in blocks of their own, above all that was there. -/
structure JgS (U : World) (a b : Array Value) (V : World) : Prop where
  hb : Below U.heap.size U V
  k0 : Blk V U.heap.size 25 a
  k1 : Blk V (U.heap.size + 1) 25 b
theorem JgS.start (U : World) (a b : Array Value) : JgS U a b ((U.alloc (.cells a 25)).alloc (.cells b 25)) := ⟨by repeat (first | exact Below.refl _ _ | assumption | refine Below.drew ?_ | refine Below.alloc ?_ (by first | omega | (simp only [World.size_alloc]; omega) | simp) _ | refine Below.setCell ?_ (by first | omega | (simp only [World.size_alloc]; omega) | simp) _), (Blk.new _ _ _).alloc _, blk5 _ _ (by simp) rfl⟩
theorem JgS.call {U V V' : World} {a b : Array Value} (h : JgS U a b V) (hb : Below V.heap.size V V') : JgS U a b V' := ⟨h.hb.trans (hb.mono h.hb.size), h.k0.below hb h.k0.lt, h.k1.below hb h.k1.lt⟩
theorem set2_at {W : World} {g o : Nat} {t : TypeId} {cs : Array Value} (x y : Value) (h : Blk W g t cs) : Blk (W.setCells g o [x, y]) g t ((cs.setIfInBounds o x).setIfInBounds (o + 1) y) := by
  have := (h.set_ o x).set_ (o + 1) y
  exact this
theorem far2_at {W : World} {g k o : Nat} {t : TypeId} {cs : Array Value} (x y : Value) (hne : k ≠ g) (h : Blk W k t cs) : Blk (W.setCells g o [x, y]) k t cs := (h.far (p := ⟨g, o, none⟩) hne x).far (p := ⟨g, o + 1, none⟩) hne y
theorem below2_at {W : World} {B g o : Nat} (x y : Value) {a : World} (h : Below B a W) (hg : B ≤ g) : Below B a (W.setCells g o [x, y]) := Below.setCell (p := ⟨g, o + 1, none⟩) (Below.setCell (p := ⟨g, o, none⟩) h hg x) hg y
theorem JgS.two0 {U V : World} {a b : Array Value} (h : JgS U a b V) (o : Nat) (x y : Value) : JgS U ((a.setIfInBounds o x).setIfInBounds (o + 1) y) b (V.setCells U.heap.size o [x, y]) := ⟨below2_at x y h.hb (by omega), set2_at x y h.k0, far2_at x y (by omega) h.k1⟩
theorem JgS.two1 {U V : World} {a b : Array Value} (h : JgS U a b V) (o : Nat) (x y : Value) : JgS U a ((b.setIfInBounds o x).setIfInBounds (o + 1) y) (V.setCells (U.heap.size + 1) o [x, y]) := ⟨below2_at x y h.hb (by omega), far2_at x y (by omega) h.k0, set2_at x y h.k1⟩
end Go.Proofs.Ytfpfafijockfnaa