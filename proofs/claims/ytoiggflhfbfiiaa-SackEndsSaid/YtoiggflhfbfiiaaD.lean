/- What a sack adds to a measure: the loop over the corners. -/
import Derived.Test.YtoiggflhfbfiiaaC
import Derived.Laws.ResultCell
import Derived.Laws.Rows
namespace Go.Proofs.Ytoiggflhfbfiiaa
open Go.RowKit Go.Shelf
attribute [local go_sem] Oper.semAt_some

/-- Block g is just the cells cs. -/
def Blk (w : World) (g : Nat) (t : TypeId) (cs : Array Value) : Prop := w.heap[g]? = some (.cells cs t (0, 0))
section
variable {w w' : World} {g : Nat} {t : TypeId} {cs : Array Value}
theorem Blk.lt (h : Blk w g t cs) : g < w.heap.size := (Array.getElem?_eq_some_iff.1 h).1
theorem Blk.cell (h : Blk w g t cs) (i : Nat) : w.cell? ⟨g, i, none⟩ = cs[i]? := cell_of_row w g i cs t (0, 0) h
theorem Blk.frozen (h : Blk w g t cs) (i : Nat) : w.frozen? ⟨g, i, none⟩ = false := by
  unfold Blk at h
  simp [World.frozen?, h]
theorem Blk.new (w : World) (t : TypeId) (cs : Array Value) : Blk (w.alloc (.cells cs t)) w.heap.size t cs := World.alloc_heap_new w _
theorem Blk.kept {row : Option Nat} (h : Blk w g t cs) (hb : w.grownBy w' row) (hg : some g ≠ row) : Blk w' g t cs := (hb.block g h.lt hg).trans h
theorem Blk.alloc (h : Blk w g t cs) (o : Obj) : Blk (w.alloc o) g t cs := h.kept (World.grownBy_alloc w o none) (by simp)
theorem Blk.drew (h : Blk w g t cs) : Blk w.drew g t cs := h
theorem Blk.set_ (h : Blk w g t cs) (i : Nat) (u : Value) : Blk (w.setCell ⟨g, i, none⟩ u) g t (cs.setIfInBounds i u) := by
  unfold Blk at h ⊢
  simp [World.setCell, Array.getElem?_modify, h]
theorem Blk.far (h : Blk w g t cs) {p : Addr} (hp : g ≠ p.block) (u : Value) : Blk (w.setCell p u) g t cs := (Below.heap_setCell w p u g hp).trans h
theorem Blk.row (h : Blk w g t cs) (cs' : Array Value) : Blk (w.setRow g cs') g t cs' := setRow_heap w g cs cs' t (0, 0) h
theorem Blk.rowFar {g' : Nat} (h : Blk w g t cs) (hne : g ≠ g') (cs' : Array Value) : Blk (w.setRow g' cs') g t cs := (setRow_other w g' g cs' hne).trans h
theorem below_setRow {B : Nat} {a w : World} {g : Nat} (h : Below B a w) (hg : B ≤ g) (cs : Array Value) : Below B a (w.setRow g cs) :=
  h.trans ⟨rfl, rfl, rfl, by simp, fun k hk => setRow_other w g k cs (by omega)⟩
theorem Blk.below {B : Nat} (h : Blk w g t cs) (hb : Below B w w') (hg : g < B) : Blk w' g t cs := (hb.block g hg).trans h
end
/-- A type whose values lie in rows of cells. -/
def rowType (P : Program) (ty : TypeId) : Bool := match P.underlying ty with
  | some (.struct _) | some (.array _ _) => true
  | _ => false
theorem run_load_blk {P : Program} {w : World} {g : Nat} {t ty : TypeId} {cs : Array Value} (hg : Blk w g t cs) (hd : rowType P ty = true) (hi : (P.info? ty).map (·.size) = some cs.size) :
    (loadVar ty ⟨g, 0, none⟩).run P w = .ok (.agg cs) w := by
  unfold rowType at hd
  cases hu : P.underlying ty with
  | none => rw [hu] at hd; cases hd
  | some d => exact run_loadVar_row (P := P) w g t ty cs (0, 0) d hg hu (by rw [hu] at hd; cases d <;> simp_all) hi
theorem results_blk {P : Program} {fn : Func} {p : Tmp} {ty : TypeId} (h : fn.results = #[.cell p ty]) (tmps : Array Value) {w : World} {g : Nat} {t : TypeId} {cs : Array Value}
    (hp : tmps.getD p undef = .pointer (some ⟨g, 0, none⟩)) (hg : Blk w g t cs) (hd : rowType P ty = true) (hi : (P.info? ty).map (·.size) = some cs.size) :
    (results fn tmps).run P w = .ok (.agg cs) w := by
  have hp' : tmps[p]?.getD undef = .pointer (some ⟨g, 0, none⟩) := by simpa using hp
  simp [results, h, hp', asAddr, run_load_blk hg hd hi]
theorem results_blk_tmp {P : Program} {fn : Func} {p u : Tmp} {ty : TypeId} (h : fn.results = #[.cell p ty, .tmp u]) (tmps : Array Value) {w : World} {g : Nat} {t : TypeId} {cs : Array Value}
    (hp : tmps.getD p undef = .pointer (some ⟨g, 0, none⟩)) (hg : Blk w g t cs) (hd : rowType P ty = true) (hi : (P.info? ty).map (·.size) = some cs.size) :
    (results fn tmps).run P w = .ok (.tuple #[.agg cs, tmps.getD u undef]) w := by
  rw [results_cell_tmp h, hp]
  simp [asAddr, run_load_blk hg hd hi, Result.andThen]

theorem blk_own {β : Type} (B : Nat) (t : TypeId) (f : β → Array Value) : Own (fun s W => Blk W B t (f s)) := fun s X Y row hs hg hrow =>
  hs.kept hg (fun e' => by
    obtain ⟨o, ho, hc⟩ := hrow B e'.symm
    rw [show X.heap[B]? = _ from hs] at ho; cases ho; cases hc)

theorem keeps_of_below {W W' : World} (h : Below W.heap.size W W') : KeepsOthers W W' :=
  ⟨h.size, fun k _ hk _ => (h.block k (Array.getElem?_eq_some_iff.1 hk).1).trans hk⟩

def Held.vals (h : Held) : Array Value := #[.int .i64 h.sack.w.lo, .int .i64 h.sack.w.hi, .int .i64 h.sack.c.lo, .int .i64 h.sack.c.hi, .int .i64 h.sack.l.lo, .int .i64 h.sack.l.hi, .int .i64 h.weight.lo, .int .i64 h.weight.hi]

def stepAll (g : St → Int) (l : List OkSt) : Reach := (l.map OkSt.t).foldl (Reach.step g) ⟨maxI, minI⟩
theorem stepAll_snoc (g : St → Int) (l : List OkSt) (t : OkSt) : stepAll g (l ++ [t]) = (stepAll g l).step g t.t := by simp [stepAll]


/-- The boxes of the function: what is held, the measure, the result, the reach so far, and what the iterator holds. -/
structure AddsBoxes (S : Nat) (w : World) (h : Held) (mv : Value) (a b : Int) (W : World) : Prop where
  b1 : Blk W (S + 1) 70 #[mv]
  b2 : Blk W (S + 2) 74 #[.int .i64 0, .int .i64 0]
  b3 : Blk W (S + 3) 74 #[.int .i64 a, .int .i64 b]
  below : Below S w W
  sz : S + 5 ≤ W.heap.size

theorem AddsBoxes.own {S B : Nat} {w : World} {h : Held} {mv : Value} {β : Type} (f k : β → Int) (hS : S ≤ w.heap.size) (hB : S ≤ B) : OwnFrom B (fun s W => AddsBoxes S w h mv (f s) (k s) W) := by
  intro s X Y row hs hg hr
  have a1 := (blk_own (S + 1) 70 (fun _ : Unit => #[mv])).from B () X Y row hs.b1 hg hr
  have a2 := (blk_own (S + 2) 74 (fun _ : Unit => #[Value.int .i64 0, .int .i64 0])).from B () X Y row hs.b2 hg hr
  have a3 := (blk_own (S + 3) 74 (fun _ : Unit => #[Value.int .i64 (f s), .int .i64 (k s)])).from B () X Y row hs.b3 hg hr
  exact ⟨a1, a2, a3, ownFrom_below (β := Unit) hS hB () X Y row hs.below hg hr, Nat.le_trans hs.sz hg.size⟩

theorem AddsBoxes.call {S : Nat} {w W W' : World} {h : Held} {mv : Value} {a b : Int} (hs : AddsBoxes S w h mv a b W) (hb : Below W.heap.size W W') : AddsBoxes S w h mv a b W' :=
  ⟨hs.b1.below hb hs.b1.lt, hs.b2.below hb hs.b2.lt, hs.b3.below hb hs.b3.lt, hs.below.trans (hb.mono (by have := hs.b1.lt; omega)), Nat.le_trans hs.sz hb.size⟩

theorem AddsBoxes.round {S : Nat} {w W W1 : World} {h : Held} {mv : Value} {g : St → Int} {pre : List OkSt} {x : OkSt} {a b : Int} (hi : AddsBoxes S w h mv (stepAll g pre).least (stepAll g pre).most W1)
    (hb : Below W.heap.size W W1) (hw : S + 5 ≤ W.heap.size) (B : Nat) (ha : a = min (stepAll g pre).least (g x.t)) (hc : b = max (stepAll g pre).most (g x.t)) :
    KeepsFrom B W ((W1.setCell ⟨S + 3, 0, none⟩ (.int .i64 a)).setCell ⟨S + 3, 1, none⟩ (.int .i64 b)) ∧ SameAt (S + 4) W ((W1.setCell ⟨S + 3, 0, none⟩ (.int .i64 a)).setCell ⟨S + 3, 1, none⟩ (.int .i64 b)) ∧
      AddsBoxes S w h mv (stepAll g (pre ++ [x])).least (stepAll g (pre ++ [x])).most ((W1.setCell ⟨S + 3, 0, none⟩ (.int .i64 a)).setCell ⟨S + 3, 1, none⟩ (.int .i64 b)) := by
  refine ⟨(((keeps_of_below hb).trans (KeepsOthers.setCell _ _ _)).trans (KeepsOthers.setCell _ _ _)).from B, ?_, ?_⟩
  · exact ((SameAt.of_below hb (by omega)).trans (Below.heap_setCell _ _ _ _ (by simp))).trans (Below.heap_setCell _ _ _ _ (by simp))
  · have e3 := (hi.b3.set_ 0 (.int .i64 a)).set_ 1 (.int .i64 b)
    rw [stepAll_snoc]
    refine ⟨(hi.b1.far (p := ⟨S + 3, 0, none⟩) (by simp) _).far (p := ⟨S + 3, 1, none⟩) (by simp) _, (hi.b2.far (p := ⟨S + 3, 0, none⟩) (by simp) _).far (p := ⟨S + 3, 1, none⟩) (by simp) _, ?_,
      (hi.below.setCell (p := ⟨S + 3, 0, none⟩) (by simp) _).setCell (p := ⟨S + 3, 1, none⟩) (by simp) _, by have := hi.sz; simpa [World.setCell] using this⟩
    simp only [Reach.step, ← ha, ← hc]
    exact e3

set_option maxRecDepth 100000 in
set_option maxHeartbeats 4000000 in
theorem adds_any (h : Held) (v : Value) (g : St → Int) (w : World) (hh : h.ok) (hm : IsMeas w w.heap.size v g) :
    Calls Try.prog 54 #[.agg #[.int .i64 h.sack.w.lo, .int .i64 h.sack.w.hi, .int .i64 h.sack.c.lo, .int .i64 h.sack.c.hi, .int .i64 h.sack.l.lo, .int .i64 h.sack.l.hi, .int .i64 h.weight.lo, .int .i64 h.weight.hi], v] w
      (Ret (.agg #[.int .i64 (h.adds g).least, .int .i64 (h.adds g).most]) w) := by
  obtain ⟨mk, cap, rfl, he, HM0⟩ := hm
  have HM := Lib.hid HM0
  have HE := Lib.hid he
  clear HM0 he
  refine (callsIn_wide (n := 10)).1 ?_
  refine callsIn_of_wp_marks Try.func54 rfl trivial ?_ rfl
  simp only [Try.ntmps54, List.size_toArray, List.length_cons, List.length_nil, Nat.reduceAdd, Nat.reduceSub, Array.replicate_succ, Array.replicate_zero, List.push_toArray, List.append_toArray, List.nil_append, List.cons_append]
  gi_wp2_with (refine ⟨trivial, ?_⟩; gi_at_call 68; refine (callsIn_wide.2 (corners_any _ _ _ _ _ _ _ _ _)).mono ?_; rintro e w' ⟨rfl, rfl⟩)
  have c1 := ((((Blk.new (w.alloc (.cells h.vals 89)) 70 #[.func (.func mk) #[] cap]).alloc (.cells #[.int .i64 0, .int .i64 0] 74)).alloc (.cells #[.int .i64 9223372036854775807, .int .i64 (-9223372036854775808)] 74))).alloc (.cells h.vals 89)
  have c2 := ((Blk.new ((w.alloc (.cells h.vals 89)).alloc (.cells #[.func (.func mk) #[] cap] 70)) 74 #[.int .i64 0, .int .i64 0]).alloc (.cells #[.int .i64 9223372036854775807, .int .i64 (-9223372036854775808)] 74)).alloc (.cells h.vals 89)
  have c3 := (Blk.new (((w.alloc (.cells h.vals 89)).alloc (.cells #[.func (.func mk) #[] cap] 70)).alloc (.cells #[.int .i64 0, .int .i64 0] 74)) 74 #[.int .i64 9223372036854775807, .int .i64 (-9223372036854775808)]).alloc (.cells h.vals 89)
  have c4 := Blk.new ((((w.alloc (.cells h.vals 89)).alloc (.cells #[.func (.func mk) #[] cap] 70)).alloc (.cells #[.int .i64 0, .int .i64 0] 74)).alloc (.cells #[.int .i64 9223372036854775807, .int .i64 (-9223372036854775808)] 74)) 89 h.vals
  have c5 : Below w.heap.size w (((((w.alloc (.cells h.vals 89)).alloc (.cells #[.func (.func mk) #[] cap] 70)).alloc (.cells #[.int .i64 0, .int .i64 0] 74)).alloc (.cells #[.int .i64 9223372036854775807, .int .i64 (-9223372036854775808)] 74)).alloc (.cells h.vals 89)) := by
    repeat (first | exact Below.refl _ _ | assumption | refine Below.drew ?_ | refine Below.alloc ?_ (by first | omega | (simp only [World.size_alloc]; omega) | simp) _ | refine Below.setCell ?_ (by first | omega | (simp only [World.size_alloc]; omega) | simp) _)
  simp only [World.size_alloc, Nat.add_assoc, Nat.reduceAdd] at c1 c2 c3 c4
  have c6 : (((((w.alloc (.cells h.vals 89)).alloc (.cells #[.func (.func mk) #[] cap] 70)).alloc (.cells #[.int .i64 0, .int .i64 0] 74)).alloc (.cells #[.int .i64 9223372036854775807, .int .i64 (-9223372036854775808)] 74)).alloc (.cells h.vals 89)).heap.size = w.heap.size + 5 := by simp
  simp only [Nat.add_assoc, Nat.reduceAdd]
  unfold Held.vals at c1 c2 c3 c4 c5 c6
  generalize World.alloc (World.alloc (World.alloc (World.alloc (World.alloc w _) _) _) _) _ = W0 at c1 c2 c3 c4 c5 c6 ⊢
  have hA : AddsBoxes w.heap.size w h (.func (.func mk) #[] cap) maxI minI W0 := ⟨c1, c2, c3, c5, by omega⟩
  have hHeld : HeldAt W0 (w.heap.size + 4) h := ⟨c4.cell 0, c4.cell 1, c4.cell 2, c4.cell 3, c4.cell 4, c4.cell 5, c4.cell 6, c4.cell 7⟩
  clear c1 c2 c3 c4 c5
  refine wpIn_rangeFunc_ownH (hro := rfl) (h1 := by omega) (gf := 70) (lb := #[.pointer (some ⟨w.heap.size + 4, 0, none⟩)]) rfl trivial (enters_of Try.func70 (by kernel_rfl) rfl)
    (corners_stops 9 (by omega) (w.heap.size + 4) h hh W0 (by omega) hHeld) (fun a b => a.trans b) ?hKb (Below.refl _ _) (fun _ => rfl)
    (fun pre W => AddsBoxes w.heap.size w h (.func (.func mk) #[] cap) (stepAll g pre).least (stepAll g pre).most W) (fun _ _ _ => False)
    (AddsBoxes.own _ _ (Nat.le_refl _) (by omega)) (fun _ _ _ _ _ hs _ _ => hs) hA
    (fun x a' W => ∃ Bx, w.heap.size + 4 < Bx ∧ Blk W Bx 101 #[.int .i64 x.t.m, .int .i64 x.t.w, .int .i64 x.t.c, .int .i64 x.t.s] ∧
      a' = { tmps := #[.agg #[.int .i64 h.sack.w.lo, .int .i64 h.sack.w.hi, .int .i64 h.sack.c.lo, .int .i64 h.sack.c.hi, .int .i64 h.sack.l.lo, .int .i64 h.sack.l.hi, .int .i64 h.weight.lo, .int .i64 h.weight.hi], .func (.func mk) #[] cap,
        .pointer (some ⟨w.heap.size, 0, none⟩), .pointer (some ⟨w.heap.size + 1, 0, none⟩), .pointer (some ⟨w.heap.size + 2, 0, none⟩), .pointer (some ⟨w.heap.size + 3, 0, none⟩), .pointer (some ⟨Bx, 0, none⟩), undef,
        .agg #[.int .i64 9223372036854775807, .int .i64 (-9223372036854775808)],
        .agg #[.int .i64 h.sack.w.lo, .int .i64 h.sack.w.hi, .int .i64 h.sack.c.lo, .int .i64 h.sack.c.hi, .int .i64 h.sack.l.lo, .int .i64 h.sack.l.hi, .int .i64 h.weight.lo, .int .i64 h.weight.hi],
        .func (.func 70) #[] #[.pointer (some ⟨w.heap.size + 4, 0, none⟩)], .agg #[.int .i64 x.t.m, .int .i64 x.t.w, .int .i64 x.t.c, .int .i64 x.t.s], undef, undef, undef, undef, undef, undef, undef, undef, undef, undef, undef, undef, undef, undef], defers := [] }) ?hAx ?assign ?body ?done ?stop
  case hKb =>
    intro W l o o' hl ho _ _
    unfold SameAt World.putObj
    exact Array.getElem?_setIfInBounds_ne (by omega)
  case hAx =>
    rintro x a' s X Y row ⟨Bx, h1, h2, h3⟩ hg hr
    exact ⟨Bx, h1, (blk_own Bx 101 (fun _ : Unit => #[.int .i64 x.t.m, .int .i64 x.t.w, .int .i64 x.t.c, .int .i64 x.t.s])).from W0.heap.size () X Y row h2 hg hr, h3⟩
  case assign =>
    rintro l pre x W K hi hK
    unfold stV
    have hlt := hi.sz
    have hX := hi.call ((Below.refl _ W).alloc (Nat.le_refl _) (.cells #[.int .i64 x.t.m, .int .i64 x.t.w, .int .i64 x.t.c, .int .i64 x.t.s] 101))
    have HX := Lib.hid hX
    clear hX hi
    gi_wp2
    exact hK _ _ ((KeepsOthers.alloc _ _).from _) (Below.heap_alloc _ _ _ (by omega)) HX.out ⟨W.heap.size, by omega, Blk.new _ _ _, rfl⟩
  case body =>
    rintro l pre x a' W hl - hi ⟨Bx, hBx, bX, rfl⟩ hlt
    have c1 := hi.b1.cell 0
    have c3 := hi.b3.cell 0
    have c4 := hi.b3.cell 1
    have x0 := bX.cell 0
    have x1 := bX.cell 1
    have x2 := bX.cell 2
    have x3 := bX.cell 3
    have HI := Lib.hid hi
    have hsz := hi.sz
    clear hi
    have hE := HE.out
    gi_wp2_with (refine ⟨trivial, ?_⟩; go_simp; refine (CallsIn.inRound l (callsIn_wide.2 (HM.out _ _ HI.out.below x.ok))).mono ?_; rintro e W1 ⟨rfl, hb'⟩; have HI2 := Lib.hid (HI.out.call hb'); have HS := Lib.hid hb'; have c3 := HI2.out.b3.cell 0; have c4 := HI2.out.b3.cell 1; have f3 := HI2.out.b3.frozen 0; have f4 := HI2.out.b3.frozen 1; clear hb' c1 x0 x1 x2 x3)
    all_goals exact AddsBoxes.round HI2.out HS.out hsz _ (by omega) (by omega)
  case done =>
    rintro D ys W hD rfl hi hK
    have c0 := hi.b2.cell 0
    have c1 := hi.b2.cell 1
    have c3 := hi.b3.cell 0
    have c4 := hi.b3.cell 1
    have f3 := hi.b2.frozen 0
    have f4 := hi.b2.frozen 1
    have HI := Lib.hid hi
    clear hi
    gi_wp2
    have e2 := (HI.out.b2.set_ 0 (.int .i64 (stepAll g (h.upto hh 16)).least)).set_ 1 (.int .i64 (stepAll g (h.upto hh 16)).most)
    have eK := ((KeepsOthers.setCell W ⟨w.heap.size + 2, 0, none⟩ (.int .i64 (stepAll g (h.upto hh 16)).least)).trans (KeepsOthers.setCell _ ⟨w.heap.size + 2, 1, none⟩ (.int .i64 (stepAll g (h.upto hh 16)).most))).same D _ hK rfl
    have eB := (HI.out.below.setCell (p := ⟨w.heap.size + 2, 0, none⟩) (by simp) (.int .i64 (stepAll g (h.upto hh 16)).least)).setCell (p := ⟨w.heap.size + 2, 1, none⟩) (by simp) (.int .i64 (stepAll g (h.upto hh 16)).most)
    generalize World.setCell (World.setCell W _ _) _ _ = W2 at e2 eK eB ⊢
    have e4 := e2.kept (grownBy_putObj' W2 D (.deferred none)) (by simp; omega)
    have eB2 := eB.trans (belowK_b (w := w) (Nat.le_refl _) W2 D _ (.deferred none) (by omega) eK rfl rfl)
    have d0 := e4.cell 0
    have d1 := e4.cell 1
    refine ⟨by simp, .inl ⟨_, _, rfl, run_takeDeferred eK, ?_⟩⟩
    refine ⟨.agg #[.int .i64 (h.adds g).least, .int .i64 (h.adds g).most], ?_, rfl, eB2⟩
    simp only [Array.setIfInBounds] at d0 d1
    simp [results, Try.results54, go_sem, d0, d1]
    exact ⟨rfl, rfl⟩
  case stop =>
    rintro D c pre W - _ h _
    exact h.elim
end Go.Proofs.Ytoiggflhfbfiiaa
