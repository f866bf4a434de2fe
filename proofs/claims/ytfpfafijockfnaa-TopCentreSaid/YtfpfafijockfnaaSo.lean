/- The inputs of a law read: a press, draws, numbers. -/
import Derived.Test.YtfpfafijockfnaaLib
import Derived.WalkKit
import Derived.ProofKit
import Derived.OpenShut
import Derived.Carry
import Derived.WideKeyArgs
import Derived.Lib.SmallJoins
import Derived.Deep.Slices
import Derived.Deep.Strs
import Derived.ChangeSame
namespace Go.Proofs.Ytfpfafijockfnaa.Inp
open Go.RowKit Go.Shelf Go.ChangeShapes Go.WideShapes Go.Deep Go.ChangeAt Go.Joins

theorem und_int : Try.prog.underlying 3 = some (.int .i64) := by kernel_rfl
theorem und_span : Try.prog.underlying 23 = some (.struct #[⟨"Lo", 3, 0, false, "", "", 0⟩, ⟨"Hi", 3, 1, false, "", "", 8⟩]) := by kernel_rfl
theorem und_die : Try.prog.underlying 79 = some (.struct #[⟨"Wide", 3, 0, false, "", "", 0⟩, ⟨"Wear", 23, 1, false, "", "", 8⟩]) := by kernel_rfl
theorem und_draw : Try.prog.underlying 172 = some (.struct #[⟨"Length", 3, 0, false, "", "", 0⟩, ⟨"Wide", 23, 1, false, "", "", 8⟩]) := by kernel_rfl
theorem und_dies : Try.prog.underlying 71 = some (.slice 79) := by kernel_rfl
theorem und_draws : Try.prog.underlying 160 = some (.slice 172) := by kernel_rfl
theorem und_ints : Try.prog.underlying 27 = some (.slice 3) := by kernel_rfl
theorem und_press : Try.prog.underlying 73 = some (.struct #[⟨"Dies", 71, 0, false, "", "", 0⟩, ⟨"Shrink", 23, 1, false, "", "", 24⟩, ⟨"Change", 3, 3, false, "", "", 40⟩]) := by kernel_rfl
theorem cells_int : Try.prog.cellsOf 3 = 1 := by kernel_rfl
theorem cells_span : Try.prog.cellsOf 23 = 2 := by kernel_rfl
theorem cells_die : Try.prog.cellsOf 79 = 3 := by kernel_rfl
theorem cells_draw : Try.prog.cellsOf 172 = 3 := by kernel_rfl
theorem cells_dies : Try.prog.cellsOf 71 = 1 := by kernel_rfl
theorem cells_press : Try.prog.cellsOf 73 = 4 := by kernel_rfl
theorem len2 {α : Type} : ∀ {l : List α}, l.length = 2 → ∃ a b, l = [a, b]
  | [a, b], _ => ⟨a, b, rfl⟩
theorem len3 {α : Type} : ∀ {l : List α}, l.length = 3 → ∃ a b c, l = [a, b, c]
  | [a, b, c], _ => ⟨a, b, c, rfl⟩
theorem len4 {α : Type} : ∀ {l : List α}, l.length = 4 → ∃ a b c d, l = [a, b, c, d]
  | [a, b, c, d], _ => ⟨a, b, c, d, rfl⟩
theorem add_at (b o i j : Nat) : ((⟨b, o, none⟩ : Addr).add i).add j = ⟨b, o + i + j, none⟩ := by
  unfold Addr.add
  by_cases hi : i = 0 <;> by_cases hj : j = 0 <;> simp [hi, hj]
section
variable {H : Type} {enc : TypeId × Value → H} {w : World} {base : Nat} {spare : Nat → Bool} {held : Bool}
theorem span_cells {fuel : Nat} {cs : List Value} {x : DataW H × List MemPlace} (h : DataW.trod enc Try.prog w base spare held fuel 23 cs = some x) : ∃ a b, cs = [.int .i64 a, .int .i64 b] := by
  obtain ⟨xs, n, -, -, hlen, hxl, hf⟩ := DataW.trod_struct und_span h
  rw [cells_span] at hlen
  have h0 : DataW.trod enc Try.prog w base spare held n 3 ((cs.drop 0).take (Try.prog.cellsOf 3)) = xs[0]? := hf 0 _ rfl
  have h1 : DataW.trod enc Try.prog w base spare held n 3 ((cs.drop 1).take (Try.prog.cellsOf 3)) = xs[1]? := hf 1 _ rfl
  rw [cells_int] at h0 h1
  have e0 : xs[0]? = some (xs[0]'(by simp [hxl])) := List.getElem?_eq_getElem _
  have e1 : xs[1]? = some (xs[1]'(by simp [hxl])) := List.getElem?_eq_getElem _
  obtain ⟨a, ea, -, -⟩ := DataW.trod_int und_int (h0.trans e0)
  obtain ⟨b, eb, -, -⟩ := DataW.trod_int und_int (h1.trans e1)
  obtain ⟨c0, c1, rfl⟩ := len2 hlen
  simp only [List.drop_zero, List.drop_succ_cons, List.take_succ_cons, List.take_zero, List.cons.injEq, and_true] at ea eb
  subst ea eb
  exact ⟨a, b, rfl⟩
theorem die_cells {fuel : Nat} {cs : List Value} {x : DataW H × List MemPlace} (h : DataW.trod enc Try.prog w base spare held fuel 79 cs = some x) :
    ∃ t : Die, cs = [.int .i64 (dieF t).1, .int .i64 (dieF t).2.1, .int .i64 (dieF t).2.2] := by
  obtain ⟨xs, n, -, -, hlen, hxl, hf⟩ := DataW.trod_struct und_die h
  rw [cells_die] at hlen
  have h0 : DataW.trod enc Try.prog w base spare held n 3 ((cs.drop 0).take (Try.prog.cellsOf 3)) = xs[0]? := hf 0 _ rfl; have h1 : DataW.trod enc Try.prog w base spare held n 23 ((cs.drop 1).take (Try.prog.cellsOf 23)) = xs[1]? := hf 1 _ rfl; rw [cells_int] at h0; rw [cells_span] at h1; have e0 : xs[0]? = some (xs[0]'(by simp [hxl])) := List.getElem?_eq_getElem _; have e1 : xs[1]? = some (xs[1]'(by simp [hxl])) := List.getElem?_eq_getElem _; obtain ⟨a, ea, -, -⟩ := DataW.trod_int und_int (h0.trans e0); obtain ⟨c, d, ec⟩ := span_cells (h1.trans e1); obtain ⟨c0, c1, c2, rfl⟩ := len3 hlen; simp only [List.drop_zero, List.drop_succ_cons, List.take_succ_cons, List.take_zero, List.cons.injEq, and_true] at ea ec; subst ea; obtain ⟨rfl, rfl⟩ := ec; exact ⟨⟨a, ⟨c, d⟩⟩, rfl⟩
theorem draw_cells {fuel : Nat} {cs : List Value} {x : DataW H × List MemPlace} (h : DataW.trod enc Try.prog w base spare held fuel 172 cs = some x) :
    ∃ t : Draw, cs = [.int .i64 (drawF t).1, .int .i64 (drawF t).2.1, .int .i64 (drawF t).2.2] := by
  obtain ⟨xs, n, -, -, hlen, hxl, hf⟩ := DataW.trod_struct und_draw h
  rw [cells_draw] at hlen
  have h0 : DataW.trod enc Try.prog w base spare held n 3 ((cs.drop 0).take (Try.prog.cellsOf 3)) = xs[0]? := hf 0 _ rfl; have h1 : DataW.trod enc Try.prog w base spare held n 23 ((cs.drop 1).take (Try.prog.cellsOf 23)) = xs[1]? := hf 1 _ rfl; rw [cells_int] at h0; rw [cells_span] at h1; have e0 : xs[0]? = some (xs[0]'(by simp [hxl])) := List.getElem?_eq_getElem _; have e1 : xs[1]? = some (xs[1]'(by simp [hxl])) := List.getElem?_eq_getElem _; obtain ⟨a, ea, -, -⟩ := DataW.trod_int und_int (h0.trans e0); obtain ⟨c, d, ec⟩ := span_cells (h1.trans e1); obtain ⟨c0, c1, c2, rfl⟩ := len3 hlen; simp only [List.drop_zero, List.drop_succ_cons, List.take_succ_cons, List.take_zero, List.cons.injEq, and_true] at ea ec; subst ea; obtain ⟨rfl, rfl⟩ := ec; exact ⟨⟨a, ⟨c, d⟩⟩, rfl⟩
theorem cell_old {a : Addr} {v : Value} (h : w.cell? a = some v) : a.spot = none ∧ a.block < w.heap.size := by
  unfold World.cell? at h
  split at h
  · rename_i hh
    refine ⟨?_, (Array.getElem?_eq_some_iff.1 hh).1⟩
    split at h
    · simp at h
    · rename_i hs; simpa using hs
  · simp at h
set_option maxRecDepth 100000 in
theorem open3 {α : Type} (dflt : α) (F : α → Int × Int × Int) {t e : TypeId} (hu : Try.prog.underlying t = some (.slice e)) (hce : Try.prog.cellsOf e = 3)
    (hel : ∀ (fuel : Nat) (cs : List Value) (x : DataW H × List MemPlace), DataW.trod enc Try.prog w base spare held fuel e cs = some x → ∃ y : α, cs = [.int .i64 (F y).1, .int .i64 (F y).2.1, .int .i64 (F y).2.2])
    {fuel : Nat} {cs : List Value} {x : DataW H × List MemPlace} (hf : DataW.trod enc Try.prog w base spare held fuel t cs = some x) :
    ∃ (A : Option Addr) (c : Nat) (l : List α), cs = [.slice A l.length c] ∧ l.length ≤ 9223372036854775807 ∧ l.length ≤ c ∧ Sl3 F w w.heap.size A l := by
  rcases open_slice hu hf with ⟨hcs, hx⟩ | ⟨a, len, cap, m, n, D, Pl, hcs, hb, hl, hm, hmm, hx, hi⟩
  · exact ⟨none, 0, [], hcs, Nat.zero_le _, Nat.zero_le _, fun h => absurd rfl h⟩
  · have hlm : len ≤ m := by rw [hmm]; split <;> omega
    have hx : ∀ i, ∃ y : α, i < len → ∀ (j : Nat) (v : Value), [Value.int IntKind.i64 (F y).1, .int .i64 (F y).2.1, .int .i64 (F y).2.2][j]? = some v → w.cell? ((a.add (i * 3)).add j) = some v := by
      intro i
      by_cases hil : i < len
      · obtain ⟨cs', hc, ht⟩ := hi i (by omega)
        rw [hce] at hc
        obtain ⟨s, rfl⟩ := hel _ _ _ ht
        obtain ⟨_, _, hat⟩ := World.cells?_some hc
        refine ⟨s, fun _ j v hj => ?_⟩
        have hj3 : j < 3 := by
          have := (List.getElem?_eq_some_iff.1 hj).1
          simpa using this
        rw [hat j hj3, hj]
      · exact ⟨dflt, fun h => absurd h hil⟩
    obtain ⟨f, hf'⟩ := Classical.axiomOfChoice hx
    have hlen : ((List.range len).map f).length = len := by simp
    refine ⟨some a, cap, (List.range len).map f, by rw [hlen]; exact hcs, by rw [hlen]; have : maxLen ≤ 9223372036854775807 := (by unfold maxLen; omega); omega, by rw [hlen]; exact hl, fun hne => ?_⟩
    have h0 : 0 < len := by
      rcases Nat.eq_zero_or_pos len with e | e
      · subst e; exact absurd rfl hne
      · exact e
    obtain ⟨b, off, spot⟩ := a
    obtain ⟨hs, hlt⟩ := cell_old (hf' 0 h0 0 _ rfl)
    simp only [Addr.add] at hs hlt
    subst hs
    refine ⟨b, off, rfl, hlt, fun i hi' => ?_⟩
    have hil : i < len := by simpa using hi'
    have hg : ((List.range len).map f)[i]'hi' = f i := by simp
    rw [hg]
    have hc := hf' i hil
    simp only [add_at] at hc
    exact ⟨hc 0 _ rfl, hc 1 _ rfl, hc 2 _ rfl⟩
set_option maxRecDepth 100000 in
theorem open_draws {d : DataW H} {p : List MemPlace} {v : Value} {r : Go.Reach} {b0 : Nat} (hval : Value.okWide Try.prog w r b0 160 v) (h : DataW.Trod enc Try.prog w base spare held 160 v d p) :
    ∃ (A : Option Addr) (c : Nat) (l : List Draw), v = .slice A l.length c ∧ l.length ≤ 9223372036854775807 ∧ l.length ≤ c ∧ DrawSl w w.heap.size A l := by
  obtain ⟨a0, len, cap, rfl⟩ := okWide_slice und_draws hval
  obtain ⟨fuel, hf⟩ := h
  obtain ⟨A, c, l, h1, h2⟩ := open3 ⟨0, ⟨0, 0⟩⟩ drawF und_draws cells_draw (fun _ _ _ h => draw_cells h) hf
  simp [Value.cells] at h1
  obtain ⟨rfl, rfl, rfl⟩ := h1
  exact ⟨_, _, l, rfl, h2⟩
set_option maxRecDepth 100000 in
theorem open_press {d : DataW H} {p : List MemPlace} {v : Value} {r : Go.Reach} {b0 : Nat} (hval : Value.okWide Try.prog w r b0 73 v) (h : DataW.Trod enc Try.prog w base spare held 73 v d p) :
    ∃ (A : Option Addr) (c : Nat) (q : Press), v = .agg #[.slice A q.dies.length c, .int .i64 q.shrink.lo, .int .i64 q.shrink.hi, .int .i64 q.change] ∧ q.dies.length ≤ 9223372036854775807 ∧ q.dies.length ≤ c ∧ DieSl w w.heap.size A q.dies := by
  obtain ⟨cs, rfl, hsz⟩ := okWide_struct und_press hval
  rw [cells_press] at hsz
  obtain ⟨fuel, hf⟩ := h
  obtain ⟨y0, y1, y2, n, -, -, h0, h1, h2⟩ := trod_struct3 und_press hf
  obtain ⟨c0, c1, c2, c3, hcs⟩ := len4 (l := cs.toList) (by simpa using hsz)
  obtain rfl : cs = #[c0, c1, c2, c3] := by cases cs; simp_all
  simp only [Value.cells, cells_dies, cells_span, cells_int, List.drop_zero, List.drop_succ_cons, List.take_succ_cons, List.take_zero] at h0 h1 h2
  obtain ⟨A, c, l, e0, hl⟩ := open3 ⟨0, ⟨0, 0⟩⟩ dieF und_dies cells_die (fun _ _ _ h => die_cells h) h0
  obtain ⟨a, b, e1⟩ := span_cells h1
  obtain ⟨x, e2, -, -⟩ := DataW.trod_int und_int h2
  simp only [List.cons.injEq, and_true] at e0 e1 e2
  obtain ⟨rfl, rfl⟩ := e1
  subst e0 e2
  exact ⟨A, c, ⟨l, ⟨a, b⟩, x⟩, rfl, hl⟩
set_option maxRecDepth 100000 in
theorem open_ints {d : DataW H} {p : List MemPlace} {v : Value} {r : Go.Reach} {b0 : Nat} (hval : Value.okWide Try.prog w r b0 27 v) (h : DataW.Trod enc Try.prog w base spare held 27 v d p) :
    ∃ (A : Option Addr) (c : Nat) (l : List Int), v = .slice A l.length c ∧ l.length ≤ 9223372036854775807 ∧ IntSl w w.heap.size A l := by
  obtain ⟨a0, len, cap, rfl⟩ := okWide_slice und_ints hval
  obtain ⟨fuel, hf⟩ := h
  rcases open_slice und_ints hf with ⟨hcs, hx⟩ | ⟨a, len', cap', m, n, D, Pl, hcs, hb, hl, hm, hmm, hx, hi⟩
  · simp [Value.cells] at hcs
    obtain ⟨rfl, rfl, rfl⟩ := hcs
    exact ⟨none, 0, [], rfl, Nat.zero_le _, fun h => absurd rfl h⟩
  · simp [Value.cells] at hcs
    obtain ⟨rfl, rfl, rfl⟩ := hcs
    have hlm : len ≤ m := by rw [hmm]; split <;> omega
    have hx : ∀ i, ∃ t : Int, i < len → w.cell? (a.add i) = some (.int .i64 t) := by
      intro i
      by_cases hil : i < len
      · obtain ⟨cs', hc, ht⟩ := hi i (by omega)
        rw [cells_int] at hc
        obtain ⟨t, ec, -, -⟩ := DataW.trod_int und_int ht
        subst ec
        obtain ⟨_, _, hat⟩ := World.cells?_some hc
        have h0 := hat 0 (by omega)
        simp only [Nat.mul_one] at h0
        refine ⟨t, fun _ => ?_⟩
        have e : (a.add i).add 0 = a.add i := by simp [Addr.add]
        rw [e] at h0
        simpa using h0
      · exact ⟨0, fun h => absurd h hil⟩
    obtain ⟨f, hf'⟩ := Classical.axiomOfChoice hx
    have hlen : ((List.range len).map f).length = len := by simp
    refine ⟨some a, cap, (List.range len).map f, by rw [hlen], by rw [hlen]; have : maxLen ≤ 9223372036854775807 := (by unfold maxLen; omega); omega, fun hne => ?_⟩
    have h0 : 0 < len := by
      rcases Nat.eq_zero_or_pos len with e | e
      · subst e; exact absurd rfl hne
      · exact e
    obtain ⟨b, off, spot⟩ := a
    obtain ⟨hs, hlt⟩ := cell_old (hf' 0 h0)
    simp only [Addr.add] at hs hlt
    have hsp : spot = none := by simpa using hs
    subst hsp
    refine ⟨b, off, rfl, by simpa using hlt, fun i hi' => ?_⟩
    have hil : i < len := by simpa using hi'
    have hg : ((List.range len).map f)[i]'hi' = f i := by simp
    rw [hg]
    have hc := hf' i hil
    have e : (⟨b, off, none⟩ : Addr).add i = ⟨b, off + i, none⟩ := by
      unfold Addr.add
      by_cases hi : i = 0 <;> simp [hi]
    rw [e] at hc
    exact hc
end
theorem own : ownKnob Try.prog.godebug = none := by kernel_rfl
theorem und_bool : Try.prog.underlying 4 = some .bool := by kernel_rfl
theorem trodAll_stays {H : Type} {enc : TypeId × Value → H} {P : Program} (hl : laidOutB P = true) {W W' : World} {sp : Nat → Bool} : ∀ {ts : List TypeId} {vs : List Value} {ds : List (DataW H)} {ps : List MemPlace}, (∀ t ∈ ts, P.readableRec t = true ∧ t < P.types.size) →
    DataW.TrodAll enc P W 0 (fun _ => true) true ts vs ds ps → (∀ p ∈ ps, W.sameAt W' p) → (∀ p ∈ ps, sp p.block = true) → DataW.TrodAll enc P W' 0 sp true ts vs ds ps
  | [], [], [], _, _, h, _, _ => h
  | [], _ :: _, _, _, _, h, _, _ => h.elim
  | t :: ts, vs, ds, ps, ht, h, hs, hq => by
    obtain ⟨v, vs', d, ds', p1, p2, rfl, rfl, rfl, h0, r0⟩ := trodAll_cons h
    exact trodAll_cons_mk (WideElems.Trod_stays hl (ht t (by simp)).1 (ht t (by simp)).2 h0 (fun p hp => hs p (by simp [hp])) (fun p hp => hq p (by simp [hp])))
      (trodAll_stays hl (fun u hu => ht u (by simp [hu])) r0 (fun p hp => hs p (by simp [hp])) (fun p hp => hq p (by simp [hp])))
  | [], [], _ :: _, _, _, h, _, _ => h.elim
end Go.Proofs.Ytfpfafijockfnaa.Inp
