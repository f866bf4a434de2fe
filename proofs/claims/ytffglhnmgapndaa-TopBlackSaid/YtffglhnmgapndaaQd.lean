/- Made by program out of parts: So,T2,So2,Rc. -/
import Derived.Test.YtffglhnmgapndaaRows
import Derived.Test.YtffglhnmgapndaaQc
import Derived.WalkKit
import Derived.ProofKit
import Derived.OpenShut
import Derived.Carry
import Derived.WideKeyArgs
import Derived.Lib.SmallJoins
import Derived.Deep.Slices
import Derived.ChangeSame
import Derived.Deep.AppendLies
import Derived.Maps.AppendAt
/- The inputs of a law read: a slice of sacks, a span. -/
namespace Go.Proofs.Ytffglhnmgapndaa
open Go.RowKit Go.Shelf Go.ChangeShapes Go.WideShapes Go.Deep

theorem und_int : Try.prog.underlying 3 = some (.int .i64) := by kernel_rfl
theorem und_span : Try.prog.underlying 31 = some (.struct #[⟨"Lo", 3, 0, false, "", "", 0⟩, ⟨"Hi", 3, 1, false, "", "", 8⟩]) := by kernel_rfl
theorem und_sack : Try.prog.underlying 48 = some (.struct #[⟨"Water", 31, 0, false, "", "", 0⟩, ⟨"Carbon", 31, 2, false, "", "", 16⟩, ⟨"Loss", 31, 4, false, "", "", 32⟩]) := by kernel_rfl
theorem und_sacks : Try.prog.underlying 22 = some (.slice 48) := by kernel_rfl
theorem cells_int : Try.prog.cellsOf 3 = 1 := by kernel_rfl
theorem cells_span : Try.prog.cellsOf 31 = 2 := by kernel_rfl
theorem cells_sack : Try.prog.cellsOf 48 = 6 := by kernel_rfl

theorem len2 {α : Type} : ∀ {l : List α}, l.length = 2 → ∃ a b, l = [a, b]
  | [a, b], _ => ⟨a, b, rfl⟩
theorem len6 {α : Type} : ∀ {l : List α}, l.length = 6 → ∃ a b c d e f, l = [a, b, c, d, e, f]
  | [a, b, c, d, e, f], _ => ⟨a, b, c, d, e, f, rfl⟩
theorem add_at (b o i j : Nat) : ((⟨b, o, none⟩ : Addr).add i).add j = ⟨b, o + i + j, none⟩ := by
  unfold Addr.add
  by_cases hi : i = 0 <;> by_cases hj : j = 0 <;> simp [hi, hj]
section
variable {H : Type} {enc : TypeId × Value → H} {w : World} {base : Nat} {spare : Nat → Bool} {held : Bool}
theorem span_cells {fuel : Nat} {cs : List Value} {x : DataW H × List MemPlace} (h : DataW.trod enc Try.prog w base spare held fuel 31 cs = some x) : ∃ a b, cs = [.int .i64 a, .int .i64 b] := by
  obtain ⟨xs, n, -, -, hlen, hxl, hf⟩ := DataW.trod_struct und_span h
  rw [cells_span] at hlen
  have h0 : DataW.trod enc Try.prog w base spare held n 3 ((cs.drop 0).take (Try.prog.cellsOf 3)) = xs[0]? := hf 0 _ rfl
  have h1 : DataW.trod enc Try.prog w base spare held n 3 ((cs.drop 1).take (Try.prog.cellsOf 3)) = xs[1]? := hf 1 _ rfl
  rw [cells_int] at h0 h1
  have e0 : xs[0]? = some (xs[0]'(by simp [hxl])) := List.getElem?_eq_getElem _
  have e1 : xs[1]? = some (xs[1]'(by simp [hxl])) := List.getElem?_eq_getElem _
  obtain ⟨a, ea, -, -⟩ := DataW.trod_int und_int (h0.trans e0)
  obtain ⟨b, eb, -, -⟩ := DataW.trod_int und_int (h1.trans e1)
  obtain ⟨c0, c1, rfl⟩ := len2 hlen
  simp only [List.drop_zero, List.drop_succ_cons, List.take_succ_cons, List.take_zero, List.cons.injEq, and_true] at ea eb
  subst ea eb
  exact ⟨a, b, rfl⟩
theorem sack_trod_cells {fuel : Nat} {cs : List Value} {x : DataW H × List MemPlace} (h : DataW.trod enc Try.prog w base spare held fuel 48 cs = some x) :
    ∃ s : Sack, cs = [.int .i64 s.w.lo, .int .i64 s.w.hi, .int .i64 s.c.lo, .int .i64 s.c.hi, .int .i64 s.l.lo, .int .i64 s.l.hi] := by
  obtain ⟨xs, n, -, -, hlen, hxl, hf⟩ := DataW.trod_struct und_sack h
  rw [cells_sack] at hlen
  have h0 : DataW.trod enc Try.prog w base spare held n 31 ((cs.drop 0).take (Try.prog.cellsOf 31)) = xs[0]? := hf 0 _ rfl
  have h1 : DataW.trod enc Try.prog w base spare held n 31 ((cs.drop 2).take (Try.prog.cellsOf 31)) = xs[1]? := hf 1 _ rfl
  have h2 : DataW.trod enc Try.prog w base spare held n 31 ((cs.drop 4).take (Try.prog.cellsOf 31)) = xs[2]? := hf 2 _ rfl
  rw [cells_span] at h0 h1 h2
  have e0 : xs[0]? = some (xs[0]'(by simp [hxl])) := List.getElem?_eq_getElem _
  have e1 : xs[1]? = some (xs[1]'(by simp [hxl])) := List.getElem?_eq_getElem _
  have e2 : xs[2]? = some (xs[2]'(by simp [hxl])) := List.getElem?_eq_getElem _
  obtain ⟨a, b, ea⟩ := span_cells (h0.trans e0)
  obtain ⟨c, d, ec⟩ := span_cells (h1.trans e1)
  obtain ⟨e, f, ee⟩ := span_cells (h2.trans e2)
  obtain ⟨c0, c1, c2, c3, c4, c5, rfl⟩ := len6 hlen
  simp only [List.drop_zero, List.drop_succ_cons, List.take_succ_cons, List.take_zero, List.cons.injEq, and_true] at ea ec ee
  obtain ⟨rfl, rfl⟩ := ea
  obtain ⟨rfl, rfl⟩ := ec
  obtain ⟨rfl, rfl⟩ := ee
  exact ⟨⟨⟨a, b⟩, ⟨c, d⟩, ⟨e, f⟩⟩, rfl⟩
theorem cell_old {a : Addr} {v : Value} (h : w.cell? a = some v) : a.spot = none ∧ a.block < w.heap.size := by
  unfold World.cell? at h
  split at h
  · rename_i hh
    refine ⟨?_, (Array.getElem?_eq_some_iff.1 hh).1⟩
    split at h
    · simp at h
    · rename_i hs; simpa using hs
  · simp at h
set_option maxRecDepth 100000 in
theorem open_sacks {r : Go.Reach} {b0 : Nat} {v : Value} {d : DataW H} {p : List MemPlace} (hval : Value.okWide Try.prog w r b0 22 v) (h : DataW.Trod enc Try.prog w base spare held 22 v d p) :
    ∃ (A : Option Addr) (c : Nat) (l : List Sack), v = .slice A l.length c ∧ l.length ≤ 9223372036854775807 ∧ SackSl w w.heap.size A l := by
  obtain ⟨a0, len, cap, rfl⟩ := okWide_slice und_sacks hval
  obtain ⟨fuel, hf⟩ := h
  rcases open_slice und_sacks hf with ⟨hcs, hx⟩ | ⟨a, len', cap', m, n, D, Pl, hcs, hb, hl, hm, hmm, hx, hi⟩
  · simp [Value.cells] at hcs
    obtain ⟨rfl, rfl, rfl⟩ := hcs
    exact ⟨none, 0, [], rfl, Nat.zero_le _, fun h => absurd rfl h⟩
  · simp [Value.cells] at hcs
    obtain ⟨rfl, rfl, rfl⟩ := hcs
    have hlm : len ≤ m := by rw [hmm]; split <;> omega
    have hx : ∀ i, ∃ s : Sack, i < len → ∀ (j : Nat) (v : Value), [Value.int .i64 s.w.lo, .int .i64 s.w.hi, .int .i64 s.c.lo, .int .i64 s.c.hi, .int .i64 s.l.lo, .int .i64 s.l.hi][j]? = some v → w.cell? ((a.add (i * 6)).add j) = some v := by
      intro i
      by_cases hil : i < len
      · obtain ⟨cs', hc, ht⟩ := hi i (by omega)
        rw [cells_sack] at hc
        obtain ⟨s, rfl⟩ := sack_trod_cells ht
        obtain ⟨_, _, hat⟩ := World.cells?_some hc
        refine ⟨s, fun _ j v hj => ?_⟩
        have hj6 : j < 6 := by
          have := (List.getElem?_eq_some_iff.1 hj).1
          simpa using this
        rw [hat j hj6, hj]
      · exact ⟨⟨⟨0, 0⟩, ⟨0, 0⟩, ⟨0, 0⟩⟩, fun h => absurd h hil⟩
    obtain ⟨f, hf'⟩ := Classical.axiomOfChoice hx
    have hlen : ((List.range len).map f).length = len := by simp
    refine ⟨some a, cap, (List.range len).map f, by rw [hlen], by rw [hlen]; have : maxLen ≤ 9223372036854775807 := (by unfold maxLen; omega); omega, fun hne => ?_⟩
    have h0 : 0 < len := by
      rcases Nat.eq_zero_or_pos len with e | e
      · subst e; exact absurd rfl hne
      · exact e
    obtain ⟨b, off, spot⟩ := a
    obtain ⟨hs, hlt⟩ := cell_old (hf' 0 h0 0 _ rfl)
    simp only [Addr.add] at hs hlt
    subst hs
    refine ⟨b, off, rfl, hlt, fun i hi' => ?_⟩
    have hil : i < len := by simpa using hi'
    have hg : ((List.range len).map f)[i]'hi' = f i := by simp
    rw [hg]
    have hc := hf' i hil
    simp only [add_at] at hc
    exact ⟨hc 0 _ rfl, hc 1 _ rfl, hc 2 _ rfl, hc 3 _ rfl, hc 4 _ rfl, hc 5 _ rfl⟩
end
end Go.Proofs.Ytffglhnmgapndaa

/- Slices of what is true: corners and weights. The law's function truth. -/
namespace Go.Proofs.Ytffglhnmgapndaa
open Go.RowKit Go.Shelf

/-- A slice of ints, of numbers of 32 bits, of what is true of sacks. -/
def IntSl (w : World) (B : Nat) (A : Option Addr) (xs : List Int) : Prop := xs ≠ [] → ∃ b off, A = some ⟨b, off, none⟩ ∧ b < B ∧ ∀ i (h : i < xs.length), w.cell? ⟨b, off + i, none⟩ = some (.int .i64 xs[i])
def U32Sl (w : World) (B : Nat) (A : Option Addr) (xs : List Int) : Prop := xs ≠ [] → ∃ b off, A = some ⟨b, off, none⟩ ∧ b < B ∧ ∀ i (h : i < xs.length), w.cell? ⟨b, off + i, none⟩ = some (.int .u32 xs[i])
def CorSl (w : World) (B : Nat) (A : Option Addr) (xs : List Cor) : Prop := xs ≠ [] → ∃ b off, A = some ⟨b, off, none⟩ ∧ b < B ∧ ∀ i (h : i < xs.length), w.cell? ⟨b, off + i * 3, none⟩ = some (.int .i64 xs[i].w) ∧ w.cell? ⟨b, off + i * 3 + 1, none⟩ = some (.int .i64 xs[i].c) ∧ w.cell? ⟨b, off + i * 3 + 2, none⟩ = some (.int .i64 xs[i].s)
theorem IntSl.below {w w' : World} {B : Nat} {A : Option Addr} {xs : List Int} (h : IntSl w B A xs) (hb : Below B w w') : IntSl w' B A xs := fun hne => by
  obtain ⟨b, off, e, hlt, hs⟩ := h hne
  exact ⟨b, off, e, hlt, fun i hi => (hb.cell (p := ⟨b, _, none⟩) hlt).trans (hs i hi)⟩
theorem U32Sl.below {w w' : World} {B : Nat} {A : Option Addr} {xs : List Int} (h : U32Sl w B A xs) (hb : Below B w w') : U32Sl w' B A xs := fun hne => by
  obtain ⟨b, off, e, hlt, hs⟩ := h hne
  exact ⟨b, off, e, hlt, fun i hi => (hb.cell (p := ⟨b, _, none⟩) hlt).trans (hs i hi)⟩
theorem CorSl.below {w w' : World} {B : Nat} {A : Option Addr} {xs : List Cor} (h : CorSl w B A xs) (hb : Below B w w') : CorSl w' B A xs := fun hne => by
  obtain ⟨b, off, e, hlt, hs⟩ := h hne
  exact ⟨b, off, e, hlt, fun i hi => ⟨(hb.cell (p := ⟨b, _, none⟩) hlt).trans (hs i hi).1, (hb.cell (p := ⟨b, _, none⟩) hlt).trans (hs i hi).2.1, (hb.cell (p := ⟨b, _, none⟩) hlt).trans (hs i hi).2.2⟩⟩
theorem IntSl.more {w : World} {B B' : Nat} {A : Option Addr} {xs : List Int} (h : IntSl w B A xs) (hB : B ≤ B') : IntSl w B' A xs := fun hne => by
  obtain ⟨b, off, e, hlt, hs⟩ := h hne
  exact ⟨b, off, e, by omega, hs⟩
theorem U32Sl.more {w : World} {B B' : Nat} {A : Option Addr} {xs : List Int} (h : U32Sl w B A xs) (hB : B ≤ B') : U32Sl w B' A xs := fun hne => by
  obtain ⟨b, off, e, hlt, hs⟩ := h hne
  exact ⟨b, off, e, by omega, hs⟩
theorem CorSl.more {w : World} {B B' : Nat} {A : Option Addr} {xs : List Cor} (h : CorSl w B A xs) (hB : B ≤ B') : CorSl w B' A xs := fun hne => by
  obtain ⟨b, off, e, hlt, hs⟩ := h hne
  exact ⟨b, off, e, by omega, hs⟩

theorem add_off (g i : Nat) : (⟨g, 0, none⟩ : Addr).add i = ⟨g, i, none⟩ := by
  unfold Addr.add
  split
  · rename_i h0; rw [h0]
  · simp
def IntsAt (w : World) (B : Nat) (v : Value) (xs : List Int) : Prop := w.ownsRow B 3 1 v xs.length (xs.map (Value.int .i64))
theorem IntSl.of_own {w : World} {B : Nat} {v : Value} {xs : List Int} (h : IntsAt w B v xs) : ∃ A c, v = .slice A xs.length c ∧ IntSl w w.heap.size A xs := by
  have h : w.ownsRow B 3 1 v xs.length (xs.map (Value.int .i64)) := h
  rcases Nat.eq_zero_or_pos xs.length with h0 | hne
  · have : xs = [] := List.eq_nil_of_length_eq_zero h0
    subst this
    rcases h.2 with ⟨rfl, _⟩ | ⟨g, cap, cur, rfl, _⟩
    · exact ⟨none, 0, rfl, fun h => absurd rfl h⟩
    · exact ⟨_, cap, rfl, fun h => absurd rfl h⟩
  · obtain ⟨g, cap, hv, _, hlt⟩ := World.ownsRow.form h hne
    subst hv
    refine ⟨_, cap, rfl, fun _ => ⟨g, 0, rfl, hlt, fun i hi => ?_⟩⟩
    have c0 := World.ownsRow.cells h (g := g) rfl i (.int .i64 xs[i]) (by simp [hi])
    rw [add_off] at c0
    simpa using c0
end Go.Proofs.Ytffglhnmgapndaa

/- The inputs of a law read: slices of takes, of numbers of 32 bits, of bytes. -/
namespace Go.Proofs.Ytffglhnmgapndaa
open Go.RowKit Go.Shelf Go.ChangeShapes Go.WideShapes Go.Deep

theorem und_take : Try.prog.underlying 33 = some (.struct #[⟨"Sack", 3, 0, false, "", "", 0⟩, ⟨"Weight", 31, 1, false, "", "", 8⟩]) := by kernel_rfl
theorem und_takes : Try.prog.underlying 23 = some (.slice 33) := by kernel_rfl
theorem und_u32s : Try.prog.underlying 25 = some (.slice 45) := by kernel_rfl
theorem und_u32' : Try.prog.underlying 45 = some (.int .u32) := by kernel_rfl
theorem cells_take : Try.prog.cellsOf 33 = 3 := by kernel_rfl
theorem cells_u32 : Try.prog.cellsOf 45 = 1 := by kernel_rfl
theorem len3 {α : Type} : ∀ {l : List α}, l.length = 3 → ∃ a b c, l = [a, b, c]
  | [a, b, c], _ => ⟨a, b, c, rfl⟩
section
variable {H : Type} {enc : TypeId × Value → H} {w : World} {base : Nat} {spare : Nat → Bool} {held : Bool}
theorem take_cells {fuel : Nat} {cs : List Value} {x : DataW H × List MemPlace} (h : DataW.trod enc Try.prog w base spare held fuel 33 cs = some x) :
    ∃ t : Take, cs = [.int .i64 t.s, .int .i64 t.m.lo, .int .i64 t.m.hi] := by
  obtain ⟨xs, n, -, -, hlen, hxl, hf⟩ := DataW.trod_struct und_take h
  rw [cells_take] at hlen
  have h0 : DataW.trod enc Try.prog w base spare held n 3 ((cs.drop 0).take (Try.prog.cellsOf 3)) = xs[0]? := hf 0 _ rfl
  have h1 : DataW.trod enc Try.prog w base spare held n 31 ((cs.drop 1).take (Try.prog.cellsOf 31)) = xs[1]? := hf 1 _ rfl
  rw [cells_int] at h0
  rw [cells_span] at h1
  have e0 : xs[0]? = some (xs[0]'(by simp [hxl])) := List.getElem?_eq_getElem _
  have e1 : xs[1]? = some (xs[1]'(by simp [hxl])) := List.getElem?_eq_getElem _
  obtain ⟨a, ea, -, -⟩ := DataW.trod_int und_int (h0.trans e0)
  obtain ⟨c, d, ec⟩ := span_cells (h1.trans e1)
  obtain ⟨c0, c1, c2, rfl⟩ := len3 hlen
  simp only [List.drop_zero, List.drop_succ_cons, List.take_succ_cons, List.take_zero, List.cons.injEq, and_true] at ea ec
  subst ea
  obtain ⟨rfl, rfl⟩ := ec
  exact ⟨⟨a, ⟨c, d⟩⟩, rfl⟩
set_option maxRecDepth 100000 in
theorem open_takes {r : Go.Reach} {b0 : Nat} {v : Value} {d : DataW H} {p : List MemPlace} (hval : Value.okWide Try.prog w r b0 23 v) (h : DataW.Trod enc Try.prog w base spare held 23 v d p) :
    ∃ (A : Option Addr) (c : Nat) (l : List Take), v = .slice A l.length c ∧ l.length ≤ 9223372036854775807 ∧ TakeSl w w.heap.size A l := by
  obtain ⟨a0, len, cap, rfl⟩ := okWide_slice und_takes hval
  obtain ⟨fuel, hf⟩ := h
  rcases open_slice und_takes hf with ⟨hcs, hx⟩ | ⟨a, len', cap', m, n, D, Pl, hcs, hb, hl, hm, hmm, hx, hi⟩
  · simp [Value.cells] at hcs
    obtain ⟨rfl, rfl, rfl⟩ := hcs
    exact ⟨none, 0, [], rfl, Nat.zero_le _, fun h => absurd rfl h⟩
  · simp [Value.cells] at hcs
    obtain ⟨rfl, rfl, rfl⟩ := hcs
    have hlm : len ≤ m := by rw [hmm]; split <;> omega
    have hx : ∀ i, ∃ t : Take, i < len → ∀ (j : Nat) (v : Value), [Value.int IntKind.i64 t.s, .int .i64 t.m.lo, .int .i64 t.m.hi][j]? = some v → w.cell? ((a.add (i * 3)).add j) = some v := by
      intro i
      by_cases hil : i < len
      · obtain ⟨cs', hc, ht⟩ := hi i (by omega)
        rw [cells_take] at hc
        obtain ⟨s, rfl⟩ := take_cells ht
        obtain ⟨_, _, hat⟩ := World.cells?_some hc
        refine ⟨s, fun _ j v hj => ?_⟩
        have hj3 : j < 3 := by
          have := (List.getElem?_eq_some_iff.1 hj).1
          simpa using this
        rw [hat j hj3, hj]
      · exact ⟨⟨0, ⟨0, 0⟩⟩, fun h => absurd h hil⟩
    obtain ⟨f, hf'⟩ := Classical.axiomOfChoice hx
    have hlen : ((List.range len).map f).length = len := by simp
    refine ⟨some a, cap, (List.range len).map f, by rw [hlen], by rw [hlen]; have : maxLen ≤ 9223372036854775807 := (by unfold maxLen; omega); omega, fun hne => ?_⟩
    have h0 : 0 < len := by
      rcases Nat.eq_zero_or_pos len with e | e
      · subst e; exact absurd rfl hne
      · exact e
    obtain ⟨b, off, spot⟩ := a
    obtain ⟨hs, hlt⟩ := cell_old (hf' 0 h0 0 _ rfl)
    simp only [Addr.add] at hs hlt
    subst hs
    refine ⟨b, off, rfl, hlt, fun i hi' => ?_⟩
    have hil : i < len := by simpa using hi'
    have hg : ((List.range len).map f)[i]'hi' = f i := by simp
    rw [hg]
    have hc := hf' i hil
    simp only [add_at] at hc
    exact ⟨hc 0 _ rfl, hc 1 _ rfl, hc 2 _ rfl⟩
set_option maxRecDepth 100000 in
theorem open_u32s {r : Go.Reach} {b0 : Nat} {v : Value} {d : DataW H} {p : List MemPlace} (hval : Value.okWide Try.prog w r b0 25 v) (h : DataW.Trod enc Try.prog w base spare held 25 v d p) :
    ∃ (A : Option Addr) (c : Nat) (l : List Int), v = .slice A l.length c ∧ l.length ≤ 9223372036854775807 ∧ U32Sl w w.heap.size A l ∧ ∀ y ∈ l, 0 ≤ y ∧ y ≤ 4294967295 := by
  obtain ⟨a0, len, cap, rfl⟩ := okWide_slice und_u32s hval
  obtain ⟨fuel, hf⟩ := h
  rcases open_slice und_u32s hf with ⟨hcs, hx⟩ | ⟨a, len', cap', m, n, D, Pl, hcs, hb, hl, hm, hmm, hx, hi⟩
  · simp [Value.cells] at hcs
    obtain ⟨rfl, rfl, rfl⟩ := hcs
    exact ⟨none, 0, [], rfl, Nat.zero_le _, fun h => absurd rfl h, fun y hy => by simp at hy⟩
  · simp [Value.cells] at hcs
    obtain ⟨rfl, rfl, rfl⟩ := hcs
    have hlm : len ≤ m := by rw [hmm]; split <;> omega
    have hx : ∀ i, ∃ t : Int, (0 ≤ t ∧ t ≤ 4294967295) ∧ (i < len → w.cell? (a.add i) = some (.int .u32 t)) := by
      intro i
      by_cases hil : i < len
      · obtain ⟨cs', hc, ht⟩ := hi i (by omega)
        rw [cells_u32] at hc
        obtain ⟨t, ec, -, hwf⟩ := DataW.trod_int und_u32' ht
        subst ec
        obtain ⟨_, _, hat⟩ := World.cells?_some hc
        have hu : 0 ≤ t ∧ t ≤ 4294967295 := by
          simp only [Lit.wf] at hwf
          simpa [IntKind.min, IntKind.max, IntKind.signed, IntKind.bits] using hwf
        have h0 := hat 0 (by omega)
        simp only [Nat.mul_one] at h0
        refine ⟨t, hu, fun _ => ?_⟩
        have e : (a.add i).add 0 = a.add i := by simp [Addr.add]
        rw [e] at h0
        simpa using h0
      · exact ⟨0, by omega, fun h => absurd h hil⟩
    obtain ⟨f, hf'⟩ := Classical.axiomOfChoice hx
    have hlen : ((List.range len).map f).length = len := by simp
    refine ⟨some a, cap, (List.range len).map f, by rw [hlen], by rw [hlen]; have : maxLen ≤ 9223372036854775807 := (by unfold maxLen; omega); omega, fun hne => ?_, fun y hy => ?_⟩
    · have h0 : 0 < len := by
        rcases Nat.eq_zero_or_pos len with e | e
        · subst e; exact absurd rfl hne
        · exact e
      obtain ⟨b, off, spot⟩ := a
      obtain ⟨hs, hlt⟩ := cell_old ((hf' 0).2 h0)
      simp only [Addr.add] at hs hlt
      have hsp : spot = none := by simpa using hs
      subst hsp
      refine ⟨b, off, rfl, by simpa using hlt, fun i hi' => ?_⟩
      have hil : i < len := by simpa using hi'
      have hg : ((List.range len).map f)[i]'hi' = f i := by simp
      rw [hg]
      have hc := (hf' i).2 hil
      have e : (⟨b, off, none⟩ : Addr).add i = ⟨b, off + i, none⟩ := by
        unfold Addr.add
        by_cases hi : i = 0 <;> simp [hi]
      rw [e] at hc
      exact hc
    · simp only [List.mem_map] at hy
      obtain ⟨i, -, rfl⟩ := hy
      exact (hf' i).1
end
end Go.Proofs.Ytffglhnmgapndaa

/- What all rows share: arguments that stay as they were. -/
namespace Go.Proofs.Ytffglhnmgapndaa
open Go.ChangeShapes Go.WideShapes Go.ChangeAt Go.RowKit Go.Joins

theorem own : ownKnob Try.prog.godebug = none := by kernel_rfl
theorem und_bool : Try.prog.underlying 4 = some .bool := by kernel_rfl
theorem trodAll_stays {H : Type} {enc : TypeId × Value → H} {P : Program} (hl : laidOutB P = true) {W W' : World} {sp : Nat → Bool} : ∀ {ts : List TypeId} {vs : List Value} {ds : List (DataW H)} {ps : List MemPlace}, (∀ t ∈ ts, P.readableRec t = true ∧ t < P.types.size) →
    DataW.TrodAll enc P W 0 (fun _ => true) true ts vs ds ps → (∀ p ∈ ps, W.sameAt W' p) → (∀ p ∈ ps, sp p.block = true) → DataW.TrodAll enc P W' 0 sp true ts vs ds ps
  | [], [], [], _, _, h, _, _ => h
  | [], _ :: _, _, _, _, h, _, _ => h.elim
  | t :: ts, vs, ds, ps, ht, h, hs, hq => by
    obtain ⟨v, vs', d, ds', p1, p2, rfl, rfl, rfl, h0, r0⟩ := trodAll_cons h
    exact trodAll_cons_mk (WideElems.Trod_stays hl (ht t (by simp)).1 (ht t (by simp)).2 h0 (fun p hp => hs p (by simp [hp])) (fun p hp => hq p (by simp [hp])))
      (trodAll_stays hl (fun u hu => ht u (by simp [hu])) r0 (fun p hp => hs p (by simp [hp])) (fun p hp => hq p (by simp [hp])))
  | [], [], _ :: _, _, _, h, _, _ => h.elim

end Go.Proofs.Ytffglhnmgapndaa

