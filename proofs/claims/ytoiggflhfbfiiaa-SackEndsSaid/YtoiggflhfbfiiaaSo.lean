/- The inputs of a law read: a slice of sacks, a span. -/
import Derived.Test.YtoiggflhfbfiiaaRf
import Derived.WalkKit
import Derived.ProofKit
import Derived.OpenShut
import Derived.Carry
import Derived.WideKeyArgs
import Derived.Lib.SmallJoins
import Derived.Deep.Slices
import Derived.ChangeSame
namespace Go.Proofs.Ytoiggflhfbfiiaa
open Go.RowKit Go.Shelf Go.ChangeShapes Go.WideShapes Go.Deep

theorem und_int : Try.prog.underlying 3 = some (.int .i64) := by kernel_rfl
theorem und_span : Try.prog.underlying 25 = some (.struct #[⟨"Lo", 3, 0, false, "", "", 0⟩, ⟨"Hi", 3, 1, false, "", "", 8⟩]) := by kernel_rfl
theorem und_sack : Try.prog.underlying 57 = some (.struct #[⟨"Water", 25, 0, false, "", "", 0⟩, ⟨"Carbon", 25, 2, false, "", "", 16⟩, ⟨"Loss", 25, 4, false, "", "", 32⟩]) := by kernel_rfl
theorem und_sacks : Try.prog.underlying 22 = some (.slice 57) := by kernel_rfl
theorem cells_int : Try.prog.cellsOf 3 = 1 := by kernel_rfl
theorem cells_span : Try.prog.cellsOf 25 = 2 := by kernel_rfl
theorem cells_sack : Try.prog.cellsOf 57 = 6 := by kernel_rfl

theorem len2 {α : Type} : ∀ {l : List α}, l.length = 2 → ∃ a b, l = [a, b]
  | [a, b], _ => ⟨a, b, rfl⟩
theorem len6 {α : Type} : ∀ {l : List α}, l.length = 6 → ∃ a b c d e f, l = [a, b, c, d, e, f]
  | [a, b, c, d, e, f], _ => ⟨a, b, c, d, e, f, rfl⟩
theorem add_at (b o i j : Nat) : ((⟨b, o, none⟩ : Addr).add i).add j = ⟨b, o + i + j, none⟩ := by
  unfold Addr.add
  by_cases hi : i = 0 <;> by_cases hj : j = 0 <;> simp [hi, hj]
section
variable {H : Type} {enc : TypeId × Value → H} {w : World} {base : Nat} {spare : Nat → Bool} {held : Bool}
theorem span_cells {fuel : Nat} {cs : List Value} {x : DataW H × List MemPlace} (h : DataW.trod enc Try.prog w base spare held fuel 25 cs = some x) : ∃ a b, cs = [.int .i64 a, .int .i64 b] := by
  obtain ⟨xs, n, -, -, hlen, hxl, hf⟩ := DataW.trod_struct und_span h
  rw [cells_span] at hlen
  have h0 : DataW.trod enc Try.prog w base spare held n 3 ((cs.drop 0).take (Try.prog.cellsOf 3)) = xs[0]? := hf 0 _ rfl
  have h1 : DataW.trod enc Try.prog w base spare held n 3 ((cs.drop 1).take (Try.prog.cellsOf 3)) = xs[1]? := hf 1 _ rfl
  rw [cells_int] at h0 h1
  have e0 : xs[0]? = some (xs[0]'(by simp [hxl])) := List.getElem?_eq_getElem _
  have e1 : xs[1]? = some (xs[1]'(by simp [hxl])) := List.getElem?_eq_getElem _
  obtain ⟨a, ea, -, -⟩ := DataW.trod_int und_int (h0.trans e0)
  obtain ⟨b, eb, -, -⟩ := DataW.trod_int und_int (h1.trans e1)
  obtain ⟨c0, c1, rfl⟩ := len2 hlen
  simp only [List.drop_zero, List.drop_succ_cons, List.take_succ_cons, List.take_zero, List.cons.injEq, and_true] at ea eb
  subst ea eb
  exact ⟨a, b, rfl⟩
theorem sack_trod_cells {fuel : Nat} {cs : List Value} {x : DataW H × List MemPlace} (h : DataW.trod enc Try.prog w base spare held fuel 57 cs = some x) :
    ∃ s : Sack, cs = [.int .i64 s.w.lo, .int .i64 s.w.hi, .int .i64 s.c.lo, .int .i64 s.c.hi, .int .i64 s.l.lo, .int .i64 s.l.hi] := by
  obtain ⟨xs, n, -, -, hlen, hxl, hf⟩ := DataW.trod_struct und_sack h
  rw [cells_sack] at hlen
  have h0 : DataW.trod enc Try.prog w base spare held n 25 ((cs.drop 0).take (Try.prog.cellsOf 25)) = xs[0]? := hf 0 _ rfl
  have h1 : DataW.trod enc Try.prog w base spare held n 25 ((cs.drop 2).take (Try.prog.cellsOf 25)) = xs[1]? := hf 1 _ rfl
  have h2 : DataW.trod enc Try.prog w base spare held n 25 ((cs.drop 4).take (Try.prog.cellsOf 25)) = xs[2]? := hf 2 _ rfl
  rw [cells_span] at h0 h1 h2
  have e0 : xs[0]? = some (xs[0]'(by simp [hxl])) := List.getElem?_eq_getElem _
  have e1 : xs[1]? = some (xs[1]'(by simp [hxl])) := List.getElem?_eq_getElem _
  have e2 : xs[2]? = some (xs[2]'(by simp [hxl])) := List.getElem?_eq_getElem _
  obtain ⟨a, b, ea⟩ := span_cells (h0.trans e0)
  obtain ⟨c, d, ec⟩ := span_cells (h1.trans e1)
  obtain ⟨e, f, ee⟩ := span_cells (h2.trans e2)
  obtain ⟨c0, c1, c2, c3, c4, c5, rfl⟩ := len6 hlen
  simp only [List.drop_zero, List.drop_succ_cons, List.take_succ_cons, List.take_zero, List.cons.injEq, and_true] at ea ec ee
  obtain ⟨rfl, rfl⟩ := ea
  obtain ⟨rfl, rfl⟩ := ec
  obtain ⟨rfl, rfl⟩ := ee
  exact ⟨⟨⟨a, b⟩, ⟨c, d⟩, ⟨e, f⟩⟩, rfl⟩
theorem cell_old {a : Addr} {v : Value} (h : w.cell? a = some v) : a.spot = none ∧ a.block < w.heap.size := by
  unfold World.cell? at h
  split at h
  · rename_i hh
    refine ⟨?_, (Array.getElem?_eq_some_iff.1 hh).1⟩
    split at h
    · simp at h
    · rename_i hs; simpa using hs
  · simp at h
set_option maxRecDepth 100000 in
theorem open_sacks {r : Go.Reach} {b0 : Nat} {v : Value} {d : DataW H} {p : List MemPlace} (hval : Value.okWide Try.prog w r b0 22 v) (h : DataW.Trod enc Try.prog w base spare held 22 v d p) :
    ∃ (A : Option Addr) (c : Nat) (l : List Sack), v = .slice A l.length c ∧ l.length ≤ 9223372036854775807 ∧ SackSl w w.heap.size A l := by
  obtain ⟨a0, len, cap, rfl⟩ := okWide_slice und_sacks hval
  obtain ⟨fuel, hf⟩ := h
  rcases open_slice und_sacks hf with ⟨hcs, hx⟩ | ⟨a, len', cap', m, n, D, Pl, hcs, hb, hl, hm, hmm, hx, hi⟩
  · simp [Value.cells] at hcs
    obtain ⟨rfl, rfl, rfl⟩ := hcs
    exact ⟨none, 0, [], rfl, Nat.zero_le _, fun h => absurd rfl h⟩
  · simp [Value.cells] at hcs
    obtain ⟨rfl, rfl, rfl⟩ := hcs
    have hlm : len ≤ m := by rw [hmm]; split <;> omega
    have hx : ∀ i, ∃ s : Sack, i < len → ∀ (j : Nat) (v : Value), [Value.int .i64 s.w.lo, .int .i64 s.w.hi, .int .i64 s.c.lo, .int .i64 s.c.hi, .int .i64 s.l.lo, .int .i64 s.l.hi][j]? = some v → w.cell? ((a.add (i * 6)).add j) = some v := by
      intro i
      by_cases hil : i < len
      · obtain ⟨cs', hc, ht⟩ := hi i (by omega)
        rw [cells_sack] at hc
        obtain ⟨s, rfl⟩ := sack_trod_cells ht
        obtain ⟨_, _, hat⟩ := World.cells?_some hc
        refine ⟨s, fun _ j v hj => ?_⟩
        have hj6 : j < 6 := by
          have := (List.getElem?_eq_some_iff.1 hj).1
          simpa using this
        rw [hat j hj6, hj]
      · exact ⟨⟨⟨0, 0⟩, ⟨0, 0⟩, ⟨0, 0⟩⟩, fun h => absurd h hil⟩
    obtain ⟨f, hf'⟩ := Classical.axiomOfChoice hx
    have hlen : ((List.range len).map f).length = len := by simp
    refine ⟨some a, cap, (List.range len).map f, by rw [hlen], by rw [hlen]; have : maxLen ≤ 9223372036854775807 := (by unfold maxLen; omega); omega, fun hne => ?_⟩
    have h0 : 0 < len := by
      rcases Nat.eq_zero_or_pos len with e | e
      · subst e; exact absurd rfl hne
      · exact e
    obtain ⟨b, off, spot⟩ := a
    obtain ⟨hs, hlt⟩ := cell_old (hf' 0 h0 0 _ rfl)
    simp only [Addr.add] at hs hlt
    subst hs
    refine ⟨b, off, rfl, hlt, fun i hi' => ?_⟩
    have hil : i < len := by simpa using hi'
    have hg : ((List.range len).map f)[i]'hi' = f i := by simp
    rw [hg]
    have hc := hf' i hil
    simp only [add_at] at hc
    exact ⟨hc 0 _ rfl, hc 1 _ rfl, hc 2 _ rfl, hc 3 _ rfl, hc 4 _ rfl, hc 5 _ rfl⟩
end
end Go.Proofs.Ytoiggflhfbfiiaa
