/- The inputs of a law read: slices of takes, of numbers of 32 bits, of bytes. -/
import Derived.Test.YtoiggflhfbfiiaaSo
import Derived.Test.YtoiggflhfbfiiaaT2
namespace Go.Proofs.Ytoiggflhfbfiiaa
open Go.RowKit Go.Shelf Go.ChangeShapes Go.WideShapes Go.Deep

theorem und_take : Try.prog.underlying 51 = some (.struct #[⟨"Sack", 3, 0, false, "", "", 0⟩, ⟨"Weight", 25, 1, false, "", "", 8⟩]) := by kernel_rfl
theorem und_takes : Try.prog.underlying 23 = some (.slice 51) := by kernel_rfl
theorem und_u32s : Try.prog.underlying 39 = some (.slice 54) := by kernel_rfl
theorem und_u32' : Try.prog.underlying 54 = some (.int .u32) := by kernel_rfl
theorem cells_take : Try.prog.cellsOf 51 = 3 := by kernel_rfl
theorem cells_u32 : Try.prog.cellsOf 54 = 1 := by kernel_rfl
theorem len1 {α : Type} : ∀ {l : List α}, l.length = 1 → ∃ a, l = [a]
  | [a], _ => ⟨a, rfl⟩
theorem len3 {α : Type} : ∀ {l : List α}, l.length = 3 → ∃ a b c, l = [a, b, c]
  | [a, b, c], _ => ⟨a, b, c, rfl⟩
section
variable {H : Type} {enc : TypeId × Value → H} {w : World} {base : Nat} {spare : Nat → Bool} {held : Bool}
theorem take_cells {fuel : Nat} {cs : List Value} {x : DataW H × List MemPlace} (h : DataW.trod enc Try.prog w base spare held fuel 51 cs = some x) :
    ∃ t : Take, cs = [.int .i64 t.s, .int .i64 t.m.lo, .int .i64 t.m.hi] := by
  obtain ⟨xs, n, -, -, hlen, hxl, hf⟩ := DataW.trod_struct und_take h
  rw [cells_take] at hlen
  have h0 : DataW.trod enc Try.prog w base spare held n 3 ((cs.drop 0).take (Try.prog.cellsOf 3)) = xs[0]? := hf 0 _ rfl
  have h1 : DataW.trod enc Try.prog w base spare held n 25 ((cs.drop 1).take (Try.prog.cellsOf 25)) = xs[1]? := hf 1 _ rfl
  rw [cells_int] at h0
  rw [cells_span] at h1
  have e0 : xs[0]? = some (xs[0]'(by simp [hxl])) := List.getElem?_eq_getElem _
  have e1 : xs[1]? = some (xs[1]'(by simp [hxl])) := List.getElem?_eq_getElem _
  obtain ⟨a, ea, -, -⟩ := DataW.trod_int und_int (h0.trans e0)
  obtain ⟨c, d, ec⟩ := span_cells (h1.trans e1)
  obtain ⟨c0, c1, c2, rfl⟩ := len3 hlen
  simp only [List.drop_zero, List.drop_succ_cons, List.take_succ_cons, List.take_zero, List.cons.injEq, and_true] at ea ec
  subst ea
  obtain ⟨rfl, rfl⟩ := ec
  exact ⟨⟨a, ⟨c, d⟩⟩, rfl⟩
set_option maxRecDepth 100000 in
theorem open_takes {r : Go.Reach} {b0 : Nat} {v : Value} {d : DataW H} {p : List MemPlace} (hval : Value.okWide Try.prog w r b0 23 v) (h : DataW.Trod enc Try.prog w base spare held 23 v d p) :
    ∃ (A : Option Addr) (c : Nat) (l : List Take), v = .slice A l.length c ∧ l.length ≤ 9223372036854775807 ∧ TakeSl w w.heap.size A l := by
  obtain ⟨a0, len, cap, rfl⟩ := okWide_slice und_takes hval
  obtain ⟨fuel, hf⟩ := h
  rcases open_slice und_takes hf with ⟨hcs, hx⟩ | ⟨a, len', cap', m, n, D, Pl, hcs, hb, hl, hm, hmm, hx, hi⟩
  · simp [Value.cells] at hcs
    obtain ⟨rfl, rfl, rfl⟩ := hcs
    exact ⟨none, 0, [], rfl, Nat.zero_le _, fun h => absurd rfl h⟩
  · simp [Value.cells] at hcs
    obtain ⟨rfl, rfl, rfl⟩ := hcs
    have hlm : len ≤ m := by rw [hmm]; split <;> omega
    have hx : ∀ i, ∃ t : Take, i < len → ∀ (j : Nat) (v : Value), [Value.int IntKind.i64 t.s, .int .i64 t.m.lo, .int .i64 t.m.hi][j]? = some v → w.cell? ((a.add (i * 3)).add j) = some v := by
      intro i
      by_cases hil : i < len
      · obtain ⟨cs', hc, ht⟩ := hi i (by omega)
        rw [cells_take] at hc
        obtain ⟨s, rfl⟩ := take_cells ht
        obtain ⟨_, _, hat⟩ := World.cells?_some hc
        refine ⟨s, fun _ j v hj => ?_⟩
        have hj3 : j < 3 := by
          have := (List.getElem?_eq_some_iff.1 hj).1
          simpa using this
        rw [hat j hj3, hj]
      · exact ⟨⟨0, ⟨0, 0⟩⟩, fun h => absurd h hil⟩
    obtain ⟨f, hf'⟩ := Classical.axiomOfChoice hx
    have hlen : ((List.range len).map f).length = len := by simp
    refine ⟨some a, cap, (List.range len).map f, by rw [hlen], by rw [hlen]; have : maxLen ≤ 9223372036854775807 := (by unfold maxLen; omega); omega, fun hne => ?_⟩
    have h0 : 0 < len := by
      rcases Nat.eq_zero_or_pos len with e | e
      · subst e; exact absurd rfl hne
      · exact e
    obtain ⟨b, off, spot⟩ := a
    obtain ⟨hs, hlt⟩ := cell_old (hf' 0 h0 0 _ rfl)
    simp only [Addr.add] at hs hlt
    subst hs
    refine ⟨b, off, rfl, hlt, fun i hi' => ?_⟩
    have hil : i < len := by simpa using hi'
    have hg : ((List.range len).map f)[i]'hi' = f i := by simp
    rw [hg]
    have hc := hf' i hil
    simp only [add_at] at hc
    exact ⟨hc 0 _ rfl, hc 1 _ rfl, hc 2 _ rfl⟩
set_option maxRecDepth 100000 in
theorem open_u32s {r : Go.Reach} {b0 : Nat} {v : Value} {d : DataW H} {p : List MemPlace} (hval : Value.okWide Try.prog w r b0 39 v) (h : DataW.Trod enc Try.prog w base spare held 39 v d p) :
    ∃ (A : Option Addr) (c : Nat) (l : List Int), v = .slice A l.length c ∧ l.length ≤ 9223372036854775807 ∧ U32Sl w w.heap.size A l ∧ ∀ y ∈ l, 0 ≤ y ∧ y ≤ 4294967295 := by
  obtain ⟨a0, len, cap, rfl⟩ := okWide_slice und_u32s hval
  obtain ⟨fuel, hf⟩ := h
  rcases open_slice und_u32s hf with ⟨hcs, hx⟩ | ⟨a, len', cap', m, n, D, Pl, hcs, hb, hl, hm, hmm, hx, hi⟩
  · simp [Value.cells] at hcs
    obtain ⟨rfl, rfl, rfl⟩ := hcs
    exact ⟨none, 0, [], rfl, Nat.zero_le _, fun h => absurd rfl h, fun y hy => by simp at hy⟩
  · simp [Value.cells] at hcs
    obtain ⟨rfl, rfl, rfl⟩ := hcs
    have hlm : len ≤ m := by rw [hmm]; split <;> omega
    have hx : ∀ i, ∃ t : Int, (0 ≤ t ∧ t ≤ 4294967295) ∧ (i < len → w.cell? (a.add i) = some (.int .u32 t)) := by
      intro i
      by_cases hil : i < len
      · obtain ⟨cs', hc, ht⟩ := hi i (by omega)
        rw [cells_u32] at hc
        obtain ⟨t, ec, -, hwf⟩ := DataW.trod_int und_u32' ht
        subst ec
        obtain ⟨_, _, hat⟩ := World.cells?_some hc
        have hu : 0 ≤ t ∧ t ≤ 4294967295 := by
          simp only [Lit.wf] at hwf
          simpa [IntKind.min, IntKind.max, IntKind.signed, IntKind.bits] using hwf
        have h0 := hat 0 (by omega)
        simp only [Nat.mul_one] at h0
        refine ⟨t, hu, fun _ => ?_⟩
        have e : (a.add i).add 0 = a.add i := by simp [Addr.add]
        rw [e] at h0
        simpa using h0
      · exact ⟨0, by omega, fun h => absurd h hil⟩
    obtain ⟨f, hf'⟩ := Classical.axiomOfChoice hx
    have hlen : ((List.range len).map f).length = len := by simp
    refine ⟨some a, cap, (List.range len).map f, by rw [hlen], by rw [hlen]; have : maxLen ≤ 9223372036854775807 := (by unfold maxLen; omega); omega, fun hne => ?_, fun y hy => ?_⟩
    · have h0 : 0 < len := by
        rcases Nat.eq_zero_or_pos len with e | e
        · subst e; exact absurd rfl hne
        · exact e
      obtain ⟨b, off, spot⟩ := a
      obtain ⟨hs, hlt⟩ := cell_old ((hf' 0).2 h0)
      simp only [Addr.add] at hs hlt
      have hsp : spot = none := by simpa using hs
      subst hsp
      refine ⟨b, off, rfl, by simpa using hlt, fun i hi' => ?_⟩
      have hil : i < len := by simpa using hi'
      have hg : ((List.range len).map f)[i]'hi' = f i := by simp
      rw [hg]
      have hc := (hf' i).2 hil
      have e : (⟨b, off, none⟩ : Addr).add i = ⟨b, off + i, none⟩ := by
        unfold Addr.add
        by_cases hi : i = 0 <;> simp [hi]
      rw [e] at hc
      exact hc
    · simp only [List.mem_map] at hy
      obtain ⟨i, -, rfl⟩ := hy
      exact (hf' i).1
end
end Go.Proofs.Ytoiggflhfbfiiaa
