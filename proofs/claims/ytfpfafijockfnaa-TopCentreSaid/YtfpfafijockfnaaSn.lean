/- Rows of leads, four cells each. -/
import Derived.Test.YtfpfafijockfnaaSm
import Derived.Laws.MakeOwn
namespace Go.Proofs.Ytfpfafijockfnaa
open Go.RowKit Go.Shelf

theorem sc4 {w : World} {g i j : Nat} {v : Value} (h : i ≠ j) : (w.setCell ⟨g, j, none⟩ v).cell? ⟨g, i, none⟩ = w.cell? ⟨g, i, none⟩ := World.cell?_setCell_other _ _ _ _ (fun e => h (by cases e; rfl))
/-- A list of leads in a block of the call's own. -/
structure LdRow (W : World) (g : Nat) (l : List Lead) : Prop where
  lt : g < W.heap.size
  at_ : ∀ i (h : i < l.length), W.cell? ⟨g, i * 4, none⟩ = some (.int .i64 l[i].side.lo) ∧ W.cell? ⟨g, i * 4 + 1, none⟩ = some (.int .i64 l[i].side.hi) ∧ W.cell? ⟨g, i * 4 + 2, none⟩ = some (.int .i64 l[i].height.lo) ∧ W.cell? ⟨g, i * 4 + 3, none⟩ = some (.int .i64 l[i].height.hi)
  fr : ∀ j, W.frozen? ⟨g, j, none⟩ = false
section
variable {W W' : World} {g : Nat} {l : List Lead}
theorem LdRow.low (h : LdRow W g l) {B : Nat} (hb : Below B W W') (hg : g < B) : LdRow W' g l := by
  refine ⟨?_, fun i hi => ?_, fun j => (hb.frozen (p := ⟨g, j, none⟩) hg).trans (h.fr j)⟩
  · have := h.lt
    have := hb.size
    omega
  · obtain ⟨a0, a1, a2, a3⟩ := h.at_ i hi
    have q : ∀ o, W'.cell? ⟨g, o, none⟩ = W.cell? ⟨g, o, none⟩ := fun o => hb.cell (p := ⟨g, o, none⟩) hg
    exact ⟨(q _).trans a0, (q _).trans a1, (q _).trans a2, (q _).trans a3⟩
theorem LdRow.call (h : LdRow W g l) (hb : Below W.heap.size W W') : LdRow W' g l := h.low hb h.lt
theorem LdRow.far (h : LdRow W g l) {p : Addr} (hne : g ≠ p.block) (v : Value) : LdRow (W.setCell p v) g l := by
  have hh : (W.setCell p v).heap[g]? = W.heap[g]? := Below.heap_setCell W p v g hne
  have q : ∀ o, (W.setCell p v).cell? ⟨g, o, none⟩ = W.cell? ⟨g, o, none⟩ := fun o => World.cell?_of_block (a := ⟨g, o, none⟩) hh
  refine ⟨by simpa using h.lt, fun i hi => ?_, fun j => by rw [World.frozen?_setCell]; exact h.fr j⟩
  obtain ⟨a0, a1, a2, a3⟩ := h.at_ i hi
  exact ⟨(q _).trans a0, (q _).trans a1, (q _).trans a2, (q _).trans a3⟩
theorem LdRow.side (h : LdRow W g l) {k : Nat} (hk : k < l.length) (s : Span) : LdRow ((W.setCell ⟨g, k * 4, none⟩ (.int .i64 s.lo)).setCell ⟨g, k * 4 + 1, none⟩ (.int .i64 s.hi)) g (l.set k ⟨s, l[k].height⟩) := by
  refine ⟨by simpa using h.lt, fun i hi => ?_, fun j => by rw [World.frozen?_setCell, World.frozen?_setCell]; exact h.fr j⟩
  rw [List.length_set] at hi
  obtain ⟨a0, a1, a2, a3⟩ := h.at_ i hi
  by_cases hik : k = i
  · subst hik
    rw [List.getElem_set_self]
    refine ⟨?_, ?_, ?_, ?_⟩
    · rw [sc4 (by omega)]; exact World.cell?_setCell_same _ _ _ a0
    · exact World.cell?_setCell_same _ _ _ ((sc4 (by omega)).trans a1)
    · rw [sc4 (by omega), sc4 (by omega)]; exact a2
    · rw [sc4 (by omega), sc4 (by omega)]; exact a3
  · rw [List.getElem_set_ne hik, sc4 (by omega), sc4 (by omega), sc4 (by omega), sc4 (by omega), sc4 (by omega), sc4 (by omega), sc4 (by omega), sc4 (by omega)]
    exact ⟨a0, a1, a2, a3⟩
theorem LdRow.high (h : LdRow W g l) {k : Nat} (hk : k < l.length) (s : Span) : LdRow ((W.setCell ⟨g, k * 4 + 2, none⟩ (.int .i64 s.lo)).setCell ⟨g, k * 4 + 3, none⟩ (.int .i64 s.hi)) g (l.set k ⟨l[k].side, s⟩) := by
  refine ⟨by simpa using h.lt, fun i hi => ?_, fun j => by rw [World.frozen?_setCell, World.frozen?_setCell]; exact h.fr j⟩
  rw [List.length_set] at hi
  obtain ⟨a0, a1, a2, a3⟩ := h.at_ i hi
  by_cases hik : k = i
  · subst hik
    rw [List.getElem_set_self]
    refine ⟨?_, ?_, ?_, ?_⟩
    · rw [sc4 (by omega), sc4 (by omega)]; exact a0
    · rw [sc4 (by omega), sc4 (by omega)]; exact a1
    · rw [sc4 (by omega)]; exact World.cell?_setCell_same _ _ _ a2
    · exact World.cell?_setCell_same _ _ _ ((sc4 (by omega)).trans a3)
  · rw [List.getElem_set_ne hik, sc4 (by omega), sc4 (by omega), sc4 (by omega), sc4 (by omega), sc4 (by omega), sc4 (by omega), sc4 (by omega), sc4 (by omega)]
    exact ⟨a0, a1, a2, a3⟩
theorem LdRow.all (h : LdRow W g l) {k : Nat} (hk : k < l.length) (d : Lead) : LdRow ((((W.setCell ⟨g, k * 4, none⟩ (.int .i64 d.side.lo)).setCell ⟨g, k * 4 + 1, none⟩ (.int .i64 d.side.hi)).setCell ⟨g, k * 4 + 2, none⟩ (.int .i64 d.height.lo)).setCell ⟨g, k * 4 + 3, none⟩ (.int .i64 d.height.hi)) g (l.set k d) := by
  have h1 := h.side hk d.side
  have h2 := h1.high (k := k) (by simpa using hk) d.height
  simpa using h2
end
theorem made4 (w : World) (n : Nat) : LdRow (w.alloc (.cells (madeCells #[.int .i64 0, .int .i64 0, .int .i64 0, .int .i64 0] (n * 4)) 109)) w.heap.size (List.replicate n ⟨⟨0, 0⟩, ⟨0, 0⟩⟩) := by
  have hk := Blk.new w 109 (madeCells #[.int .i64 0, .int .i64 0, .int .i64 0, .int .i64 0] (n * 4))
  have hz : ∀ j, j < n * 4 → (w.alloc (.cells (madeCells #[.int .i64 0, .int .i64 0, .int .i64 0, .int .i64 0] (n * 4)) 109)).cell? ⟨w.heap.size, j, none⟩ = some (.int .i64 0) := fun j hj => by
    rw [hk.cell j]
    have hm : j % 4 = 0 ∨ j % 4 = 1 ∨ j % 4 = 2 ∨ j % 4 = 3 := by omega
    unfold madeCells
    rw [Array.getElem?_map, Array.getElem?_range, if_pos hj]
    simp only [Option.map_some]
    rcases hm with e | e | e | e <;> simp [e]
  refine ⟨hk.lt, fun i hi => ?_, fun j => hk.frozen j⟩
  rw [List.length_replicate] at hi
  rw [List.getElem_replicate]
  exact ⟨hz _ (by omega), hz _ (by omega), hz _ (by omega), hz _ (by omega)⟩
end Go.Proofs.Ytfpfafijockfnaa
