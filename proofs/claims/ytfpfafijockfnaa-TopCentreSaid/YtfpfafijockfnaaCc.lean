/- Made by program out of parts: Cc. -/
import Derived.Test.YtfpfafijockfnaaRows
import Derived.Test.YtfpfafijockfnaaLib
import Derived.Lib.AppendZerosOnto
import Derived.Deep.AppendLies
import Derived.Laws.AppendOwnNone
import Derived.Lib.SlFresh
/- Walks: slices.Grow, slices.Concat of two lists of numbers, and a rest with one more die before it. -/
namespace Go.Proofs.Ytfpfafijockfnaa
open Go.RowKit Go.Shelf

def intsV (l : List Int) : List Value := l.map fun i => Value.int .i64 i
theorem intsV_len (l : List Int) : (intsV l).length = l.length := by simp [intsV]
theorem intsV_one (l : List Int) : ∀ u ∈ intsV l, u.oneCell' = true := fun u hu => by
  obtain ⟨i, -, rfl⟩ := List.mem_map.1 hu
  rfl
/-- A list of numbers that was made by the program itself. -/
def PlanAt (W : World) (v : Value) (l : List Int) : Prop := W.ownsRow 0 3 1 v l.length (intsV l)
theorem planInfo : (Try.prog.info? 3).map (fun i => (i.zero, i.size, i.bytes)) = some (some (.int .i64 0), 1, 8) := by kernel_rfl
theorem und_ints : Try.prog.underlying 27 = some (.slice 3) := by kernel_rfl
theorem und_int0 : Try.prog.underlying 3 = some (.int .i64) := by kernel_rfl
theorem plan_cells {W : World} {v : Value} {l : List Int} (h : PlanAt W v l) (hne : l ≠ []) : ∃ g cap, v = .slice (some ⟨g, 0, none⟩) l.length cap ∧ g < W.heap.size ∧ ∀ (j : Nat) u, (intsV l)[j]? = some u → W.cell? ((⟨g, 0, none⟩ : Addr).add j) = some u := by
  obtain ⟨h1, ⟨-, h2⟩ | ⟨g, cap, cur, rfl, h3, h4, h5, h6, h7, h8⟩⟩ := h
  · exact absurd (List.eq_nil_of_length_eq_zero h2) hne
  · refine ⟨g, cap, rfl, (Array.getElem?_eq_some_iff.1 h4).1, fun j u hj => ?_⟩
    have ha : (⟨g, 0, none⟩ : Addr).add j = ⟨g, j, none⟩ := by
      unfold Addr.add
      by_cases e : j = 0 <;> simp [e]
    rw [ha, cell_of_row W g j cur 3 (0, 0) h4]
    rw [← h8, List.getElem?_take] at hj
    split at hj
    · simpa using hj
    · cases hj
theorem one_news {W : World} {g : Nat} {d : Int} (h : W.cell? ⟨g, 0, none⟩ = some (.int .i64 d)) : ∀ (j : Nat) u, (intsV [d])[j]? = some u → W.cell? ((⟨g, 0, none⟩ : Addr).add j) = some u := fun j u hj => by
  cases j with
  | zero => simp [intsV] at hj; subst hj; exact h
  | succ j => simp [intsV] at hj
theorem PlanAt.below {w w' : World} {v : Value} {l : List Int} (h : PlanAt w v l) (hb : Below w.heap.size w w') : PlanAt w' v l := by
  obtain ⟨h1, ⟨h2, h3⟩ | ⟨g, cap, cur, h2, h3, h4, h5⟩⟩ := h
  · exact ⟨h1, .inl ⟨h2, h3⟩⟩
  · exact ⟨h1, .inr ⟨g, cap, cur, h2, h3, (hb.block g (Array.getElem?_eq_some_iff.1 h4).1).trans h4, h5⟩⟩
theorem plan_nil {w : World} {n c : Nat} {l : List Int} (h : PlanAt w (.slice none n c) l) : l = [] ∧ c = 0 := by
  obtain ⟨h1, ⟨h2, h3⟩ | ⟨g, cap, cur, h2, h3, h4, h5⟩⟩ := h
  · cases h2
    exact ⟨List.eq_nil_of_length_eq_zero h3, rfl⟩
  · cases h2
theorem plan_some {w : World} {A : Option Addr} {n c : Nat} {l : List Int} (h : PlanAt w (.slice A n c) l) (hA : A ≠ none) : ∃ g, A = some ⟨g, 0, none⟩ := by
  obtain ⟨h1, ⟨h2, h3⟩ | ⟨g, cap, cur, h2, h3, h4, h5⟩⟩ := h
  · cases h2; exact absurd rfl hA
  · cases h2; exact ⟨g, rfl⟩
theorem plan_news {w : World} {g n c : Nat} {l : List Int} (h : PlanAt w (.slice (some ⟨g, 0, none⟩) n c) l) : ∀ (j : Nat) u, (intsV l)[j]? = some u → w.cell? ((⟨g, 0, none⟩ : Addr).add j) = some u := fun j u hj => by
  by_cases hl : l = []
  · subst hl; simp [intsV] at hj
  · obtain ⟨g', cap, h1, -, h3⟩ := plan_cells h hl
    cases h1
    exact h3 j u hj
theorem row_some {w : World} {B n : Nat} {v : Value} {l : List Int} (h : w.ownsRow B 3 1 v (n + 1) (intsV l)) : ∃ g cap, v = .slice (some ⟨g, 0, none⟩) (n + 1) cap ∧ B ≤ g ∧ w.ownsRow 0 3 1 (.slice (some ⟨g, 0, none⟩) (n + 1) cap) (n + 1) (intsV l) := by
  obtain ⟨h1, ⟨h2, h3⟩ | ⟨g, cap, cur, rfl, h3, h4, h5⟩⟩ := h
  · omega
  · exact ⟨g, cap, rfl, h3, h1, .inr ⟨g, cap, cur, rfl, Nat.zero_le _, h4, h5⟩⟩
end Go.Proofs.Ytfpfafijockfnaa

