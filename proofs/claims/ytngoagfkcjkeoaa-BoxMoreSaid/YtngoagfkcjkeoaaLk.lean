/- What sets have and need, in a map by sets; loops over sets. -/
import Derived.Test.YtngoagfkcjkeoaaLj
import Derived.Test.YtngoagfkcjkeoaaMapL
namespace Go.Proofs.Ytngoagfkcjkeoaa
open Go.RowKit Go.Shelf

def encC (x : Int × Int) : Value := .agg #[.int .i64 x.1, .int .i64 x.2]
/-- A table of numbers by sets, from a on. -/
def tabF (cf : Nat → Int × Int) (l : List Nat) : List (Int × (Int × Int)) := l.map fun (s : Nat) => ((s : Int), cf s)
theorem pos_tab (cf : Nat → Int × Int) : ∀ (N a i s : Nat), a ≤ s → s < a + N → pos (tabF cf (List.range' a N)) (s : Int) i = some (i + (s - a), cf s)
  | 0, a, i, s, h, h' => by omega
  | N + 1, a, i, s, h, h' => by
    rw [List.range'_succ]
    simp only [tabF, List.map_cons, pos]
    by_cases e : a = s
    · subst e; simp
    · rw [if_neg (by omega)]
      have := pos_tab cf N (a + 1) (i + 1) s (by omega) (by omega)
      unfold tabF at this
      rw [this]
      congr 2
      omega
theorem pos_tab_none (cf : Nat → Int × Int) : ∀ (N a i s : Nat), a + N ≤ s → pos (tabF cf (List.range' a N)) (s : Int) i = none
  | 0, _, _, _, _ => rfl
  | N + 1, a, i, s, h => by
    rw [List.range'_succ]
    simp only [tabF, List.map_cons, pos]
    rw [if_neg (by omega)]
    have := pos_tab_none cf N (a + 1) (i + 1) s (by omega)
    unfold tabF at this
    exact this
def setF (cf : Nat → Int × Int) (s : Nat) (v : Int × Int) : Nat → Int × Int := fun t => if t = s then v else cf t
theorem upd_tab (cf : Nat → Int × Int) (v : Int × Int) : ∀ (N a s : Nat), a ≤ s → s < a + N → upd (tabF cf (List.range' a N)) (s : Int) v = tabF (setF cf s v) (List.range' a N)
  | 0, a, s, h, h' => by omega
  | N + 1, a, s, h, h' => by
    rw [List.range'_succ]
    simp only [tabF, List.map_cons, upd]
    by_cases e : a = s
    · subst e
      rw [if_pos rfl]
      have : ∀ t ∈ List.range' (a + 1) N, setF cf a v t = cf t := fun t ht => by
        have := (List.mem_range'_1.1 ht).1
        unfold setF
        rw [if_neg (by omega)]
      rw [show setF cf a v a = v by unfold setF; rw [if_pos rfl]]
      congr 1
      exact List.map_congr_left (fun t ht => by rw [this t ht])
    · rw [if_neg (by omega)]
      have h9 := upd_tab cf v N (a + 1) s (by omega) (by omega)
      unfold tabF at h9
      rw [h9, show setF cf s v a = cf a by unfold setF; rw [if_neg e]]
theorem upd_next (cf : Nat → Int × Int) (k : Nat) : upd (tabF cf (List.range' 1 k)) (((k + 1 : Nat)) : Int) (cf (k + 1)) = tabF cf (List.range' 1 (k + 1)) := by
  rw [upd_none _ _ _ 0 (pos_tab_none cf k 1 0 (k + 1) (by omega)), List.range'_concat]
  unfold tabF
  rw [List.map_append]
  simp [Nat.add_comm]
theorem take_sets (m k : Nat) (h : k ≤ 2 ^ m - 1) : (setsS m).take k = List.range' 1 k := by
  unfold setsS
  obtain ⟨d, hd⟩ := Nat.exists_eq_add_of_le h
  rw [hd, ← List.range'_append_1]
  exact List.take_left' (by simp)
/-- Block r is the table of all sets of m shades. -/
def TabAt (W : World) (r m : Nat) (cf : Nat → Int × Int) : Prop := MapI encC W r (tabF cf (setsS m))
section
variable {W W' : World} {r m : Nat} {cf : Nat → Int × Int}
theorem TabAt.lt (h : TabAt W r m cf) : r < W.heap.size := MapI.lt h
theorem TabAt.below {B : Nat} (h : TabAt W r m cf) (hb : Below B W W') (hlt : r < B) : TabAt W' r m cf := MapI.below h hb hlt
theorem und_tab : Try.prog.underlying 71 = some (.map 77 112) := by kernel_rfl
theorem und_set : Try.prog.underlying 77 = some (.int .i64) := by kernel_rfl
theorem zero_count (w : World) : (zeroValue 112).run Try.prog w = .ok (encC (0, 0)) w := by kernel_rfl
theorem TabAt.look (h : TabAt W r m cf) {s : Nat} (h1 : 1 ≤ s) (h2 : s < 2 ^ m) : (Instr.lookup 71 (.map (some r)) (.int .i64 (s : Int)) false).run Try.prog W = .ok (.agg #[.int .i64 (cf s).1, .int .i64 (cf s).2]) W := by
  have h9 := run_lookupI h und_tab und_set (0, 0) (zero_count W) (s : Int)
  rw [show setsS m = List.range' 1 (2 ^ m - 1) from rfl, pos_tab cf (2 ^ m - 1) 1 0 s h1 (by omega)] at h9
  exact h9
theorem TabAt.store (h : TabAt W r m cf) {s : Nat} (h1 : 1 ≤ s) (h2 : s < 2 ^ m) (v : Int × Int) :
    ∃ W', (Instr.mapUpdate 71 (.map (some r)) (.int .i64 (s : Int)) (.agg #[.int .i64 v.1, .int .i64 v.2])).run Try.prog W = .ok () W' ∧ TabAt W' r m (setF cf s v) ∧ W.grownBy W' (some r) ∧ W'.heap.size = W.heap.size := by
  obtain ⟨W', e1, e2, e3, e4⟩ := run_updateI (P := Try.prog) h und_tab und_set (s : Int) v
  refine ⟨W', e1, ?_, e3, e4⟩
  rw [show setsS m = List.range' 1 (2 ^ m - 1) from rfl, upd_tab cf v (2 ^ m - 1) 1 s h1 (by omega)] at e2
  exact e2
end
/-- While the table is made: the first k sets are there. -/
def PartAt (W : World) (r k : Nat) (cf : Nat → Int × Int) : Prop := MapI encC W r (tabF cf (List.range' 1 k))
theorem PartAt.store {W : World} {r k : Nat} {cf : Nat → Int × Int} (h : PartAt W r k cf) (v : Int × Int) (hv : cf (k + 1) = v) :
    ∃ W', (Instr.mapUpdate 71 (.map (some r)) (.int .i64 (((k + 1 : Nat)) : Int)) (.agg #[.int .i64 v.1, .int .i64 v.2])).run Try.prog W = .ok () W' ∧ PartAt W' r (k + 1) cf ∧ W.grownBy W' (some r) ∧ W'.heap.size = W.heap.size := by
  obtain ⟨W', e1, e2, e3, e4⟩ := run_updateI (P := Try.prog) h und_tab und_set (((k + 1 : Nat)) : Int) v
  refine ⟨W', e1, ?_, e3, e4⟩
  subst hv
  rw [upd_next] at e2
  exact e2
/-- What is kept below a block is kept by what a loop's record does. -/
theorem own_of_low {β : Type} {B : Nat} {I : β → World → Prop} (hz : ∀ s X, I s X → B ≤ X.heap.size) (h : ∀ s X Y, I s X → Below B X Y → I s Y) : OwnFrom B I := fun s X Y row hs hg hr =>
  h s X Y hs ⟨hg.os, hg.tape, hg.output, hg.size, fun i hi => hg.block i (Nat.lt_of_lt_of_le hi (hz s X hs)) (fun e => by have := (hr i e.symm).1; omega)⟩
theorem keeps_grown {B r : Nat} {W W' : World} (hg : W.grownBy W' (some r)) (hr : r < B) : KeepsFrom B W W' :=
  ⟨hg.size, fun k o hk h1 _ => (hg.block k (Array.getElem?_eq_some_iff.1 h1).1 (fun e => by have := Option.some.inj e; omega)).trans h1⟩
end Go.Proofs.Ytngoagfkcjkeoaa
