/- A list of sacks of its own: its cells, and what becomes of them. -/
import Derived.Test.YtoiggflhfbfiiaaU2
import Derived.Test.YtoiggflhfbfiiaaT3
namespace Go.Proofs.Ytoiggflhfbfiiaa
open Go.RowKit Go.Shelf

def sackVs (l : List Sack) : List Value := l.flatMap fun s => [.int .i64 s.w.lo, .int .i64 s.w.hi, .int .i64 s.c.lo, .int .i64 s.c.hi, .int .i64 s.l.lo, .int .i64 s.l.hi]
theorem sackVs_len (xs : List Sack) : (sackVs xs).length = xs.length * 6 := by
  induction xs with
  | nil => rfl
  | cons a l ih => simp only [sackVs, List.flatMap_cons, List.length_append, List.length_cons] at ih ⊢; rw [ih]; simp; omega
theorem sackVs_at : ∀ (xs : List Sack) (i : Nat) (h : i < xs.length), (sackVs xs)[i * 6]? = some (.int .i64 xs[i].w.lo) ∧ (sackVs xs)[i * 6 + 1]? = some (.int .i64 xs[i].w.hi) ∧ (sackVs xs)[i * 6 + 2]? = some (.int .i64 xs[i].c.lo) ∧ (sackVs xs)[i * 6 + 3]? = some (.int .i64 xs[i].c.hi) ∧ (sackVs xs)[i * 6 + 4]? = some (.int .i64 xs[i].l.lo) ∧ (sackVs xs)[i * 6 + 5]? = some (.int .i64 xs[i].l.hi)
  | a :: l, 0, _ => ⟨rfl, rfl, rfl, rfl, rfl, rfl⟩
  | a :: l, i + 1, h => by
    have := sackVs_at l i (by simpa using h)
    have e : sackVs (a :: l) = [.int .i64 a.w.lo, .int .i64 a.w.hi, .int .i64 a.c.lo, .int .i64 a.c.hi, .int .i64 a.l.lo, .int .i64 a.l.hi] ++ sackVs l := rfl
    obtain ⟨h0, h1, h2, h3, h4, h5⟩ := this
    rw [e]
    refine ⟨?_, ?_, ?_, ?_, ?_, ?_⟩ <;> rw [List.getElem?_append_right (by simp; omega)] <;> simp only [List.length_cons, List.length_nil, List.getElem_cons_succ]
    · rw [← h0]; congr 1; omega
    · rw [← h1]; congr 1; omega
    · rw [← h2]; congr 1; omega
    · rw [← h3]; congr 1; omega
    · rw [← h4]; congr 1; omega
    · rw [← h5]; congr 1; omega
theorem sackVs_cells {w : World} {b off : Nat} {l : List Sack} (h : SacksAt w b off l) : ∀ j u, (sackVs l)[j]? = some u → w.cell? ((⟨b, off, none⟩ : Addr).add j) = some u := by
  have key : ∀ q r, q < l.length → r < 6 → ∀ u, (sackVs l)[q * 6 + r]? = some u → w.cell? ⟨b, off + q * 6 + r, none⟩ = some u := by
    intro q r hq hr u hu
    obtain ⟨s0, s1, s2, s3, s4, s5⟩ := sackVs_at l q hq
    obtain ⟨c0, c1, c2, c3, c4, c5⟩ := h q hq
    have h6 : r = 0 ∨ r = 1 ∨ r = 2 ∨ r = 3 ∨ r = 4 ∨ r = 5 := by omega
    rcases h6 with rfl | rfl | rfl | rfl | rfl | rfl
    · exact c0.trans (s0.symm.trans hu)
    · exact c1.trans (s1.symm.trans hu)
    · exact c2.trans (s2.symm.trans hu)
    · exact c3.trans (s3.symm.trans hu)
    · exact c4.trans (s4.symm.trans hu)
    · exact c5.trans (s5.symm.trans hu)
  intro j u hu
  have hj : j < l.length * 6 := by
    have := (List.getElem?_eq_some_iff.1 hu).1
    rwa [sackVs_len] at this
  have ej : j = j / 6 * 6 + j % 6 := by omega
  have ea : (⟨b, off, none⟩ : Addr).add j = ⟨b, off + j / 6 * 6 + j % 6, none⟩ := by
    have e : off + j / 6 * 6 + j % 6 = off + j := by omega
    rw [e]
    unfold Addr.add
    split
    · rename_i h0; rw [h0]; rfl
    · rfl
  rw [ea]
  rw [ej] at hu
  exact key _ _ (by omega) (by omega) u hu
theorem sackVs_one (l : List Sack) : ∀ u ∈ sackVs l, u.oneCell' = true := by
  intro u hu
  simp only [sackVs, List.mem_flatMap, List.mem_cons, List.not_mem_nil, or_false] at hu
  obtain ⟨s, -, h⟩ := hu
  rcases h with rfl | rfl | rfl | rfl | rfl | rfl <;> rfl

/-- Cells that read as sacks. -/
def SackCs (cs : Array Value) (l : List Sack) : Prop := ∀ i (h : i < l.length), cs[i * 6]? = some (.int .i64 l[i].w.lo) ∧ cs[i * 6 + 1]? = some (.int .i64 l[i].w.hi) ∧ cs[i * 6 + 2]? = some (.int .i64 l[i].c.lo) ∧ cs[i * 6 + 3]? = some (.int .i64 l[i].c.hi) ∧ cs[i * 6 + 4]? = some (.int .i64 l[i].l.lo) ∧ cs[i * 6 + 5]? = some (.int .i64 l[i].l.hi)
theorem SackCs.sl {w : World} {g : Nat} {t : TypeId} {cs : Array Value} {l : List Sack} {B : Nat} (h : SackCs cs l) (hb : Blk w g t cs) (hg : g < B) : SackSl w B (some ⟨g, 0, none⟩) l := fun _ => ⟨g, 0, rfl, hg, fun i hi => by
  obtain ⟨h0, h1, h2, h3, h4, h5⟩ := h i hi
  simp only [Nat.zero_add]
  exact ⟨(hb.cell _).trans h0, (hb.cell _).trans h1, (hb.cell _).trans h2, (hb.cell _).trans h3, (hb.cell _).trans h4, (hb.cell _).trans h5⟩⟩
theorem set_hit {cs : Array Value} {n : Nat} {u v : Value} (h : cs[n]? = some u) : (cs.setIfInBounds n v)[n]? = some v := by
  have := (Array.getElem?_eq_some_iff.1 h).1
  simp [this]
theorem set_far {cs : Array Value} {n m : Nat} {v : Value} (h : n ≠ m) : (cs.setIfInBounds n v)[m]? = cs[m]? := by
  simp [h]
theorem SackCs.w {cs : Array Value} {l : List Sack} (h : SackCs cs l) {k : Nat} (hk : k < l.length) (v : Int) : SackCs (cs.setIfInBounds (k * 6) (.int .i64 v)) (l.set k { l[k] with w := ⟨v, l[k].w.hi⟩ }) := by
  intro i hi
  have hi' : i < l.length := by simpa using hi
  obtain ⟨h0, h1, h2, h3, h4, h5⟩ := h i hi'
  by_cases e : k = i
  · subst e
    simp only [List.getElem_set_self]
    exact ⟨set_hit h0, (set_far (by omega)).trans h1, (set_far (by omega)).trans h2, (set_far (by omega)).trans h3, (set_far (by omega)).trans h4, (set_far (by omega)).trans h5⟩
  · simp only [List.getElem_set_ne e]
    exact ⟨(set_far (by omega)).trans h0, (set_far (by omega)).trans h1, (set_far (by omega)).trans h2, (set_far (by omega)).trans h3, (set_far (by omega)).trans h4, (set_far (by omega)).trans h5⟩
theorem SackCs.c {cs : Array Value} {l : List Sack} (h : SackCs cs l) {k : Nat} (hk : k < l.length) (v : Int) : SackCs (cs.setIfInBounds (k * 6 + 3) (.int .i64 v)) (l.set k { l[k] with c := ⟨l[k].c.lo, v⟩ }) := by
  intro i hi
  have hi' : i < l.length := by simpa using hi
  obtain ⟨h0, h1, h2, h3, h4, h5⟩ := h i hi'
  by_cases e : k = i
  · subst e
    simp only [List.getElem_set_self]
    exact ⟨(set_far (by omega)).trans h0, (set_far (by omega)).trans h1, (set_far (by omega)).trans h2, set_hit h3, (set_far (by omega)).trans h4, (set_far (by omega)).trans h5⟩
  · simp only [List.getElem_set_ne e]
    exact ⟨(set_far (by omega)).trans h0, (set_far (by omega)).trans h1, (set_far (by omega)).trans h2, (set_far (by omega)).trans h3, (set_far (by omega)).trans h4, (set_far (by omega)).trans h5⟩
theorem SackCs.l {cs : Array Value} {l : List Sack} (h : SackCs cs l) {k : Nat} (hk : k < l.length) (v : Int) : SackCs (cs.setIfInBounds (k * 6 + 4) (.int .i64 v)) (l.set k { l[k] with l := ⟨v, l[k].l.hi⟩ }) := by
  intro i hi
  have hi' : i < l.length := by simpa using hi
  obtain ⟨h0, h1, h2, h3, h4, h5⟩ := h i hi'
  by_cases e : k = i
  · subst e
    simp only [List.getElem_set_self]
    exact ⟨(set_far (by omega)).trans h0, (set_far (by omega)).trans h1, (set_far (by omega)).trans h2, (set_far (by omega)).trans h3, set_hit h4, (set_far (by omega)).trans h5⟩
  · simp only [List.getElem_set_ne e]
    exact ⟨(set_far (by omega)).trans h0, (set_far (by omega)).trans h1, (set_far (by omega)).trans h2, (set_far (by omega)).trans h3, (set_far (by omega)).trans h4, (set_far (by omega)).trans h5⟩
theorem own_blk {w : World} {B : Nat} {v : Value} {l : List Sack} (h : w.ownsRow B 57 6 v l.length (sackVs l)) (hne : 0 < l.length) : ∃ g cap cur, v = .slice (some ⟨g, 0, none⟩) l.length cap ∧ B ≤ g ∧ Blk w g 57 cur ∧ SackCs cur l := by
  rcases h.2 with ⟨_, h0⟩ | ⟨g, cap, cur, hv, hB, hb, h1, h2, h3, h4⟩
  · omega
  · refine ⟨g, cap, cur, hv, hB, hb, fun i hi => ?_⟩
    have key : ∀ r, r < 6 → ∀ u, (sackVs l)[i * 6 + r]? = some u → cur[i * 6 + r]? = some u := by
      intro r hr u hu
      rw [← h4, List.getElem?_take, if_pos (by omega)] at hu
      simpa using hu
    obtain ⟨s0, s1, s2, s3, s4, s5⟩ := sackVs_at l i hi
    exact ⟨key 0 (by omega) _ s0, key 1 (by omega) _ s1, key 2 (by omega) _ s2, key 3 (by omega) _ s3, key 4 (by omega) _ s4, key 5 (by omega) _ s5⟩
end Go.Proofs.Ytoiggflhfbfiiaa
