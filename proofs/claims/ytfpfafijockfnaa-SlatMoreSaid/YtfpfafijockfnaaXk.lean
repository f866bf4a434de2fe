/- Rows of the program's own, and what is kept of them; slices of settings. -/
import Derived.Test.YtfpfafijockfnaaXa
import Derived.Test.YtfpfafijockfnaaCc
namespace Go.Proofs.Ytfpfafijockfnaa
open Go.RowKit Go.Shelf

/-- All rows of a type are kept. -/
def KeepT (t : TypeId) (W W' : World) : Prop := ∀ (g : Nat) (cur : Array Value), W.heap[g]? = some (.cells cur t (0, 0)) → W'.heap[g]? = some (.cells cur t (0, 0))
section
variable {t : TypeId} {W W' W2 : World} {B k size : Nat} {e : TypeId} {v : Value} {xs : List Value}
theorem KeepT.refl (t : TypeId) (W : World) : KeepT t W W := fun _ _ h => h
theorem KeepT.trans (h : KeepT t W W') (h' : KeepT t W' W2) : KeepT t W W2 := fun g c e => h' g c (h g c e)
theorem KeepT.below (h : Below W.heap.size W W') : KeepT t W W' := fun g _ e => (h.block g (Array.getElem?_eq_some_iff.1 e).1).trans e
theorem KeepT.set {g : Nat} {t' : TypeId} {cs : Array Value} (h : Blk W g t' cs) (ht : t' ≠ t) (i : Nat) (u : Value) : KeepT t W (W.setCell ⟨g, i, none⟩ u) := fun k c e =>
  (Below.heap_setCell W ⟨g, i, none⟩ u k (fun h' => by obtain rfl : k = g := h'; rw [show W.heap[k]? = _ from h] at e; cases e; exact ht rfl)).trans e
theorem KeepT.own (hr : W.ownsRow B e size v k xs) (he : e ≠ t) (hg : W.grownBy W' v.ownBlock) : KeepT t W W' := fun g cur h => by
  refine (hg.block g (Array.getElem?_eq_some_iff.1 h).1 fun hv => ?_).trans h
  rcases hr.2 with ⟨rfl, -⟩ | ⟨g', cap, cur', rfl, -, h2, -⟩
  · simp [Value.ownBlock] at hv
  · have : g = g' := by simpa [Value.ownBlock] using hv
    subst this
    rw [h] at h2
    cases h2
    exact he rfl
theorem own_keepT (hr : W.ownsRow B t size v k xs) (hk : KeepT t W W') : W'.ownsRow B t size v k xs := by
  obtain ⟨h1, ⟨h2, h3⟩ | ⟨g, cap, cur, h2, h3, h4, h5⟩⟩ := hr
  · exact ⟨h1, .inl ⟨h2, h3⟩⟩
  · exact ⟨h1, .inr ⟨g, cap, cur, h2, h3, hk g cur h4, h5⟩⟩
theorem own_call8 (hr : W.ownsRow B e size v k xs) (hb : Below W.heap.size W W') : W'.ownsRow B e size v k xs := own_keepT hr (.below hb)
theorem own_low8 {B' : Nat} (hr : W.ownsRow B e size v k xs) (hb : B' ≤ B) : W.ownsRow B' e size v k xs := by
  refine ⟨hr.1, ?_⟩
  rcases hr.2 with h | ⟨g, cap, cur, rfl, h1, h2⟩
  · exact .inl h
  · exact .inr ⟨g, cap, cur, rfl, by omega, h2⟩
theorem below_own8 (hr : W.ownsRow B e size v k xs) (hB : B ≤ W.heap.size) (hg : W.grownBy W' v.ownBlock) : Below B W W' :=
  ⟨hg.os, hg.tape, hg.output, hg.size, fun i hi => hg.block i (Nat.lt_of_lt_of_le hi hB) fun hv => by have := (hr.lt i hv.symm).1; omega⟩
end
theorem plan_keepT {W W' : World} {v : Value} {l : List Int} (h : PlanAt W v l) (hk : KeepT 3 W W') : PlanAt W' v l := own_keepT h hk
theorem plan_of_own8 {W : World} {B k : Nat} {v : Value} {xs : List Value} {l : List Int} (h : W.ownsRow B 3 1 v k xs) (hx : xs = intsV l) (hk : k = l.length) : PlanAt W v l := by
  subst hx hk
  exact own_low8 h (Nat.zero_le _)
theorem news8 {w : World} {n : Nat} {cs : Array Value} {t : TypeId} (h : n = w.heap.size) : (w.alloc (.cells cs t)).heap[n]? = some (.cells cs t (0, 0)) := by subst h; exact World.alloc_heap_new w _
/-- The cells of settings. -/
def setsV : List Setg → List Value
  | [] => []
  | s :: l => .int .i64 s.side :: .int .i64 s.height :: setsV l
theorem setsV_len : ∀ l, (setsV l).length = l.length * 2
  | [] => rfl
  | _ :: l => by simp only [setsV, List.length_cons, setsV_len l]; omega
theorem setsV_append : ∀ a b, setsV (a ++ b) = setsV a ++ setsV b
  | [], _ => rfl
  | s :: a, b => by simp only [List.cons_append, setsV, setsV_append a b]
theorem setsV_at : ∀ (l : List Setg) (i : Nat) (h : i < l.length), (setsV l)[i * 2]? = some (.int .i64 l[i].side) ∧ (setsV l)[i * 2 + 1]? = some (.int .i64 l[i].height)
  | s :: l, 0, _ => ⟨rfl, rfl⟩
  | s :: l, i + 1, h => by
    have := setsV_at l i (by simpa using h)
    rw [show (i + 1) * 2 = i * 2 + 2 by omega]
    exact this
theorem setsV_set : ∀ (l : List Setg) (i : Nat) (s : Setg), i < l.length → setsV (l.set i s) = ((setsV l).set (i * 2) (.int .i64 s.side)).set (i * 2 + 1) (.int .i64 s.height)
  | x :: l, 0, s, _ => rfl
  | x :: l, i + 1, s, h => by
    have := setsV_set l i s (by simpa using h)
    rw [show (i + 1) * 2 = i * 2 + 2 by omega]
    simp only [List.set_cons_succ, setsV, this]
theorem setsV_take : ∀ (l : List Setg) (n : Nat), setsV (l.take n) = (setsV l).take (n * 2)
  | [], n => by simp [setsV]
  | s :: l, 0 => rfl
  | s :: l, n + 1 => by
    rw [show (n + 1) * 2 = n * 2 + 2 by omega]
    simp only [List.take_succ_cons, setsV, setsV_take l n]
theorem setInfo : (Try.prog.info? 102).map (fun i => (i.zero, i.size, i.bytes)) = some (some (.agg #[.int .i64 0, .int .i64 0]), 2, 16) := by kernel_rfl
theorem und_sets : Try.prog.underlying 152 = some (.slice 102) := by kernel_rfl
/-- A slice of settings of the program's own. -/
def SetsAt (B : Nat) (W : World) (v : Value) (l : List Setg) : Prop := W.ownsRow B 102 2 v l.length (setsV l)
theorem SetsAt.cells {B : Nat} {W : World} {A : Option Addr} {n c : Nat} {l : List Setg} (h : SetsAt B W (.slice A n c) l) (hne : l ≠ []) : ∃ g, A = some ⟨g, 0, none⟩ ∧ n = l.length ∧ B ≤ g ∧ g < W.heap.size ∧ l.length ≤ c ∧ ∀ i (hi : i < l.length), W.cell? ⟨g, i * 2, none⟩ = some (.int .i64 l[i].side) ∧ W.cell? ⟨g, i * 2 + 1, none⟩ = some (.int .i64 l[i].height) := by
  obtain ⟨h1, ⟨-, h2⟩ | ⟨g, cap, cur, hv, h3, h4, h5, h6, h7, h8⟩⟩ := h
  · exact absurd (List.eq_nil_of_length_eq_zero h2) hne
  · cases hv
    refine ⟨g, rfl, rfl, h3, (Array.getElem?_eq_some_iff.1 h4).1, h5, fun i hi => ?_⟩
    have key : ∀ j, j < l.length * 2 → ∀ u, (setsV l)[j]? = some u → W.cell? ⟨g, j, none⟩ = some u := fun j hj u hu => by
      rw [cell_of_row W g j cur 102 (0, 0) h4]
      rw [← h8, List.getElem?_take, if_pos hj] at hu
      simpa using hu
    obtain ⟨k1, k2⟩ := setsV_at l i hi
    exact ⟨key _ (by omega) _ k1, key _ (by omega) _ k2⟩
theorem SetsAt.form {B : Nat} {W : World} {v : Value} {l : List Setg} (h : SetsAt B W v l) : ∃ A c, v = .slice A l.length c := by
  rcases h.2 with ⟨h1, h2⟩ | ⟨g, cap, cur, h1, -⟩
  · exact ⟨none, 0, by rw [h1, h2]⟩
  · exact ⟨_, _, h1⟩
/-- The numbers further from 0. -/
def outL (n : Int) : List Int := (if -40 < n ∧ n ≤ 0 then [n - 1] else []) ++ (if 0 ≤ n ∧ n < 40 then [n + 1] else [])
def furL (s : Setg) : List Setg := (if s.height = 0 then (outL s.side).map (⟨·, 0⟩) else []) ++ (outL s.height).map (⟨s.side, ·⟩)
theorem outL_len (n : Int) : (outL n).length ≤ 2 := by unfold outL; split <;> split <;> simp
theorem outL_in {n : Int} : ∀ x ∈ outL n, -40 ≤ x ∧ x ≤ 40 := by
  intro x hx
  unfold outL at hx
  rcases List.mem_append.1 hx with h | h
  · split at h
    · simp at h; omega
    · simp at h
  · split at h
    · simp at h; omega
    · simp at h
def InSet (s : Setg) : Prop := (-40 ≤ s.side ∧ s.side ≤ 40) ∧ -40 ≤ s.height ∧ s.height ≤ 40
theorem furL_in {s : Setg} (h : InSet s) : ∀ x ∈ furL s, InSet x := by
  intro x hx
  unfold furL at hx
  rcases List.mem_append.1 hx with h1 | h1
  · split at h1
    · obtain ⟨y, hy, rfl⟩ := List.mem_map.1 h1
      exact ⟨outL_in y hy, by simp⟩
    · simp at h1
  · obtain ⟨y, hy, rfl⟩ := List.mem_map.1 h1
    exact ⟨h.1, outL_in y hy⟩
end Go.Proofs.Ytfpfafijockfnaa
