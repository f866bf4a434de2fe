/- Slices of what is true: corners and weights. The law's function truth. -/
import Derived.Test.YtoiggflhfbfiiaaT1
import Derived.Deep.AppendLies
import Derived.Maps.AppendAt
namespace Go.Proofs.Ytoiggflhfbfiiaa
open Go.RowKit Go.Shelf

/-- A slice of ints, of numbers of 32 bits, of what is true of sacks. -/
def IntSl (w : World) (B : Nat) (A : Option Addr) (xs : List Int) : Prop := xs ≠ [] → ∃ b off, A = some ⟨b, off, none⟩ ∧ b < B ∧ ∀ i (h : i < xs.length), w.cell? ⟨b, off + i, none⟩ = some (.int .i64 xs[i])
def U32Sl (w : World) (B : Nat) (A : Option Addr) (xs : List Int) : Prop := xs ≠ [] → ∃ b off, A = some ⟨b, off, none⟩ ∧ b < B ∧ ∀ i (h : i < xs.length), w.cell? ⟨b, off + i, none⟩ = some (.int .u32 xs[i])
def CorSl (w : World) (B : Nat) (A : Option Addr) (xs : List Cor) : Prop := xs ≠ [] → ∃ b off, A = some ⟨b, off, none⟩ ∧ b < B ∧ ∀ i (h : i < xs.length), w.cell? ⟨b, off + i * 3, none⟩ = some (.int .i64 xs[i].w) ∧ w.cell? ⟨b, off + i * 3 + 1, none⟩ = some (.int .i64 xs[i].c) ∧ w.cell? ⟨b, off + i * 3 + 2, none⟩ = some (.int .i64 xs[i].s)
theorem IntSl.below {w w' : World} {B : Nat} {A : Option Addr} {xs : List Int} (h : IntSl w B A xs) (hb : Below B w w') : IntSl w' B A xs := fun hne => by
  obtain ⟨b, off, e, hlt, hs⟩ := h hne
  exact ⟨b, off, e, hlt, fun i hi => (hb.cell (p := ⟨b, _, none⟩) hlt).trans (hs i hi)⟩
theorem U32Sl.below {w w' : World} {B : Nat} {A : Option Addr} {xs : List Int} (h : U32Sl w B A xs) (hb : Below B w w') : U32Sl w' B A xs := fun hne => by
  obtain ⟨b, off, e, hlt, hs⟩ := h hne
  exact ⟨b, off, e, hlt, fun i hi => (hb.cell (p := ⟨b, _, none⟩) hlt).trans (hs i hi)⟩
theorem CorSl.below {w w' : World} {B : Nat} {A : Option Addr} {xs : List Cor} (h : CorSl w B A xs) (hb : Below B w w') : CorSl w' B A xs := fun hne => by
  obtain ⟨b, off, e, hlt, hs⟩ := h hne
  exact ⟨b, off, e, hlt, fun i hi => ⟨(hb.cell (p := ⟨b, _, none⟩) hlt).trans (hs i hi).1, (hb.cell (p := ⟨b, _, none⟩) hlt).trans (hs i hi).2.1, (hb.cell (p := ⟨b, _, none⟩) hlt).trans (hs i hi).2.2⟩⟩
theorem IntSl.more {w : World} {B B' : Nat} {A : Option Addr} {xs : List Int} (h : IntSl w B A xs) (hB : B ≤ B') : IntSl w B' A xs := fun hne => by
  obtain ⟨b, off, e, hlt, hs⟩ := h hne
  exact ⟨b, off, e, by omega, hs⟩
theorem U32Sl.more {w : World} {B B' : Nat} {A : Option Addr} {xs : List Int} (h : U32Sl w B A xs) (hB : B ≤ B') : U32Sl w B' A xs := fun hne => by
  obtain ⟨b, off, e, hlt, hs⟩ := h hne
  exact ⟨b, off, e, by omega, hs⟩
theorem CorSl.more {w : World} {B B' : Nat} {A : Option Addr} {xs : List Cor} (h : CorSl w B A xs) (hB : B ≤ B') : CorSl w B' A xs := fun hne => by
  obtain ⟨b, off, e, hlt, hs⟩ := h hne
  exact ⟨b, off, e, by omega, hs⟩

def corV (x : Cor) : List Value := [.int .i64 x.w, .int .i64 x.c, .int .i64 x.s]
def corVs (xs : List Cor) : List Value := xs.flatMap corV
theorem corVs_len (xs : List Cor) : (corVs xs).length = xs.length * 3 := by
  induction xs with
  | nil => rfl
  | cons a l ih => simp only [corVs, List.flatMap_cons, List.length_append, List.length_cons] at ih ⊢; rw [ih]; simp [corV]; omega
theorem corVs_at : ∀ (xs : List Cor) (i : Nat) (h : i < xs.length), (corVs xs)[i * 3]? = some (.int .i64 xs[i].w) ∧ (corVs xs)[i * 3 + 1]? = some (.int .i64 xs[i].c) ∧ (corVs xs)[i * 3 + 2]? = some (.int .i64 xs[i].s)
  | a :: l, 0, _ => ⟨rfl, rfl, rfl⟩
  | a :: l, i + 1, h => by
    have := corVs_at l i (by simpa using h)
    have e : corVs (a :: l) = [.int .i64 a.w, .int .i64 a.c, .int .i64 a.s] ++ corVs l := rfl
    rw [e]
    refine ⟨?_, ?_, ?_⟩ <;> rw [List.getElem?_append_right (by simp; omega)] <;> simp only [List.length_cons, List.length_nil, List.getElem_cons_succ]
    · rw [← this.1]; congr 1; omega
    · rw [← this.2.1]; congr 1; omega
    · rw [← this.2.2]; congr 1; omega
theorem add_off (g i : Nat) : (⟨g, 0, none⟩ : Addr).add i = ⟨g, i, none⟩ := by
  unfold Addr.add
  split
  · rename_i h0; rw [h0]
  · simp
def CorsAt (w : World) (B : Nat) (v : Value) (xs : List Cor) : Prop := w.ownsRow B 96 3 v xs.length (corVs xs)
def IntsAt (w : World) (B : Nat) (v : Value) (xs : List Int) : Prop := w.ownsRow B 3 1 v xs.length (xs.map (Value.int .i64))
theorem CorSl.of_own {w : World} {B : Nat} {v : Value} {xs : List Cor} (h : CorsAt w B v xs) : ∃ A c, v = .slice A xs.length c ∧ CorSl w w.heap.size A xs := by
  have h : w.ownsRow B 96 3 v xs.length (corVs xs) := h
  rcases Nat.eq_zero_or_pos xs.length with h0 | hne
  · have : xs = [] := List.eq_nil_of_length_eq_zero h0
    subst this
    rcases h.2 with ⟨rfl, _⟩ | ⟨g, cap, cur, rfl, _⟩
    · exact ⟨none, 0, rfl, fun h => absurd rfl h⟩
    · exact ⟨_, cap, rfl, fun h => absurd rfl h⟩
  · obtain ⟨g, cap, hv, _, hlt⟩ := World.ownsRow.form h hne
    subst hv
    refine ⟨_, cap, rfl, fun _ => ⟨g, 0, rfl, hlt, fun i hi => ?_⟩⟩
    obtain ⟨e0, e1, e2⟩ := corVs_at xs i hi
    have c0 := World.ownsRow.cells h (g := g) rfl (i * 3) _ e0
    have c1 := World.ownsRow.cells h (g := g) rfl (i * 3 + 1) _ e1
    have c2 := World.ownsRow.cells h (g := g) rfl (i * 3 + 2) _ e2
    rw [add_off] at c0 c1 c2
    simp only [Nat.zero_add]
    exact ⟨c0, c1, c2⟩
theorem IntSl.of_own {w : World} {B : Nat} {v : Value} {xs : List Int} (h : IntsAt w B v xs) : ∃ A c, v = .slice A xs.length c ∧ IntSl w w.heap.size A xs := by
  have h : w.ownsRow B 3 1 v xs.length (xs.map (Value.int .i64)) := h
  rcases Nat.eq_zero_or_pos xs.length with h0 | hne
  · have : xs = [] := List.eq_nil_of_length_eq_zero h0
    subst this
    rcases h.2 with ⟨rfl, _⟩ | ⟨g, cap, cur, rfl, _⟩
    · exact ⟨none, 0, rfl, fun h => absurd rfl h⟩
    · exact ⟨_, cap, rfl, fun h => absurd rfl h⟩
  · obtain ⟨g, cap, hv, _, hlt⟩ := World.ownsRow.form h hne
    subst hv
    refine ⟨_, cap, rfl, fun _ => ⟨g, 0, rfl, hlt, fun i hi => ?_⟩⟩
    have c0 := World.ownsRow.cells h (g := g) rfl i (.int .i64 xs[i]) (by simp [hi])
    rw [add_off] at c0
    simpa using c0
theorem own_call {w w' : World} {B : Nat} {e : TypeId} {size : Nat} {v : Value} {k : Nat} {xs : List Value} (hr : w.ownsRow B e size v k xs) (hb : Below w.heap.size w w') : w'.ownsRow B e size v k xs := by
  refine ⟨hr.1, ?_⟩
  rcases hr.2 with h | ⟨g, cap, cur, rfl, h1, h2, h3⟩
  · exact .inl h
  · refine .inr ⟨g, cap, cur, rfl, h1, ?_, h3⟩
    rw [hb.block g (Array.getElem?_eq_some_iff.1 h2).1]
    exact h2
end Go.Proofs.Ytoiggflhfbfiiaa
