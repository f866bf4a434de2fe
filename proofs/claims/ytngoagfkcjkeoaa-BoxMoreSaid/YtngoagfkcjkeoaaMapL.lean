/- Maps with keys of type int, whatever their elements: laws of look-up, store and range, over a list of entries. -/
import Derived.Test.YtngoagfkcjkeoaaLib
import Derived.MapKept
namespace Go.Proofs.Ytngoagfkcjkeoaa
open Go.RowKit

section
variable {α : Type} (enc : α → Value)

/-- The entries of a map that was only stored into: they are stamped in their order. -/
def entL : List (Int × α) → Nat → List MapEntry
  | [], _ => []
  | (a, b) :: l, n => { key := .int .i64 a, val := enc b, born := n } :: entL l (n + 1)
def MapI (W : World) (r : Nat) (m : List (Int × α)) : Prop := W.heap[r]? = some (.map (entL enc m 0).toArray m.length)

def upd : List (Int × α) → Int → α → List (Int × α)
  | [], k, v => [(k, v)]
  | (a, b) :: l, k, v => if a = k then (a, v) :: l else (a, b) :: upd l k v
def pos : List (Int × α) → Int → Nat → Option (Nat × α)
  | [], _, _ => none
  | (a, b) :: l, k, i => if a = k then some (i, b) else pos l k (i + 1)

variable {enc}
theorem length_entL : ∀ (m : List (Int × α)) (n : Nat), (entL enc m n).length = m.length
  | [], _ => rfl
  | (_, _) :: l, n => by simp [entL, length_entL l (n + 1)]
theorem mem_entL : ∀ (m : List (Int × α)) (n : Nat) (e : MapEntry), e ∈ entL enc m n → n ≤ e.born ∧ e.born < n + m.length ∧ ∃ x : Int × α, m[e.born - n]? = some x ∧ e.key = .int .i64 x.1 ∧ e.val = enc x.2
  | [], _, _, h => by simp [entL] at h
  | (a, b) :: l, n, e, h => by
    simp only [entL, List.mem_cons] at h
    rcases h with rfl | h
    · exact ⟨Nat.le_refl _, by simp, (a, b), by simp, rfl, rfl⟩
    · obtain ⟨h1, h2, x, h3, h4⟩ := mem_entL l (n + 1) e h
      refine ⟨by omega, by simp; omega, x, ?_, h4⟩
      rw [show e.born - n = (e.born - (n + 1)) + 1 by omega]
      simpa using h3
theorem getElem_entL : ∀ (m : List (Int × α)) (n i : Nat) (x : Int × α), m[i]? = some x → (entL enc m n)[i]? = some { key := .int .i64 x.1, val := enc x.2, born := n + i }
  | [], _, _, _, h => by simp at h
  | (a, b) :: l, n, 0, x, h => by
    simp at h
    subst h
    simp [entL]
  | (a, b) :: l, n, i + 1, x, h => by
    simp at h
    have := getElem_entL l (n + 1) i x h
    simp only [entL, List.getElem?_cons_succ, this]
    simp; omega
theorem born_entL : ∀ (m : List (Int × α)) (n : Nat), (entL enc m n).map (·.born) = (List.range' n m.length)
  | [], _ => rfl
  | (_, _) :: l, n => by simp [entL, born_entL l (n + 1), List.range'_succ]

theorem findNow_entL (q : IntKind) (k : Int) : ∀ (m : List (Int × α)) (n i : Nat), Instr.findNow (.int q) (.int .i64 k) (entL enc m n) i = some ((pos m k i).map fun p => (p.1, enc p.2))
  | [], _, _ => rfl
  | (a, b) :: l, n, i => by
    have ih := findNow_entL q k l (n + 1) (i + 1)
    by_cases h : a = k
    · subst h
      simp [entL, Instr.findNow, Instr.sameNow, pos]
    · have h' : (k == a) = false := by simp; exact fun e => h e.symm
      simp [entL, Instr.findNow, Instr.sameNow, pos, h, h', ih]

theorem upd_none : ∀ (m : List (Int × α)) (k : Int) (v : α) (i : Nat), pos m k i = none → upd m k v = m ++ [(k, v)]
  | [], _, _, _, _ => rfl
  | (a, b) :: l, k, v, i, h => by
    by_cases e : a = k
    · simp [pos, e] at h
    · simp [pos, e] at h
      simp [upd, e, upd_none l k v _ h]
theorem pos_some : ∀ (m : List (Int × α)) (k : Int) (v : α) (i j : Nat) (x : α), pos m k i = some (j, x) → i ≤ j ∧ m[j - i]? = some (k, x) ∧ upd m k v = m.modify (j - i) fun p => (p.1, v)
  | [], _, _, _, _, _, h => by simp [pos] at h
  | (a, b) :: l, k, v, i, j, x, h => by
    by_cases e : a = k
    · subst e
      simp [pos] at h
      obtain ⟨rfl, rfl⟩ := h
      simp [upd]
    · simp [pos, e] at h
      obtain ⟨h1, h2, h3⟩ := pos_some l k v (i + 1) j x h
      have e1 : j - i = (j - (i + 1)) + 1 := by omega
      rw [e1]
      refine ⟨by omega, by simpa using h2, ?_⟩
      simp [upd, e, h3]
theorem modify_entL (v : α) : ∀ (m : List (Int × α)) (n j : Nat), (entL enc m n).modify j (fun e => { e with val := enc v }) = entL enc (m.modify j fun p => (p.1, v)) n
  | [], _, j => by simp [entL]
  | (a, b) :: l, n, 0 => by simp [entL]
  | (a, b) :: l, n, j + 1 => by
    have := modify_entL v l (n + 1) j
    simp [entL, this]
theorem entL_append (m : List (Int × α)) (k : Int) (v : α) : ∀ n, entL enc (m ++ [(k, v)]) n = entL enc m n ++ [{ key := .int .i64 k, val := enc v, born := n + m.length }] := by
  induction m with
  | nil => intro n; simp [entL]
  | cons p l ih => intro n; obtain ⟨a, b⟩ := p; simp [entL, ih]; omega

variable {P : Program} {W : World} {r : Nat} {m : List (Int × α)} {T K E : TypeId}

theorem MapI.lt (h : MapI enc W r m) : r < W.heap.size := (Array.getElem?_eq_some_iff.1 h).1
theorem MapI.kept {W' : World} {row : Option Nat} (h : MapI enc W r m) (hb : W.grownBy W' row) (hg : some r ≠ row) : MapI enc W' r m := (hb.block r h.lt hg).trans h
theorem MapI.alloc (h : MapI enc W r m) (o : Obj) : MapI enc (W.alloc o) r m := h.kept (World.grownBy_alloc W o none) (by simp)
theorem MapI.below {B : Nat} {W' : World} (h : MapI enc W r m) (hb : Below B W W') (hg : r < B) : MapI enc W' r m := (hb.block r hg).trans h
theorem MapI.set (h : MapI enc W r m) (a : Addr) (u : Value) (hne : r ≠ a.block) : MapI enc (W.setCell a u) r m := (Below.heap_setCell W a u r hne).trans h
theorem MapI.made (W : World) : MapI enc (W.alloc (.map #[] 0)) W.heap.size [] := World.alloc_heap_new W _

/-- 'm[k]'. -/
theorem run_lookupI (h : MapI enc W r m) (hT : P.underlying T = some (.map K E)) (hK : P.underlying K = some (.int .i64)) (z : α) (hz : (zeroValue E).run P W = .ok (enc z) W) (k : Int) :
    (Instr.lookup T (.map (some r)) (.int .i64 k) false).run P W = .ok (enc (((pos m k 0).map (·.2)).getD z)) W := by
  have h1 := MapKept.run_getObj_map (P := P) h
  have h2 : ∀ b, (Instr.checkKey b 10000 K (.int .i64 k)).run P W = .ok () W := fun b => MapKept.run_checkKey (P := P) (w := W) hK (k := .int .i64 k) rfl b 9999
  have h3 := MapKept.run_findKey (P := P) (w := W) (k := .int .i64 k) hK (findNow_entL (enc := enc) .i64 k m 0 0)
  unfold Instr.lookup
  simp only [Sem.run_bind, run_underlying hT, Result.andThen_ok, h1, Sem.run_pure, h2, h3]
  cases hp : pos m k 0 with
  | none => simp [hz]
  | some p => simp

/-- 'm[k] = v'. -/
theorem run_updateI (h : MapI enc W r m) (hT : P.underlying T = some (.map K E)) (hK : P.underlying K = some (.int .i64)) (k : Int) (v : α) :
    ∃ W', (Instr.mapUpdate T (.map (some r)) (.int .i64 k) (enc v)).run P W = .ok () W' ∧ MapI enc W' r (upd m k v) ∧ W.grownBy W' (some r) ∧ W'.heap.size = W.heap.size := by
  have h1 := MapKept.run_getObj_map (P := P) h
  have h2 := MapKept.run_checkKey (P := P) (w := W) hK (k := .int .i64 k) rfl false 9999
  have h3 := MapKept.run_findKey (P := P) (w := W) (k := .int .i64 k) hK (findNow_entL (enc := enc) .i64 k m 0 0)
  have h4 := fun o => MapKept.run_setObj_map (P := P) o h
  have hg : ∀ o, W.grownBy { W with heap := W.heap.setIfInBounds r o } (some r) := fun o => ⟨rfl, rfl, rfl, by simp, fun i _ hne => Array.getElem?_setIfInBounds_ne (fun e => hne (by rw [e]))⟩
  have hs : ∀ o : Obj, (W.heap.setIfInBounds r o)[r]? = some o := fun o => by simp [h.lt]
  unfold Instr.mapUpdate
  simp only [Sem.run_bind, run_underlying hT, Result.andThen_ok, h1, h2, h3]
  cases hp : pos m k 0 with
  | none =>
    have hu := upd_none m k v 0 hp
    simp only [Option.map_none, h4]
    refine ⟨_, rfl, ?_, hg _, by simp⟩
    unfold MapI
    rw [hs, hu, entL_append]
    simp
  | some p =>
    obtain ⟨j, x⟩ := p
    obtain ⟨-, hj, hu⟩ := pos_some m k v 0 j x hp
    simp only [Nat.sub_zero] at hj hu
    have hk := getElem_entL (enc := enc) m 0 j _ hj
    simp only [Option.map_some, List.getElem?_toArray, hk, Option.getD_some]
    have hsame : Instr.keyThatStays (.int .i64 k) (.int .i64 k) = (pure (.int .i64 k) : Sem Value) := by
      simp [Instr.keyThatStays, Instr.sameBits]
    simp only [hsame, Sem.run_bind, Sem.run_pure, Result.andThen_ok, h4]
    refine ⟨_, rfl, ?_, hg _, by simp⟩
    unfold MapI
    rw [hs, hu, ← modify_entL (enc := enc) v m 0 j]
    have he : ∀ (l : List MapEntry) (e : MapEntry), l[j]? = some e → e.key = .int .i64 k → l.modify j (fun e => { key := .int .i64 k, val := enc v, born := e.born }) = l.modify j (fun e => { e with val := enc v }) := by
      intro l e hl hk'
      apply List.ext_getElem?
      intro i
      by_cases hi : j = i
      · subst hi; simp [hl, hk']
      · simp [hi]
    have := he _ _ hk rfl
    simp [this]
end
end Go.Proofs.Ytngoagfkcjkeoaa
