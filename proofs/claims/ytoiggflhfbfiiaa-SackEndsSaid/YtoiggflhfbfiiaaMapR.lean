/- A range over a map with keys of type int: the step, whichever entry the tape gives. -/
import Derived.Test.YtoiggflhfbfiiaaMapL
import Derived.Maps.RangeWalk
namespace Go.Proofs.Ytoiggflhfbfiiaa
open Go.RowKit Go.ChangeMaps

section
variable {α : Type} {enc : α → Value} {P : Program}

theorem nodup_length_le : ∀ (n : Nat) (l : List Nat), l.Nodup → (∀ i ∈ l, i < n) → l.length ≤ n
  | 0, l, _, h => by
    cases l with
    | nil => simp
    | cons a l => have := h a (by simp); omega
  | n + 1, l, hn, h => by
    have h1 := nodup_length_le n (l.erase n) (hn.erase n) (fun i hi => by
      have a := h i (List.mem_of_mem_erase hi)
      have b := (hn.mem_erase_iff.1 hi).1
      omega)
    have h2 := List.length_erase (a := n) (l := l)
    split at h2 <;> omega

/-- What is known when a step of a range has given entry i. -/
structure Stepped_ (enc : α → Value) (w : World) (bm r : Nat) (m : List (Int × α)) (seen : List Nat) (i : Nat) (w' : World) : Prop where
  lt : i < m.length
  fresh : i ∉ seen
  iter : w'.heap[r]? = some (.mapIter (some bm) m.length (seen ++ [i]).toArray m.length)
  map : MapI enc w' bm m
  grown : w.grownBy w' (some r)
  size : w'.heap.size = w.heap.size

theorem wpList_nextI (w : World) {ops : Array Oper} {rest : List Oper} {o : Oper} {a : Act} {Q : Exit → Act → World → Prop} (hg : o.guard = none) (it : Operand) (hop : o.op = Op.next it false) (bm r : Nat) (m : List (Int × α)) (seen : List Nat)
    (hit : a.eval it = .pointer (some ⟨r, 0, none⟩)) (hr : w.heap[r]? = some (.mapIter (some bm) m.length seen.toArray m.length)) (hb : MapI enc w bm m)
    (hDone : Hid (∀ i, i < m.length → i ∈ seen) → wpList P ops Q rest (a.put o.dst (.tuple #[.bool false])) w)
    (hMore : ∀ (i : Nat) (hi : i < m.length) (w' : World), Hid (Stepped_ enc w bm r m seen i w') →
      (Instr.entry (.pointer (some ⟨r, 0, none⟩))).run P w' = .ok (.tuple #[.int .i64 m[i].1, enc m[i].2]) w' → wpList P ops Q rest (a.put o.dst (.tuple #[.bool true, .int .i64 m[i].1, enc m[i].2])) w') :
    wpList P ops Q (o :: rest) a w := by
  refine wpList_plain hg fun K' hK' => ?_
  unfold Oper.wp
  have hne : r ≠ bm := by
    rintro rfl
    have := hr.symm.trans hb
    simp at this
  rcases run_next_at (P := P) w o.type r bm m.length m.length seen.toArray (entL enc m 0).toArray m.length hr hb (fun x hx => by
      have := mem_entL m 0 x (by simpa using hx); omega) (Nat.le_refl _) with ⟨h0, hrun⟩ | ⟨e, he, w1, hw1, hrun⟩
  · simp [execOp, hop, hit, hrun, Result.andThen]
    refine hK' _ _ (hDone fun i hi => ?_)
    have hx := getElem_entL (enc := enc) m 0 i m[i] (List.getElem?_eq_getElem hi)
    have hm : _ ∈ (entL enc m 0) := List.mem_of_getElem? hx
    unfold leftOf at h0
    have h1 := Array.eq_empty_of_size_eq_zero h0
    rw [Array.filter_eq_empty_iff] at h1
    have h2 := h1 _ (by simpa using hm)
    simpa using h2
  · unfold leftOf at he
    simp only [Array.toList_filter, List.mem_filter] at he
    obtain ⟨he1, he2⟩ := he
    obtain ⟨-, hlt, x, hx, hk, hv⟩ := mem_entL (enc := enc) m 0 e he1
    simp only [Nat.sub_zero, Nat.zero_add] at hlt hx
    have hxe : m[e.born] = x := by rw [List.getElem?_eq_getElem hlt] at hx; simpa using hx
    have hn : e.born ∉ seen := by simpa using he2
    have hs1 : w1.heap = w.heap := by rcases hw1 with rfl | rfl <;> rfl
    have hpush : seen.toArray.push e.born = (seen ++ [e.born]).toArray := by simp
    rw [hpush] at hrun
    have hgr : w.grownBy (setBlock w1 r (.mapIter (some bm) m.length (seen ++ [e.born]).toArray m.length)) (some r) := by
      rcases hw1 with rfl | rfl
      · exact ⟨rfl, rfl, rfl, by simp [setBlock], fun i _ hne => Array.getElem?_setIfInBounds_ne (fun e => hne (by rw [e]))⟩
      · exact ⟨rfl, rfl, rfl, by simp [setBlock], fun i _ hne => Array.getElem?_setIfInBounds_ne (fun e => hne (by rw [e]))⟩
    have hr' : (setBlock w1 r (.mapIter (some bm) m.length (seen ++ [e.born]).toArray m.length)).heap[r]? = some (.mapIter (some bm) m.length (seen ++ [e.born]).toArray m.length) := by
      have hrl : r < w.heap.size := (Array.getElem?_eq_some_iff.1 hr).1
      simp [setBlock, hs1, hrl]
    have hb' : MapI enc (setBlock w1 r (.mapIter (some bm) m.length (seen ++ [e.born]).toArray m.length)) bm m := hb.kept hgr (by simp; exact fun e => hne e.symm)
    have hent := run_entry_at (P := P) (setBlock w1 r (.mapIter (some bm) m.length (seen ++ [e.born]).toArray m.length)) r bm m.length seen.toArray (entL enc m 0).toArray m.length e (by rw [hr', hpush]) hb' (by simpa using he1) (by
      show ((entL enc m 0).map _).Nodup
      rw [born_entL]; exact List.nodup_range' ..)
    simp [execOp, hop, hit, hrun, Result.andThen]
    rw [hk, hv, ← hxe] at hent ⊢
    exact hK' _ _ (hMore e.born hlt _ ⟨hlt, hn, hr', hb', hgr, by simp [setBlock, hs1]⟩ hent)

/-- How many entries are still to come. -/
def iterLeft (n r : Nat) (w : World) : Nat := match w.heap[r]? with
  | some (.mapIter _ _ seen _) => n - seen.size
  | _ => 0
theorem iterLeft_eq {n r : Nat} {w : World} {bm : Option Nat} {s c : Nat} {seen : List Nat} (h : w.heap[r]? = some (.mapIter bm s seen.toArray c)) : iterLeft n r w = n - seen.length := by
  simp [iterLeft, h]
end
end Go.Proofs.Ytoiggflhfbfiiaa
