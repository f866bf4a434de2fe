/- Plain: the document's rows, number after number and pile after pile. -/
import Derived.Test.YtngoagfkcjkeoaaKa
namespace Go.Proofs.Ytngoagfkcjkeoaa

/-- One step along a pile's row: the row, what is left of the shades, what is left of the pile. -/
def itQ (m o : Nat) (rest : List Pile) (st : List Int × List Int × Int) (q : Nat) : List Int × List Int × Int :=
  if o.testBit q = true then (st.1.set q (docN m o q rest st.2.1 st.2.2), leftQ o q st.2.1 (docN m o q rest st.2.1 st.2.2), st.2.2 - docN m o q rest st.2.1 st.2.2) else st
def itR (m o : Nat) (rest : List Pile) (left : List Int) (many : Int) (q : Nat) : List Int × List Int × Int := (List.range q).foldl (itQ m o rest) (List.replicate m 0, left, many)
theorem itR_next (m o : Nat) (rest : List Pile) (left : List Int) (many : Int) (q : Nat) : itR m o rest left many (q + 1) = itQ m o rest (itR m o rest left many q) q := by
  unfold itR
  rw [List.range_succ, List.foldl_append]
  rfl
theorem itQ_len {m o q : Nat} {rest : List Pile} {st : List Int × List Int × Int} : (itQ m o rest st q).1.length = st.1.length ∧ (itQ m o rest st q).2.1.length = st.2.1.length := by
  unfold itQ leftQ
  split
  · simp
  · exact ⟨rfl, rfl⟩
theorem itR_len (m o : Nat) (rest : List Pile) (left : List Int) (many : Int) : ∀ q, (itR m o rest left many q).1.length = m ∧ (itR m o rest left many q).2.1.length = left.length
  | 0 => by simp [itR]
  | q + 1 => by
    rw [itR_next]
    obtain ⟨h1, h2⟩ := itQ_len (m := m) (o := o) (q := q) (rest := rest) (st := itR m o rest left many q)
    obtain ⟨h3, h4⟩ := itR_len m o rest left many q
    omega
theorem it_run (m o : Nat) (rest : List Pile) : ∀ (f q : Nat) (st : List Int × List Int × Int), q + f = m → st.1.length = m → (∀ j, q ≤ j → st.1.getD j 0 = 0) →
    ((List.range' q f).foldl (itQ m o rest) st).2 = (docRun m o rest f q st.2.1 st.2.2).2 ∧ (∀ t, t < f → ((List.range' q f).foldl (itQ m o rest) st).1.getD (q + t) 0 = (docRun m o rest f q st.2.1 st.2.2).1.getD t 0) ∧ (∀ j, j < q → ((List.range' q f).foldl (itQ m o rest) st).1.getD j 0 = st.1.getD j 0) ∧ ((List.range' q f).foldl (itQ m o rest) st).1.length = m
  | 0, q, st, hqf, hl, hz => ⟨rfl, fun t h => by omega, fun _ _ => rfl, hl⟩
  | f + 1, q, st, hqf, hl, hz => by
    rw [List.range'_succ, List.foldl_cons]
    have hlen := (itQ_len (m := m) (o := o) (q := q) (rest := rest) (st := st)).1
    cases hb : o.testBit q with
    | true =>
      have e : itQ m o rest st q = (st.1.set q (docN m o q rest st.2.1 st.2.2), leftQ o q st.2.1 (docN m o q rest st.2.1 st.2.2), st.2.2 - docN m o q rest st.2.1 st.2.2) := by unfold itQ; rw [if_pos hb]
      have hset : ∀ j, (itQ m o rest st q).1.getD j 0 = if j = q then docN m o q rest st.2.1 st.2.2 else st.1.getD j 0 := fun j => by
        rw [e]
        dsimp only
        rw [List.getD_eq_getElem?_getD, List.getElem?_set]
        by_cases e9 : q = j
        · subst e9
          rw [if_pos rfl, if_pos (by omega), if_pos rfl, Option.getD_some]
        · rw [if_neg e9, if_neg (fun h => e9 h.symm), ← List.getD_eq_getElem?_getD]
      obtain ⟨r1, r2, r3, r4⟩ := it_run m o rest f (q + 1) (itQ m o rest st q) (by omega) (by rw [hlen]; exact hl) (fun j hj => by rw [hset, if_neg (by omega)]; exact hz j (by omega))
      have e1 : (itQ m o rest st q).2.1 = leftQ o q st.2.1 (docN m o q rest st.2.1 st.2.2) := by rw [e]
      have e2 : (itQ m o rest st q).2.2 = st.2.2 - docN m o q rest st.2.1 st.2.2 := by rw [e]
      rw [e1, e2] at r1 r2
      unfold docRun
      rw [if_pos hb]
      refine ⟨r1, fun t ht => ?_, fun j hj => by rw [r3 j (by omega), hset, if_neg (by omega)], r4⟩
      cases t with
      | zero => rw [r3 _ (by omega), hset, if_pos (by omega)]; rfl
      | succ t =>
        have := r2 t (by omega)
        rw [show q + 1 + t = q + (t + 1) by omega] at this
        simpa using this
    | false =>
      have e : itQ m o rest st q = st := by unfold itQ; rw [if_neg (by rw [hb]; simp)]
      rw [e]
      obtain ⟨r1, r2, r3, r4⟩ := it_run m o rest f (q + 1) st (by omega) hl (fun j hj => hz j (by omega))
      unfold docRun
      rw [if_neg (by rw [hb]; simp)]
      refine ⟨r1, fun t ht => ?_, fun j hj => r3 j (by omega), r4⟩
      cases t with
      | zero => rw [r3 _ (by omega), hz _ (by omega)]; rfl
      | succ t =>
        have := r2 t (by omega)
        rw [show q + 1 + t = q + (t + 1) by omega] at this
        simpa using this
theorem docRun_len (m o : Nat) (rest : List Pile) : ∀ (f q : Nat) (left : List Int) (many : Int), (docRun m o rest f q left many).1.length = f
  | 0, _, _, _ => rfl
  | f + 1, q, left, many => by
    unfold docRun
    split <;> simp [docRun_len m o rest f]
theorem it_doc (m o : Nat) (rest : List Pile) (left : List Int) (many : Int) : itR m o rest left many m = docRun m o rest m 0 left many := by
  obtain ⟨r1, r2, r3, r4⟩ := it_run m o rest m 0 (List.replicate m 0, left, many) (by omega) (by simp) (fun j _ => by
    rw [List.getD_eq_getElem?_getD, List.getElem?_replicate]
    split <;> rfl)
  unfold itR
  rw [List.range_eq_range']
  refine Prod.ext ?_ r1
  refine List.ext_getElem (by rw [r4, docRun_len]) fun t h1 h2 => ?_
  have := r2 t (by rw [r4] at h1; exact h1)
  rw [Nat.zero_add, List.getD_eq_getElem?_getD, List.getElem?_eq_getElem h1, Option.getD_some, List.getD_eq_getElem?_getD, List.getElem?_eq_getElem h2, Option.getD_some] at this
  exact this
/-- What is left of the shades behind the first i piles. -/
def leftN (m : Nat) : List Pile → List Int → Nat → List Int
  | [], left, _ => left
  | _ :: _, left, 0 => left
  | p :: rest, left, i + 1 => leftN m rest (docRun m p.shades.toNat rest m 0 left p.many).2.1 i
theorem leftN_zero (m : Nat) (l : List Pile) (left : List Int) : leftN m l left 0 = left := by cases l <;> rfl
theorem docRows_at (m : Nat) : ∀ (l : List Pile) (left : List Int) (i : Nat) (h : i < l.length), (docRows m l left).getD i [] = (docRun m l[i].shades.toNat (l.drop (i + 1)) m 0 (leftN m l left i) l[i].many).1 ∧ leftN m l left (i + 1) = (docRun m l[i].shades.toNat (l.drop (i + 1)) m 0 (leftN m l left i) l[i].many).2.1
  | p :: rest, left, 0, _ => ⟨rfl, by simp [leftN, leftN_zero]⟩
  | p :: rest, left, i + 1, h => by
    have := docRows_at m rest (docRun m p.shades.toNat rest m 0 left p.many).2.1 i (by simpa using h)
    simpa [docRows, leftN] using this
end Go.Proofs.Ytngoagfkcjkeoaa
