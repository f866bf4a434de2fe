/- The law SackOrder: the sacks of which more is known. -/
import Derived.Test.YtoiggflhfbfiiaaO1
import Derived.Test.YtoiggflhfbfiiaaE1
namespace Go.Proofs.Ytoiggflhfbfiiaa
open Go.RowKit Go.Shelf

/-- The sacks of which more is known, as the law makes them. -/
def tighter (s : Sack) (y : Int) : Sack := ⟨⟨min s.w.hi (s.w.lo + y % 9), s.w.hi⟩, ⟨s.c.lo, max s.c.lo (s.c.hi - y % 7)⟩, ⟨min s.l.hi (s.l.lo + y % 5), s.l.hi⟩⟩
def lessOf (l : List Sack) (k : Nat) (y : Int) : List Sack := if h : k < l.length then l.set k (tighter l[k] y) else l
theorem lessOf_len (l : List Sack) (k : Nat) (y : Int) : (lessOf l k y).length = l.length := by unfold lessOf; split <;> simp
theorem tighter_within {s : Sack} (h : sackOk s = true) {y : Int} (_ : 0 ≤ y) : (tighter s y).within s := by
  simp only [sackOk, Bool.and_eq_true, withinB_iff] at h
  have a1 := Int.emod_nonneg y (show (9 : Int) ≠ 0 by omega)
  have a2 := Int.emod_nonneg y (show (7 : Int) ≠ 0 by omega)
  have a3 := Int.emod_nonneg y (show (5 : Int) ≠ 0 by omega)
  simp only [tighter, Sack.within, Span.within]
  omega
theorem within_self (s : Sack) (h : sackOk s = true) : s.within s := by
  simp only [sackOk, Bool.and_eq_true, withinB_iff] at h
  simp only [Sack.within, Span.within]
  omega
theorem lessOf_within {l : List Sack} (hs : ∀ s ∈ l, sackOk s = true) (k : Nat) {y : Int} (hy : 0 ≤ y) : ∀ i : Nat, i < l.length → (sackAt (lessOf l k y) i).within (sackAt l i) := by
  intro i hi
  rw [sackAt_nat hi, sackAt_nat (show i < (lessOf l k y).length by rw [lessOf_len]; exact hi)]
  have hk := hs _ (List.getElem_mem hi)
  unfold lessOf
  split
  · rename_i h
    by_cases e : k = i
    · subst e
      rw [List.getElem_set_self]
      exact tighter_within hk hy
    · rw [List.getElem_set_ne e]
      exact within_self _ hk
  · exact within_self _ hk
theorem lessOf_valid {l : List Sack} {b : List Take} (hv : validB l b = true) (k : Nat) {y : Int} (hy : 0 ≤ y) : validB (lessOf l k y) b = true := by
  have hs := (valid_parts hv).2.2.1
  have hw := lessOf_within hs k hy
  simp only [validB, sacksOk, Bool.and_eq_true, decide_eq_true_eq, List.all_eq_true] at hv ⊢
  obtain ⟨⟨⟨h1, h2⟩, h3⟩, h4⟩ := hv
  refine ⟨⟨⟨by rw [lessOf_len]; exact h1, fun s hs' => ?_⟩, h3⟩, fun t ht => ?_⟩
  · obtain ⟨i, hi, rfl⟩ := List.getElem_of_mem hs'
    have hi' : i < l.length := by rwa [lessOf_len] at hi
    have := hw i hi'
    rw [sackAt_nat hi, sackAt_nat hi'] at this
    exact within_ok this (hs _ (List.getElem_mem hi'))
  · have := h4 t ht
    simpa only [takeOk, idxB, lessOf_len] using this
theorem valid_pos {l : List Sack} {b : List Take} (hv : validB l b = true) : 0 < l.length := by
  obtain ⟨_, _, _, _, _, h6, _⟩ := valid_parts hv
  have hb : 0 < b.length := by omega
  have h := validB_take hv b[0] (List.getElem_mem hb)
  simp only [takeOk, idxB, Bool.and_eq_true, decide_eq_true_eq] at h
  omega
theorem own_empty (w : World) (B : Nat) (h : B ≤ w.heap.size) : (w.alloc (.cells #[] 57)).ownsRow B 57 6 (.slice (some ⟨w.heap.size, 0, none⟩) 0 0) 0 [] :=
  ⟨rfl, .inr ⟨w.heap.size, 0, #[], rfl, h, World.alloc_heap_new w _, Nat.le_refl _, by unfold maxLen; omega, rfl, rfl⟩⟩
theorem SackCs.c' {cs : Array Value} {l : List Sack} {k : Nat} {s : Sack} (h : SackCs cs (l.set k s)) (hk : k < l.length) (v : Int) : SackCs (cs.setIfInBounds (k * 6 + 3) (.int .i64 v)) (l.set k { s with c := ⟨s.c.lo, v⟩ }) := by
  have h2 := SackCs.c h (k := k) (by simpa using hk) v
  simp only [List.getElem_set_self, List.set_set] at h2
  exact h2
theorem SackCs.l' {cs : Array Value} {l : List Sack} {k : Nat} {s : Sack} (h : SackCs cs (l.set k s)) (hk : k < l.length) (v : Int) : SackCs (cs.setIfInBounds (k * 6 + 4) (.int .i64 v)) (l.set k { s with l := ⟨v, s.l.hi⟩ }) := by
  have h2 := SackCs.l h (k := k) (by simpa using hk) v
  simp only [List.getElem_set_self, List.set_set] at h2
  exact h2
theorem less_cs {cs : Array Value} {l : List Sack} {k : Nat} (h : SackCs cs l) (hk : k < l.length) {s : Sack} (hs : l[k] = s) (y : Int) :
    SackCs (((cs.setIfInBounds (k * 6) (.int .i64 (min s.w.hi (s.w.lo + y % 9)))).setIfInBounds (k * 6 + 3) (.int .i64 (max s.c.lo (s.c.hi - y % 7)))).setIfInBounds (k * 6 + 4) (.int .i64 (min s.l.hi (s.l.lo + y % 5)))) (lessOf l k y) := by
  subst hs
  have h3 := ((h.w hk (min l[k].w.hi (l[k].w.lo + y % 9))).c' hk (max l[k].c.lo (l[k].c.hi - y % 7))).l' hk (min l[k].l.hi (l[k].l.lo + y % 5))
  unfold lessOf
  rw [dif_pos hk]
  exact h3

/-- What is answered about the sacks of which more is known. -/
structure XL (l' : List Sack) (b : List Take) (n : Nat) (wl wh : Int) (T : Option Addr) (d : Nat) (p p' : Nat → Span) (sh sh' x x' : Span) (xe xe' : Int) : Prop where
  weigh : ∀ W X c', SackSl W W.heap.size X l' → TakeSl W W.heap.size T b → Calls Try.prog 11 #[.slice X n c', .slice T b.length d] W (Ret (.tuple #[.agg (spansTo p' 5), .int .i64 0]) W)
  share : ∀ W X c', SackSl W W.heap.size X l' → TakeSl W W.heap.size T b → Calls Try.prog 13 #[.slice X n c', .slice T b.length d] W (Ret (.tuple #[.agg #[.int .i64 sh'.lo, .int .i64 sh'.hi], .int .i64 0]) W)
  water : ∀ W X c', SackSl W W.heap.size X l' → TakeSl W W.heap.size T b → Calls Try.prog 15 #[.slice X n c', .slice T b.length d, .agg #[.int .i64 wl, .int .i64 wh]] W (Ret (.tuple #[.agg #[.int .i64 x'.lo, .int .i64 x'.hi], .int .i64 xe']) W)
  parts : ∀ k, (p k).lo ≤ (p' k).lo ∧ (p' k).hi ≤ (p k).hi
  shares : sh.lo ≤ sh'.lo ∧ sh'.hi ≤ sh.hi
  wat : xe ≠ 0 ∨ (xe' = 0 ∧ x'.lo ≤ x.lo ∧ x.hi ≤ x'.hi)
theorem xl_of {l : List Sack} {b : List Take} (hv : validB l b = true) (k : Nat) {y : Int} (hy : 0 ≤ y) (wl wh : Int) (T : Option Addr) (d : Nat) (p : Nat → Span) (sh x : Span) (xe : Int) (h1 : partOf l b = p) (h2 : shareOf (heldsOf l b) = sh) (h3 : (watAns l b wl wh).1 = x) (h4 : (watAns l b wl wh).2 = xe) :
    ∃ p' sh' x' xe', XL (lessOf l k y) b l.length wl wh T d p p' sh sh' x x' xe xe' := by
  have hv' := lessOf_valid hv k hy
  have hw := lessOf_within (valid_parts hv).2.2.1 k hy
  have hn := narrow_all hv hv' (lessOf_len l k y) hw
  have hwn := watAns_narrow hv hv' (lessOf_len l k y) hw wl wh
  obtain ⟨q1, q2, q3, q4, q5, q6, q7⟩ := valid_parts hv'
  subst h1 h2 h3 h4
  refine ⟨_, _, _, _, ⟨fun W X c' hA hT => ?_, fun W X c' hA hT => ?_, fun W X c' hA hT => ?_, hn.1, hn.2.1, hwn⟩⟩
  · have h := weigh_yes W X T c' d (lessOf l k y) b (by omega) (by omega) hA hT hv'
    rw [lessOf_len] at h
    exact h
  · have h := share_yes W X T c' d (lessOf l k y) b (by omega) (by omega) hA hT hv'
    rw [lessOf_len] at h
    exact h
  · have h := water_ans W X T c' d (lessOf l k y) b wl wh (by omega) (by omega) hA hT hv'
    rw [lessOf_len] at h
    exact h
theorem sack_cells {W : World} {B bA oA : Nat} {l : List Sack} {k : Nat} {s : Sack} (h : SackSl W B (some ⟨bA, oA, none⟩) l) (hk : k < l.length) (hs : l[k] = s) : W.cell? ⟨bA, oA + k * 6, none⟩ = some (.int .i64 s.w.lo) ∧ W.cell? ⟨bA, oA + k * 6 + 1, none⟩ = some (.int .i64 s.w.hi) ∧ W.cell? ⟨bA, oA + k * 6 + 2, none⟩ = some (.int .i64 s.c.lo) ∧ W.cell? ⟨bA, oA + k * 6 + 3, none⟩ = some (.int .i64 s.c.hi) ∧ W.cell? ⟨bA, oA + k * 6 + 4, none⟩ = some (.int .i64 s.l.lo) ∧ W.cell? ⟨bA, oA + k * 6 + 5, none⟩ = some (.int .i64 s.l.hi) := by
  obtain ⟨b', o', e, _, hs'⟩ := h (by intro e; subst e; simp at hk)
  cases e
  subst hs
  exact hs' k hk
end Go.Proofs.Ytoiggflhfbfiiaa
