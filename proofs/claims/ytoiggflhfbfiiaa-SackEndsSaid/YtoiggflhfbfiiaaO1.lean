/- The law SackOrder: its small parts. -/
import Derived.Test.YtoiggflhfbfiiaaPo
import Derived.Test.YtoiggflhfbfiiaaT5
namespace Go.Proofs.Ytoiggflhfbfiiaa
open Go.RowKit Go.Shelf

/-- What Water answers. -/
def watAns (l : List Sack) (b : List Take) (wl wh : Int) : Span × Int :=
  if withinB ⟨wl, wh⟩ 0 999 then (if max (waterLo (heldsOf l b) wl) 0 ≤ min (waterHi (heldsOf l b) wh) 1073741824 then (⟨max (waterLo (heldsOf l b) wl) 0, min (waterHi (heldsOf l b) wh) 1073741824⟩, 0) else (⟨0, 0⟩, 4)) else (⟨0, 0⟩, 2)
theorem water_ans (w : World) (A T : Option Addr) (c d : Nat) (l : List Sack) (b : List Take) (wl wh : Int) (hl : l.length ≤ 100) (hb : b.length ≤ 100) (hA : SackSl w w.heap.size A l) (hT : TakeSl w w.heap.size T b) (hv : validB l b = true) :
    Calls Try.prog 15 #[.slice A l.length c, .slice T b.length d, .agg #[.int .i64 wl, .int .i64 wh]] w (Ret (.tuple #[.agg #[.int .i64 (watAns l b wl wh).1.lo, .int .i64 (watAns l b wl wh).1.hi], .int .i64 (watAns l b wl wh).2]) w) := by
  cases hw : withinB ⟨wl, wh⟩ 0 999 with
  | false =>
    have e : watAns l b wl wh = (⟨0, 0⟩, 2) := by simp [watAns, hw]
    rw [e]
    exact water_range w A T c d l b wl wh hl hb hA hT hv hw
  | true =>
    have h := water_yes w A T c d l b wl wh hl hb hA hT hv hw
    by_cases hxz : max (waterLo (heldsOf l b) wl) 0 ≤ min (waterHi (heldsOf l b) wh) 1073741824
    · have e : watAns l b wl wh = (⟨max (waterLo (heldsOf l b) wl) 0, min (waterHi (heldsOf l b) wh) 1073741824⟩, 0) := by unfold watAns; rw [hw, if_pos rfl, if_pos hxz]
      rw [e]
      rw [numV, if_pos hxz] at h
      exact h
    · have e : watAns l b wl wh = (⟨0, 0⟩, 4) := by unfold watAns; rw [hw, if_pos rfl, if_neg hxz]
      rw [e]
      rw [numV, if_neg hxz] at h
      exact h
theorem watAns_same {l : List Sack} {b x : List Take} (hv : validB l b = true) (hx : validB l x = true) (hw : ∀ i : Nat, i < l.length → weightR x i = weightR b i) (wl wh : Int) : watAns l x wl wh = watAns l b wl wh := by
  have h := same_all hv hx hw
  simp only [watAns, h.2.2.1, h.2.2.2]
theorem watAns_narrow {l l' : List Sack} {b : List Take} (hv : validB l b = true) (hv' : validB l' b = true) (hl : l'.length = l.length) (hw : ∀ i : Nat, i < l.length → (sackAt l' i).within (sackAt l i)) (wl wh : Int) :
    (watAns l b wl wh).2 ≠ 0 ∨ ((watAns l' b wl wh).2 = 0 ∧ (watAns l' b wl wh).1.lo ≤ (watAns l b wl wh).1.lo ∧ (watAns l b wl wh).1.hi ≤ (watAns l' b wl wh).1.hi) := by
  have h := (narrow_all hv hv' hl hw).2.2
  cases hh : withinB ⟨wl, wh⟩ 0 999 with
  | false => exact .inl (by simp [watAns, hh])
  | true =>
    obtain ⟨w1, w2, w3⟩ := withinB_iff.1 hh
    simp only at w1 w2 w3
    have h1 := (h wl w1 (by omega)).1
    have h2 := (h wh (by omega) w3).2
    unfold watAns
    rw [hh, if_pos rfl, if_pos rfl]
    by_cases hxz : max (waterLo (heldsOf l b) wl) 0 ≤ min (waterHi (heldsOf l b) wh) 1073741824
    · rw [if_pos hxz, if_pos (by omega)]
      refine .inr ⟨rfl, ?_, ?_⟩
      · simp only; omega
      · simp only; omega
    · rw [if_neg hxz]
      exact .inl (by simp)

set_option maxHeartbeats 400000 in
theorem in_any (a b c d : Int) (w : World) : Calls Try.prog 27 #[.agg #[.int .i64 a, .int .i64 b], .agg #[.int .i64 c, .int .i64 d]] w (Ret (.bool (decide (c ≤ a ∧ b ≤ d))) w) := by
  go_enter Try.func27, Try.ntmps27
  go_wp2
  all_goals go_ret
  all_goals exact ⟨ret_bool (by rw [Bool.eq_iff_iff]; first | (simp only [decide_eq_true_eq, Bool.false_eq_true, false_iff]; omega) | (simp; omega)), by repeat (first | exact Below.refl _ _ | assumption | refine Below.drew ?_ | refine Below.alloc ?_ (by first | omega | (simp only [World.size_alloc]; omega) | simp) _ | refine Below.setCell ?_ (by first | omega | (simp only [World.size_alloc]; omega) | simp) _)⟩
theorem in_yes (a b c d : Int) (w : World) (h : c ≤ a ∧ b ≤ d) : Calls Try.prog 27 #[.agg #[.int .i64 a, .int .i64 b], .agg #[.int .i64 c, .int .i64 d]] w (Ret (.bool true) w) :=
  (in_any a b c d w).mono fun _ _ ⟨h1, h2⟩ => ⟨by rw [h1]; exact ret_bool (by simpa using h), h2⟩

def takeVs (b : List Take) : List Value := b.flatMap fun t => [.int .i64 t.s, .int .i64 t.m.lo, .int .i64 t.m.hi]
theorem takeVs_len (xs : List Take) : (takeVs xs).length = xs.length * 3 := by
  induction xs with
  | nil => rfl
  | cons a l ih => simp only [takeVs, List.flatMap_cons, List.length_append, List.length_cons] at ih ⊢; rw [ih]; simp; omega
theorem takeVs_at : ∀ (xs : List Take) (i : Nat) (h : i < xs.length), (takeVs xs)[i * 3]? = some (.int .i64 xs[i].s) ∧ (takeVs xs)[i * 3 + 1]? = some (.int .i64 xs[i].m.lo) ∧ (takeVs xs)[i * 3 + 2]? = some (.int .i64 xs[i].m.hi)
  | a :: l, 0, _ => ⟨rfl, rfl, rfl⟩
  | a :: l, i + 1, h => by
    have := takeVs_at l i (by simpa using h)
    have e : takeVs (a :: l) = [.int .i64 a.s, .int .i64 a.m.lo, .int .i64 a.m.hi] ++ takeVs l := rfl
    rw [e]
    refine ⟨?_, ?_, ?_⟩ <;> rw [List.getElem?_append_right (by simp; omega)] <;> simp only [List.length_cons, List.length_nil, List.getElem_cons_succ]
    · rw [← this.1]; congr 1; omega
    · rw [← this.2.1]; congr 1; omega
    · rw [← this.2.2]; congr 1; omega
def TaksAt (w : World) (B : Nat) (v : Value) (xs : List Take) : Prop := w.ownsRow B 51 3 v xs.length (takeVs xs)
theorem TakeSl.of_own {w : World} {B : Nat} {v : Value} {xs : List Take} (h : TaksAt w B v xs) : ∃ A c, v = .slice A xs.length c ∧ TakeSl w w.heap.size A xs := by
  have h : w.ownsRow B 51 3 v xs.length (takeVs xs) := h
  rcases Nat.eq_zero_or_pos xs.length with h0 | hne
  · have : xs = [] := List.eq_nil_of_length_eq_zero h0
    subst this
    rcases h.2 with ⟨rfl, _⟩ | ⟨g, cap, cur, rfl, _⟩
    · exact ⟨none, 0, rfl, fun h => absurd rfl h⟩
    · exact ⟨_, cap, rfl, fun h => absurd rfl h⟩
  · obtain ⟨g, cap, hv, _, hlt⟩ := World.ownsRow.form h hne
    subst hv
    refine ⟨_, cap, rfl, fun _ => ⟨g, 0, rfl, hlt, fun i hi => ?_⟩⟩
    obtain ⟨e0, e1, e2⟩ := takeVs_at xs i hi
    have c0 := World.ownsRow.cells h (g := g) rfl (i * 3) _ e0
    have c1 := World.ownsRow.cells h (g := g) rfl (i * 3 + 1) _ e1
    have c2 := World.ownsRow.cells h (g := g) rfl (i * 3 + 2) _ e2
    rw [add_off] at c0 c1 c2
    simp only [Nat.zero_add]
    exact ⟨c0, c1, c2⟩
theorem takeInfo : (Try.prog.info? 51).map (fun i => (i.zero, i.size, i.bytes)) = some (some (.agg #[.int .i64 0, .int .i64 0, .int .i64 0]), 3, 24) := by kernel_rfl
theorem taksSl : Try.prog.underlying 23 = some (.slice 51) := by kernel_rfl
theorem turned_next (b : List Take) (r k : Nat) : takeVs (turned b r (k + 1)) = takeVs (turned b r k) ++ [.int .i64 (turnAt b r k).s, .int .i64 (turnAt b r k).m.lo, .int .i64 (turnAt b r k).m.hi] := by simp [turned, takeVs, List.range_succ]
theorem turned_len (b : List Take) (r k : Nat) : (turned b r k).length = k := by simp [turned]

/-- A batch of the same weights: what is answered is the same. -/
structure XC (l : List Sack) (wl wh : Int) (A X : Option Addr) (c cx n : Nat) (xx : List Take) (p : Nat → Span) (sh x : Span) (xe : Int) : Prop where
  weigh : ∀ W, SackSl W W.heap.size A l → TakeSl W W.heap.size X xx → Calls Try.prog 11 #[.slice A l.length c, .slice X n cx] W (Ret (.tuple #[.agg (spansTo p 5), .int .i64 0]) W)
  share : ∀ W, SackSl W W.heap.size A l → TakeSl W W.heap.size X xx → Calls Try.prog 13 #[.slice A l.length c, .slice X n cx] W (Ret (.tuple #[.agg #[.int .i64 sh.lo, .int .i64 sh.hi], .int .i64 0]) W)
  water : ∀ W, SackSl W W.heap.size A l → TakeSl W W.heap.size X xx → Calls Try.prog 15 #[.slice A l.length c, .slice X n cx, .agg #[.int .i64 wl, .int .i64 wh]] W (Ret (.tuple #[.agg #[.int .i64 x.lo, .int .i64 x.hi], .int .i64 xe]) W)
theorem xc_of {l : List Sack} {b xx : List Take} (hv : validB l b = true) (hx : validB l xx = true) (hw : ∀ i : Nat, i < l.length → weightR xx i = weightR b i) (wl wh : Int) (A X : Option Addr) (c cx n : Nat) (hn : xx.length = n) (p : Nat → Span) (sh x : Span) (xe : Int) (h1 : partOf l b = p) (h2 : shareOf (heldsOf l b) = sh) (h3 : (watAns l b wl wh).1 = x) (h4 : (watAns l b wl wh).2 = xe) : XC l wl wh A X c cx n xx p sh x xe := by
  have hs := same_all hv hx hw
  have hws := watAns_same hv hx hw wl wh
  obtain ⟨q1, q2, q3, q4, q5, q6, q7⟩ := valid_parts hx
  subst hn h1 h2 h3 h4
  rw [← hs.1, ← hs.2.1, ← hws]
  exact ⟨fun W hA hT => weigh_yes W A X c cx l xx (by omega) (by omega) hA hT hx, fun W hA hT => share_yes W A X c cx l xx (by omega) (by omega) hA hT hx, fun W hA hT => water_ans W A X c cx l xx wl wh (by omega) (by omega) hA hT hx⟩

theorem take_sl {W : World} {B : Nat} {bT oT : Nat} {b : List Take} (h : TakeSl W B (some ⟨bT, oT, none⟩) b) (hb : b ≠ []) (k : Nat) : TakeSl W B (some ⟨bT, oT, none⟩) (b.take k) ∧ TakeSl W B (some ⟨bT, oT + k * 3, none⟩) (b.drop k) := by
  obtain ⟨b', o', e, hlt, hs⟩ := h hb
  cases e
  refine ⟨fun _ => ⟨bT, oT, rfl, hlt, fun i hi => ?_⟩, fun _ => ⟨bT, oT + k * 3, rfl, hlt, fun i hi => ?_⟩⟩
  · have hi' : i < b.length := by simp at hi; omega
    have := hs i hi'
    simp only [List.getElem_take]
    exact this
  · have hi' : k + i < b.length := by simp at hi; omega
    have := hs (k + i) hi'
    simp only [List.getElem_drop]
    have e : oT + (k + i) * 3 = oT + k * 3 + i * 3 := by omega
    rw [e] at this
    exact this
theorem weigh_n (l : List Sack) (xx : List Take) (A X : Option Addr) (c cx n : Nat) (hx : validB l xx = true) (hn : xx.length = n) (p : Nat → Span) (hp : partOf l xx = p) : ∀ W, SackSl W W.heap.size A l → TakeSl W W.heap.size X xx → Calls Try.prog 11 #[.slice A l.length c, .slice X n cx] W (Ret (.tuple #[.agg (spansTo p 5), .int .i64 0]) W) := by
  obtain ⟨q1, q2, q3, q4, q5, q6, q7⟩ := valid_parts hx
  subst hn hp
  exact fun W hA hT => weigh_yes W A X c cx l xx (by omega) (by omega) hA hT hx
end Go.Proofs.Ytoiggflhfbfiiaa
