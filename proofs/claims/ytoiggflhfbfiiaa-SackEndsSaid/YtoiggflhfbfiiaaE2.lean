/- The law SackEnds: its small parts, and what its loops keep. -/
import Derived.Test.YtoiggflhfbfiiaaO1
import Derived.Test.YtoiggflhfbfiiaaPe
import Derived.Test.YtoiggflhfbfiiaaT6
import Derived.Test.YtoiggflhfbfiiaaRg
import Derived.Deep.CutBlock
import Derived.Deep.DeepCutAuto
namespace Go.Proofs.Ytoiggflhfbfiiaa
open Go.RowKit Go.Shelf

theorem takeVs_cells {w : World} {b off : Nat} {l : List Take} (h : TakesAt w b off l) : ∀ j u, (takeVs l)[j]? = some u → w.cell? ((⟨b, off, none⟩ : Addr).add j) = some u := by
  have key : ∀ q r, q < l.length → r < 3 → ∀ u, (takeVs l)[q * 3 + r]? = some u → w.cell? ⟨b, off + q * 3 + r, none⟩ = some u := by
    intro q r hq hr u hu
    obtain ⟨s0, s1, s2⟩ := takeVs_at l q hq
    obtain ⟨c0, c1, c2⟩ := h q hq
    have h3 : r = 0 ∨ r = 1 ∨ r = 2 := by omega
    rcases h3 with rfl | rfl | rfl
    · exact c0.trans (s0.symm.trans hu)
    · exact c1.trans (s1.symm.trans hu)
    · exact c2.trans (s2.symm.trans hu)
  intro j u hu
  have hj : j < l.length * 3 := by
    have := (List.getElem?_eq_some_iff.1 hu).1
    rwa [takeVs_len] at this
  have ej : j = j / 3 * 3 + j % 3 := by omega
  have ea : (⟨b, off, none⟩ : Addr).add j = ⟨b, off + j / 3 * 3 + j % 3, none⟩ := by
    have e : off + j / 3 * 3 + j % 3 = off + j := by omega
    rw [e]
    unfold Addr.add
    split
    · rename_i h0; rw [h0]; rfl
    · rfl
  rw [ea]
  rw [ej] at hu
  exact key _ _ (by omega) (by omega) u hu
theorem takeVs_one (l : List Take) : ∀ u ∈ takeVs l, u.oneCell' = true := by
  intro u hu
  simp only [takeVs, List.mem_flatMap, List.mem_cons, List.not_mem_nil, or_false] at hu
  obtain ⟨s, -, h⟩ := hu
  rcases h with rfl | rfl | rfl <;> rfl
/-- Cells that read as takes. -/
def TakeCs (cs : Array Value) (l : List Take) : Prop := ∀ i (h : i < l.length), cs[i * 3]? = some (.int .i64 l[i].s) ∧ cs[i * 3 + 1]? = some (.int .i64 l[i].m.lo) ∧ cs[i * 3 + 2]? = some (.int .i64 l[i].m.hi)
theorem TakeCs.sl {w : World} {g : Nat} {t : TypeId} {cs : Array Value} {l : List Take} {B : Nat} (h : TakeCs cs l) (hb : Blk w g t cs) (hg : g < B) : TakeSl w B (some ⟨g, 0, none⟩) l := fun _ => ⟨g, 0, rfl, hg, fun i hi => by
  obtain ⟨h0, h1, h2⟩ := h i hi
  simp only [Nat.zero_add]
  exact ⟨(hb.cell _).trans h0, (hb.cell _).trans h1, (hb.cell _).trans h2⟩⟩
theorem own_emptyT (w : World) (B : Nat) (h : B ≤ w.heap.size) : (w.alloc (.cells #[] 51)).ownsRow B 51 3 (.slice (some ⟨w.heap.size, 0, none⟩) 0 0) 0 [] :=
  ⟨rfl, .inr ⟨w.heap.size, 0, #[], rfl, h, World.alloc_heap_new w _, Nat.le_refl _, by unfold maxLen; omega, rfl, rfl⟩⟩
theorem own_blkT {w : World} {B : Nat} {v : Value} {l : List Take} (h : w.ownsRow B 51 3 v l.length (takeVs l)) (hne : 0 < l.length) : ∃ g cap cur, v = .slice (some ⟨g, 0, none⟩) l.length cap ∧ B ≤ g ∧ Blk w g 51 cur ∧ TakeCs cur l := by
  rcases h.2 with ⟨_, h0⟩ | ⟨g, cap, cur, hv, hB, hb, h1, h2, h3, h4⟩
  · omega
  · refine ⟨g, cap, cur, hv, hB, hb, fun i hi => ?_⟩
    have key : ∀ r, r < 3 → ∀ u, (takeVs l)[i * 3 + r]? = some u → cur[i * 3 + r]? = some u := by
      intro r hr u hu
      rw [← h4, List.getElem?_take, if_pos (by omega)] at hu
      simpa using hu
    obtain ⟨s0, s1, s2⟩ := takeVs_at l i hi
    exact ⟨key 0 (by omega) _ s0, key 1 (by omega) _ s1, key 2 (by omega) _ s2⟩

/-- The takes of which the first q are at an end. -/
def setUpto (b : List Take) (set q : Nat) : List Take := b.mapIdx fun i t => if i < q then ⟨t.s, ⟨setW t (set / 2 ^ i % 2), setW t (set / 2 ^ i % 2)⟩⟩ else t
theorem setUpto_len (b : List Take) (set q : Nat) : (setUpto b set q).length = b.length := by simp [setUpto]
theorem setUpto_zero (b : List Take) (set : Nat) : setUpto b set 0 = b := by
  apply List.ext_getElem
  · simp [setUpto]
  · intro i h1 h2; simp [setUpto]
theorem setUpto_all (b : List Take) (set : Nat) : setUpto b set b.length = setB b set := by
  apply List.ext_getElem
  · simp [setUpto, setB]
  · intro i h1 h2
    have : i < b.length := by simpa [setUpto] using h1
    simp [setUpto, setB, this]
theorem setUpto_at (b : List Take) (set q : Nat) (hq : q < b.length) : (setUpto b set q)[q]'(by simpa [setUpto] using hq) = b[q] := by simp [setUpto]
theorem TakeCs.next {cs : Array Value} {b : List Take} {set q : Nat} (h : TakeCs cs (setUpto b set q)) (hq : q < b.length) :
    TakeCs ((cs.setIfInBounds (q * 3 + 1) (.int .i64 (setW b[q] (set / 2 ^ q % 2)))).setIfInBounds (q * 3 + 2) (.int .i64 (setW b[q] (set / 2 ^ q % 2)))) (setUpto b set (q + 1)) := by
  intro i hi
  have hi' : i < b.length := by simpa [setUpto] using hi
  obtain ⟨h0, h1, h2⟩ := h i (by simpa [setUpto] using hi')
  by_cases e : q = i
  · subst e
    have e1 : (setUpto b set (q + 1))[q]'hi = ⟨b[q].s, ⟨setW b[q] (set / 2 ^ q % 2), setW b[q] (set / 2 ^ q % 2)⟩⟩ := by simp [setUpto]
    rw [setUpto_at b set q hq] at h0
    rw [e1]
    exact ⟨(set_far (by omega)).trans ((set_far (by omega)).trans h0), (set_far (by omega)).trans (set_hit h1), set_hit ((set_far (by omega)).trans h2)⟩
  · have e1 : (setUpto b set (q + 1))[i]'hi = (setUpto b set q)[i]'(by simpa [setUpto] using hi') := by
      have e2 : i < q + 1 ↔ i < q := by omega
      simp [setUpto, e2]
    rw [e1]
    exact ⟨(set_far (by omega)).trans ((set_far (by omega)).trans h0), (set_far (by omega)).trans ((set_far (by omega)).trans h1), (set_far (by omega)).trans ((set_far (by omega)).trans h2)⟩

theorem and1 {q : Nat} (h : q < 4) : Go.bits .and .i64 (q : Int) 1 = ((q % 2 : Nat) : Int) := by
  have key : ∀ q : Fin 4, Go.bits .and .i64 ((q.val : Nat) : Int) 1 = ((q.val % 2 : Nat) : Int) := by decide
  exact key ⟨q, h⟩
theorem shr1 (n k : Nat) : (n : Int) / 2 ^ ((k : Int)).toNat = ((n / 2 ^ k : Nat) : Int) := by
  have e : ((k : Int)).toNat = k := by omega
  have e2 : (2 : Int) ^ k = ((2 ^ k : Nat) : Int) := by simp
  rw [e, e2]
  exact (Int.natCast_ediv _ _).symm

def span6 (f : Nat → Span) : Array Value := #[.int .i64 (f 0).lo, .int .i64 (f 0).hi, .int .i64 (f 1).lo, .int .i64 (f 1).hi, .int .i64 (f 2).lo, .int .i64 (f 2).hi, .int .i64 (f 3).lo, .int .i64 (f 3).hi, .int .i64 (f 4).lo, .int .i64 (f 4).hi, .int .i64 (f 5).lo, .int .i64 (f 5).hi]
theorem six {k : Nat} (h : k < 6) : k = 0 ∨ k = 1 ∨ k = 2 ∨ k = 3 ∨ k = 4 ∨ k = 5 := by omega
theorem spans6_at (f : Nat → Span) {k : Nat} (h : k < 6) : (span6 f)[k * 2]? = some (.int .i64 (f k).lo) ∧ (span6 f)[k * 2 + 1]? = some (.int .i64 (f k).hi) := by
  rcases six h with rfl | rfl | rfl | rfl | rfl | rfl <;> exact ⟨rfl, rfl⟩
theorem spans6_set (f : Nat → Span) {k : Nat} (h : k < 6) (x : Span) : ((span6 f).setIfInBounds (k * 2) (.int .i64 x.lo)).setIfInBounds (k * 2 + 1) (.int .i64 x.hi) = span6 (fun j => if j = k then x else f j) := by
  rcases six h with rfl | rfl | rfl | rfl | rfl | rfl <;> rfl
/-- The widest spans, of which the first k know of one corner more. -/
def mixS (l : List Sack) (b : List Take) (n k j : Nat) : Span := if j < k then bestS l b (n + 1) j else bestS l b n j
theorem mixS_zero (l : List Sack) (b : List Take) (n : Nat) : span6 (mixS l b n 0) = span6 (bestS l b n) := rfl
theorem mixS_six (l : List Sack) (b : List Take) (n : Nat) : span6 (mixS l b n 6) = span6 (bestS l b (n + 1)) := rfl
theorem mixS_next (l : List Sack) (b : List Take) (n : Nat) {k : Nat} (h : k < 6) : span6 (fun j => if j = k then bestS l b (n + 1) k else mixS l b n k j) = span6 (mixS l b n (k + 1)) := by
  have e : (fun j => if j = k then bestS l b (n + 1) k else mixS l b n k j) = mixS l b n (k + 1) := by
    funext j
    unfold mixS
    by_cases e : j = k
    · subst e
      rw [if_pos rfl, if_pos (by omega)]
    · rw [if_neg e]
      by_cases e2 : j < k
      · rw [if_pos e2, if_pos (by omega)]
      · rw [if_neg e2, if_neg (by omega)]
  rw [e]
theorem mixS_at (l : List Sack) (b : List Take) (n k : Nat) : mixS l b n k k = bestS l b n k := by simp [mixS]

/-- What is answered at a corner. -/
structure XE (l' : List Sack) (b' : List Take) (n m : Nat) (f : Nat → Span) : Prop where
  weigh : ∀ W X c' Y y', SackSl W W.heap.size X l' → TakeSl W W.heap.size Y b' → Calls Try.prog 11 #[.slice X n c', .slice Y m y'] W (Ret (.tuple #[.agg (spansTo f 5), .int .i64 0]) W)
  share : ∀ W X c' Y y', SackSl W W.heap.size X l' → TakeSl W W.heap.size Y b' → Calls Try.prog 13 #[.slice X n c', .slice Y m y'] W (Ret (.tuple #[.agg #[.int .i64 (f 5).lo, .int .i64 (f 5).hi], .int .i64 0]) W)
theorem xe_own {l : List Sack} {b : List Take} (hv : validB l b = true) (n : Nat) : XE (sharpL l (n / 4)) (setB b (n % 4)) l.length b.length (ownS l b n) := by
  have hv' := sharp_valid hv (n / 4) (n % 4)
  obtain ⟨q1, q2, q3, q4, q5, q6, q7⟩ := valid_parts hv'
  refine ⟨fun W X c' Y y' hA hT => ?_, fun W X c' Y y' hA hT => ?_⟩
  · have h := weigh_yes W X Y c' y' (sharpL l (n / 4)) (setB b (n % 4)) (by omega) (by omega) hA hT hv'
    rw [sharpL_len, setB_len] at h
    exact h
  · have h := share_yes W X Y c' y' (sharpL l (n / 4)) (setB b (n % 4)) (by omega) (by omega) hA hT hv'
    rw [sharpL_len, setB_len] at h
    exact h
theorem xe_whole {l : List Sack} {b : List Take} (hv : validB l b = true) : XE l b l.length b.length (wholeS l b) := by
  obtain ⟨q1, q2, q3, q4, q5, q6, q7⟩ := valid_parts hv
  refine ⟨fun W X c' Y y' hA hT => ?_, fun W X c' Y y' hA hT => ?_⟩
  · exact weigh_yes W X Y c' y' l b (by omega) (by omega) hA hT hv
  · exact share_yes W X Y c' y' l b (by omega) (by omega) hA hT hv

/-- What is in hand in the loops: all of it, and the widest so far. -/
structure EndS (w : World) (l : List Sack) (b : List Take) (p9 p10 : Nat) (f : Nat → Span) (W : World) : Prop where
  below : Below w.heap.size w W
  b9 : Blk W p9 49 (span6 (wholeS l b))
  b10 : Blk W p10 49 (span6 f)
  ne : p9 ≠ p10
  ge : w.heap.size ≤ p10
theorem EndS.call {w : World} {l : List Sack} {b : List Take} {p9 p10 : Nat} {f : Nat → Span} {W W' : World} (h : EndS w l b p9 p10 f W) (hb : Below W.heap.size W W') : EndS w l b p9 p10 f W' :=
  ⟨h.below.trans (hb.mono h.below.size), h.b9.below hb h.b9.lt, h.b10.below hb h.b10.lt, h.ne, h.ge⟩
theorem EndS.far {w : World} {l : List Sack} {b : List Take} {p9 p10 : Nat} {f : Nat → Span} {W : World} (h : EndS w l b p9 p10 f W) {g : Nat} (h9 : p9 ≠ g) (h10 : p10 ≠ g) (hg : w.heap.size ≤ g) (o : Nat) (u : Value) : EndS w l b p9 p10 f (W.setCell ⟨g, o, none⟩ u) :=
  ⟨Below.setCell (p := ⟨g, o, none⟩) h.below hg _, h.b9.far (p := ⟨g, o, none⟩) h9 u, h.b10.far (p := ⟨g, o, none⟩) h10 u, h.ne, h.ge⟩
theorem EndS.set {w : World} {l : List Sack} {b : List Take} {p9 p10 : Nat} {f : Nat → Span} {W : World} (h : EndS w l b p9 p10 f W) {k : Nat} (hk : k < 6) (x : Span) :
    EndS w l b p9 p10 (fun j => if j = k then x else f j) ((W.setCell ⟨p10, k * 2, none⟩ (.int .i64 x.lo)).setCell ⟨p10, k * 2 + 1, none⟩ (.int .i64 x.hi)) := by
  refine ⟨Below.setCell (p := ⟨p10, k * 2 + 1, none⟩) (Below.setCell (p := ⟨p10, k * 2, none⟩) h.below h.ge _) h.ge _, ?_, ?_, h.ne, h.ge⟩
  · exact (h.b9.far (p := ⟨p10, k * 2, none⟩) h.ne _).far (p := ⟨p10, k * 2 + 1, none⟩) h.ne _
  · rw [← spans6_set f hk x]
    exact (h.b10.set_ _ _).set_ _ _
theorem eq_arr (f : Nat → Span) (w : World) : (Op.equalIn 10000 49 (.agg (span6 f)) (.agg (span6 f))).run Try.prog w = .ok true w := by
  have hu : Try.prog.underlying 49 = some (.array 6 25) := by kernel_rfl
  have hs : ∀ w, (sizeOf 25).run Try.prog w = .ok 2 w := fun _ => by kernel_rfl
  have h0 : ∀ (w : World), (part 25 (span6 f) 0).run Try.prog w = .ok (.agg #[.int .i64 (f 0).lo, .int .i64 (f 0).hi]) w := fun _ => by kernel_rfl
  have h1 : ∀ (w : World), (part 25 (span6 f) 2).run Try.prog w = .ok (.agg #[.int .i64 (f 1).lo, .int .i64 (f 1).hi]) w := fun _ => by kernel_rfl
  have h2 : ∀ (w : World), (part 25 (span6 f) 4).run Try.prog w = .ok (.agg #[.int .i64 (f 2).lo, .int .i64 (f 2).hi]) w := fun _ => by kernel_rfl
  have h3 : ∀ (w : World), (part 25 (span6 f) 6).run Try.prog w = .ok (.agg #[.int .i64 (f 3).lo, .int .i64 (f 3).hi]) w := fun _ => by kernel_rfl
  have h4 : ∀ (w : World), (part 25 (span6 f) 8).run Try.prog w = .ok (.agg #[.int .i64 (f 4).lo, .int .i64 (f 4).hi]) w := fun _ => by kernel_rfl
  have h5 : ∀ (w : World), (part 25 (span6 f) 10).run Try.prog w = .ok (.agg #[.int .i64 (f 5).lo, .int .i64 (f 5).hi]) w := fun _ => by kernel_rfl
  have he : ∀ (a b : Int) (w : World), (Op.equalIn 9999 25 (.agg #[.int .i64 a, .int .i64 b]) (.agg #[.int .i64 a, .int .i64 b])).run Try.prog w = .ok true w := fun a b w => by
    go_simp
  have key : ∀ d, (∀ (a b : Int) (w : World), (Op.equalIn d 25 (.agg #[.int .i64 a, .int .i64 b]) (.agg #[.int .i64 a, .int .i64 b])).run Try.prog w = .ok true w) → (Op.equalIn (d + 1) 49 (.agg (span6 f)) (.agg (span6 f))).run Try.prog w = .ok true w := by
    intro d he
    simp only [Op.equalIn, Sem.run_bind, run_underlying hu, Result.andThen_ok, hs]
    simp [Std.Legacy.Range.forIn_eq_forIn_range', h0, h1, h2, h3, h4, h5, he, List.range']
  exact key 9999 he
theorem mixS_0 (l : List Sack) (b : List Take) (n : Nat) : mixS l b n 0 = bestS l b n := funext fun j => by simp [mixS]
theorem mixS_nextF (l : List Sack) (b : List Take) (n : Nat) {k : Nat} (_h : k < 6) : (fun j => if j = k then bestS l b (n + 1) k else mixS l b n k j) = mixS l b n (k + 1) := by
  funext j
  unfold mixS
  by_cases e : j = k
  · subst e
    rw [if_pos rfl, if_pos (by omega)]
  · rw [if_neg e]
    by_cases e2 : j < k
    · rw [if_pos e2, if_pos (by omega)]
    · rw [if_neg e2, if_neg (by omega)]
theorem best_next (l : List Sack) (b : List Take) (n k : Nat) : (n = 0 → bestS l b (n + 1) k = ownS l b n k) ∧ (0 < n → bestS l b (n + 1) k = ⟨if (ownS l b n k).lo < (bestS l b n k).lo then (ownS l b n k).lo else (bestS l b n k).lo, if (bestS l b n k).hi < (ownS l b n k).hi then (ownS l b n k).hi else (bestS l b n k).hi⟩) := by
  refine ⟨fun h => by subst h; rfl, fun h => ?_⟩
  have e : bestS l b (n + 1) k = ⟨min (bestS l b n k).lo (ownS l b n k).lo, max (bestS l b n k).hi (ownS l b n k).hi⟩ := by
    simp only [bestS, if_neg (show ¬ n = 0 by omega)]
  rw [e]
  congr 1
  · split <;> omega
  · split <;> omega
theorem own_bd {l : List Sack} {b : List Take} (hv : validB l b = true) (n k : Nat) : -10000000 ≤ (ownS l b n k).lo ∧ (ownS l b n k).lo ≤ 10000000 ∧ -10000000 ≤ (ownS l b n k).hi ∧ (ownS l b n k).hi ≤ 10000000 := by
  unfold ownS
  split
  · have h := partOf_bd (sharp_valid hv (n / 4) (n % 4)) k
    omega
  · have h := share_bd (heldsOf (sharpL l (n / 4)) (setB b (n % 4)))
    omega
theorem EndS.cells {w : World} {l : List Sack} {b : List Take} {p9 p10 : Nat} {f : Nat → Span} {W : World} (h : EndS w l b p9 p10 f W) {k : Nat} (hk : k < 6) {x : Span} (hx : f k = x) :
    W.cell? ⟨p10, k * 2, none⟩ = some (.int .i64 x.lo) ∧ W.cell? ⟨p10, k * 2 + 1, none⟩ = some (.int .i64 x.hi) ∧ W.frozen? ⟨p10, k * 2, none⟩ = false ∧ W.frozen? ⟨p10, k * 2 + 1, none⟩ = false := by
  subst hx
  obtain ⟨h0, h1⟩ := spans6_at f hk
  exact ⟨(h.b10.cell _).trans h0, (h.b10.cell _).trans h1, h.b10.frozen _, h.b10.frozen _⟩
theorem twice_if (f : Nat → Span) (q : Nat) (x y : Span) {g : Nat → Span} (h : (fun j => if j = q then y else f j) = g) : (fun j => if j = q then y else (fun j => if j = q then x else f j) j) = g := by
  rw [← h]
  funext j
  by_cases e : j = q <;> simp [e]
def Fst (n : Nat) (f : Value) : Prop := (n = 0 ∧ f = .bool true) ∨ (0 < n ∧ f = .bool false)
theorem blk_new2 (W : World) (o : Obj) (ty : TypeId) (cs : Array Value) : Blk ((W.alloc o).alloc (.cells cs ty)) (W.heap.size + 1) ty cs := by
  have h := Blk.new (W.alloc o) ty cs
  rwa [World.size_alloc] at h
theorem span6_best {l : List Sack} {b : List Take} (hv : validB l b = true) (hl2 : l.length ≤ 2) (hb2 : b.length ≤ 2) : span6 (bestS l b 256) = span6 (wholeS l b) := by
  unfold span6
  rw [best_all hv hl2 hb2 0, best_all hv hl2 hb2 1, best_all hv hl2 hb2 2, best_all hv hl2 hb2 3, best_all hv hl2 hb2 4, best_all hv hl2 hb2 5]
end Go.Proofs.Ytoiggflhfbfiiaa
