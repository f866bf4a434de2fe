/- Walks: the search for the best setting. -/
import Derived.Test.YtfpfafijockfnaaXp
import Derived.Test.YtfpfafijockfnaaSn
import Derived.Deep.LoopGhost
namespace Go.Proofs.Ytfpfafijockfnaa
open Go.RowKit Go.Shelf

def LeadSl (W : World) (B : Nat) (A : Option Addr) (l : List Lead) : Prop := l ≠ [] → ∃ g, A = some ⟨g, 0, none⟩ ∧ g < B ∧ LdRow W g l
/-- What lies in the boxes of the search. -/
structure BeS (w : World) (bs : Setg) (b : Nat) (s : Setg) (A : Option Addr) (c : Nat) (h : List Setg) (W : World) : Prop where
  hb : Below w.heap.size w W
  k4 : Blk W w.heap.size 102 #[.int .i64 bs.side, .int .i64 bs.height]
  kb : Blk W b 102 #[.int .i64 s.side, .int .i64 s.height]
  hq : HeapAt W (w.heap.size + 1) A c h
  bq : w.heap.size + 1 < b
  ra : ∀ i, rwOf A = some i → w.heap.size + 1 < i ∧ i ≠ b
theorem HeapAt.rlt {W : World} {q c : Nat} {A : Option Addr} {l : List Setg} (h : HeapAt W q A c l) : ∀ i, rwOf A = some i → i < W.heap.size := fun i hi => by
  rcases h.row.2 with ⟨hv, -⟩ | ⟨g', cap, cur, hv, -, h4, -⟩
  · rw [Value.slice.injEq] at hv; rw [hv.1] at hi; simp [rwOf] at hi
  · rw [Value.slice.injEq] at hv
    rw [hv.1] at hi
    have : g' = i := by simpa [rwOf] using hi
    subst this
    exact (Array.getElem?_eq_some_iff.1 h4).1
section
variable {w : World} {bs : Setg} {b : Nat} {s : Setg} {A A' : Option Addr} {c c' : Nat} {h h' : List Setg} {W W' : World}
theorem BeS.call (x : BeS w bs b s A c h W) (hb : Below W.heap.size W W') : BeS w bs b s A c h W' :=
  ⟨x.hb.trans (hb.mono x.hb.size), x.k4.below hb x.k4.lt, x.kb.below hb x.kb.lt, x.hq.below hb, x.bq, x.ra⟩
theorem BeS.touch (x : BeS w bs b s A c h W) (hh : HeapAt W' (w.heap.size + 1) A' c' h') (ht : Touch (w.heap.size + 1) A W W') (hn : NewRow A A' W) : BeS w bs b s A' c' h' W' := by
  have h4 := x.k4.lt
  have hbl := x.kb.lt
  have hbq := x.bq
  refine ⟨x.hb.trans (ht.below (by omega) (fun i hi => by have := (x.ra i hi).1; omega) x.hb.size), ?_, ?_, hh, x.bq, fun i hi => ?_⟩
  · exact (ht.block _ h4 (by omega) (fun e => by have := (x.ra _ e).1; omega)).trans x.k4
  · exact (ht.block _ hbl (by omega) (fun e => (x.ra _ e).2 rfl)).trans x.kb
  · rcases hn with rfl | hn
    · exact x.ra i hi
    · have := hn i hi
      have := x.hq.kq.lt
      omega
theorem BeS.newb (x : BeS w bs b s A c h W) (s' : Setg) : BeS w bs W.heap.size s' A c h (W.alloc (.cells #[.int .i64 s'.side, .int .i64 s'.height] 102)) := by
  have hb : Below W.heap.size W (W.alloc (.cells #[.int .i64 s'.side, .int .i64 s'.height] 102)) := (Below.refl _ _).alloc (Nat.le_refl _) _
  refine ⟨x.hb.trans (hb.mono x.hb.size), x.k4.below hb x.k4.lt, Blk.new _ _ _, x.hq.below hb, ?_, fun i hi => ⟨(x.ra i hi).1, ?_⟩⟩
  · have := x.bq; have := x.kb.lt; omega
  · have := x.hq.rlt i hi; omega
theorem HeapAt.farset {W : World} {q c b : Nat} {A : Option Addr} {l : List Setg} {x y : Value} (h : HeapAt W q A c l) (hq : q ≠ b) (hr : rwOf A ≠ some b) : HeapAt (W.setCells b 0 [x, y]) q A c l := by
  refine ⟨(sets_far hq).trans h.kq, h.row.1, h.row.2.imp id fun ⟨g', cap, cur, hv, h3, h4, h5⟩ => ⟨g', cap, cur, hv, h3, (sets_far fun e => hr ?_).trans h4, h5⟩⟩
  rw [Value.slice.injEq] at hv
  rw [hv.1, ← e]
  rfl
theorem below_sets {B g : Nat} {x y : Value} (h : Below B w W) (hg : B ≤ g) : Below B w (W.setCells g 0 [x, y]) := (h.setCell (p := ⟨g, 0, none⟩) hg x).setCell (p := ⟨g, 0 + 1, none⟩) hg y
theorem BeS.setb (x : BeS w bs b s A c h W) (s' : Setg) : BeS w bs b s' A c h (W.setCells b 0 [.int .i64 s'.side, .int .i64 s'.height]) := by
  have hbq := x.bq
  exact ⟨below_sets x.hb (by omega), (sets_far (by omega)).trans x.k4, sets_mid x.kb, x.hq.farset (by omega) (fun e => (x.ra _ e).2 rfl), x.bq, x.ra⟩
theorem BeS.set4 (x : BeS w bs b s A c h W) (s' : Setg) : BeS w s' b s A c h (W.setCells w.heap.size 0 [.int .i64 s'.side, .int .i64 s'.height]) := by
  have hbq := x.bq
  exact ⟨below_sets x.hb (Nat.le_refl _), sets_mid x.k4, (sets_far (by omega)).trans x.kb, x.hq.farset (by omega) (fun e => by have := (x.ra _ e).1; omega), x.bq, x.ra⟩
end
/-- The settings that are a step further, in a row apart from the heap's. -/
structure FrS (q : Nat) (A AF : Option Addr) (cF : Nat) (F : List Setg) (W : World) : Prop where
  row : SetsAt 0 W (.slice AF F.length cF) F
  ne : ∀ i, rwOf AF = some i → i ≠ q ∧ rwOf A ≠ some i ∧ i < W.heap.size
theorem FrS.call {q : Nat} {A AF : Option Addr} {cF : Nat} {F : List Setg} {W W' : World} (x : FrS q A AF cF F W) (hb : Below W.heap.size W W') : FrS q A AF cF F W' :=
  ⟨own_call8 x.row hb, fun i hi => ⟨(x.ne i hi).1, (x.ne i hi).2.1, Nat.lt_of_lt_of_le (x.ne i hi).2.2 hb.size⟩⟩
theorem FrS.touch {q : Nat} {A A' AF : Option Addr} {cF : Nat} {F : List Setg} {W W' : World} (x : FrS q A AF cF F W) (ht : Touch q A W W') (hn : NewRow A A' W) : FrS q A' AF cF F W' := by
  have hrow : SetsAt 0 W' (.slice AF F.length cF) F := by
    obtain ⟨h1, h2 | ⟨g', cap, cur, hv, h3, h4, h5⟩⟩ := x.row
    · exact ⟨h1, .inl h2⟩
    · have hv2 := hv
      rw [Value.slice.injEq] at hv2
      have h6 := x.ne g' (by rw [hv2.1]; rfl)
      exact ⟨h1, .inr ⟨g', cap, cur, hv, h3, (ht.block g' h6.2.2 h6.1 h6.2.1).trans h4, h5⟩⟩
  refine ⟨hrow, fun i hi => ?_⟩
  have h6 := x.ne i hi
  refine ⟨h6.1, ?_, Nat.lt_of_lt_of_le h6.2.2 ht.size⟩
  rcases hn with rfl | hn
  · exact h6.2.1
  · intro e; have := hn i e; omega
theorem FrS.of {q : Nat} {A AF : Option Addr} {cF : Nat} {F : List Setg} {W W' : World} (h : SetsAt W.heap.size W' (.slice AF F.length cF) F) (hq : q < W.heap.size) (hA : ∀ i, rwOf A = some i → i < W.heap.size) : FrS q A AF cF F W' := by
  refine ⟨own_low8 h (Nat.zero_le _), fun i hi => ?_⟩
  rcases h.2 with ⟨hv, -⟩ | ⟨g', cap, cur, hv, h3, h4, -⟩
  · rw [Value.slice.injEq] at hv; rw [hv.1] at hi; simp [rwOf] at hi
  · rw [Value.slice.injEq] at hv
    rw [hv.1] at hi
    have : g' = i := by simpa [rwOf] using hi
    subst this
    exact ⟨by omega, fun e => by have := hA _ e; omega, (Array.getElem?_eq_some_iff.1 h4).1⟩
theorem FrS.cell {q : Nat} {A AF : Option Addr} {cF : Nat} {F : List Setg} {W : World} (x : FrS q A AF cF F W) {j : Nat} (hj : j < F.length) : ∃ g, AF = some ⟨g, 0, none⟩ ∧ W.cell? ⟨g, j * 2, none⟩ = some (.int .i64 F[j].side) ∧ W.cell? ⟨g, j * 2 + 1, none⟩ = some (.int .i64 F[j].height) := by
  obtain ⟨g, e, -, -, -, -, hc⟩ := x.row.cells (by intro e; rw [e] at hj; simp at hj)
  exact ⟨g, e, hc j hj⟩
theorem furL_len (s : Setg) : (furL s).length ≤ 4 := by
  unfold furL
  have h1 := outL_len s.side
  have h2 := outL_len s.height
  split <;> simp <;> omega
/-- How many of the first ones are not within. -/
def missL (leads : List Lead) (lim : Int) (s : Setg) (j : Nat) : Nat := ((leads.take j).filter fun l => !leadIn (aftL l s) lim).length
theorem miss_succ {leads : List Lead} {lim : Int} {s : Setg} {j : Nat} (h : j < leads.length) : missL leads lim s (j + 1) = missL leads lim s j + (if leadIn (aftL leads[j] s) lim = true then 0 else 1) := by
  unfold missL
  rw [List.take_succ_eq_append_getElem h, List.filter_append, List.length_append]
  cases hl : leadIn (aftL leads[j] s) lim <;> simp [hl]
theorem miss_cnt (leads : List Lead) (lim : Int) (s : Setg) : cntL leads lim s + missL leads lim s leads.length = leads.length := by
  unfold cntL missL
  rw [List.take_length]
  induction leads with
  | nil => rfl
  | cons l r ih =>
    cases hl : leadIn (aftL l s) lim <;> simp [hl] <;> omega
theorem miss_le (leads : List Lead) (lim : Int) (s : Setg) (j : Nat) : missL leads lim s j ≤ missL leads lim s leads.length := by
  unfold missL
  rw [List.take_length]
  conv => rhs; rw [← List.take_append_drop j leads]
  rw [List.filter_append, List.length_append]
  omega
theorem miss_lt (leads : List Lead) (lim : Int) (s : Setg) (j : Nat) (h : j ≤ leads.length) : missL leads lim s j ≤ j := by
  unfold missL
  refine Nat.le_trans (List.length_filter_le _ _) ?_
  rw [List.length_take]
  omega
theorem bestT_none (leads : List Lead) (lim : Int) (f : Nat) (h : List Setg) (b : Setg) (m : Int) : bestT leads lim f none h b m = (b, m) := by cases f <;> rfl
theorem bestT_end (leads : List Lead) (lim : Int) (f : Nat) (s : Setg) (h : List Setg) (b : Setg) {m : Int} (hm : ¬ m < leads.length) : bestT leads lim f (some s) h b m = (b, m) := by
  cases f with
  | zero => rfl
  | succ f => exact if_neg hm
def wtO : Option Setg → Nat
  | none => 0
  | some s => wtS s
/-- One step of the search. -/
theorem bestT_step {leads : List Lead} {lim : Int} {f : Nat} {s : Setg} {h : List Setg} {b : Setg} {m : Int} (hm : m < leads.length) (hs : InSet s) (hf : wtS s + sumW h ≤ f) : ∃ f', f = f' + 1 ∧ sumW (putAll h (furL s)) ≤ f' ∧
    bestT leads lim f (some s) h b m = (if putAll h (furL s) = [] then bestT leads lim f' none [] (if m < (cntL leads lim s : Int) then s else b) (max m (cntL leads lim s : Int))
       else bestT leads lim f' (some ((putAll h (furL s)).getD 0 zS)) (leftH (putAll h (furL s))) (if m < (cntL leads lim s : Int) then s else b) (max m (cntL leads lim s : Int))) := by
  have hw := wt_pos hs
  cases f with
  | zero => omega
  | succ f =>
    refine ⟨f, rfl, ?_, if_pos hm⟩
    rw [putAll_sum]
    have := fur_sum hs
    omega
/-- Between two rounds of the search. -/
structure RoS (w : World) (leads : List Lead) (lim : Int) (R : Setg × Int) (f : Nat) (bs : Setg) (m : Int) (b : Nat) (cur : Option Setg) (A : Option Addr) (c : Nat) (h : List Setg) (W : World) : Prop where
  be : BeS w bs b (cur.getD zS) A c h W
  goal : bestT leads lim f cur h bs m = R
  pot : wtO cur + sumW h ≤ f
  hin : ∀ s ∈ h, InSet s
  cin : ∀ s, cur = some s → InSet s
  m0 : -1 ≤ m
  m1 : m ≤ leads.length
  f1 : f ≤ 7000
theorem RoS.len {w : World} {leads : List Lead} {lim : Int} {R : Setg × Int} {f : Nat} {bs : Setg} {m : Int} {b : Nat} {cur : Option Setg} {A : Option Addr} {c : Nat} {h : List Setg} {W : World} (x : RoS w leads lim R f bs m b cur A c h W) : h.length ≤ 7000 := by
  have := len_le_sum h x.hin
  have := x.pot
  have := x.f1
  omega
def RetBe (R : Setg × Int) (w : World) (e : Ending) (w' : World) : Prop := e = .returned (.tuple #[.agg #[.int .i64 R.1.side, .int .i64 R.1.height], .int .i64 R.2]) ∧ Below w.heap.size w w'
/-- What follows a step: the next setting is taken. -/
theorem RoS.next {w : World} {leads : List Lead} {lim : Int} {R : Setg × Int} {f' : Nat} {bs : Setg} {m : Int} {b' : Nat} {s : Setg} {A : Option Addr} {c : Nat} {h : List Setg} {V V' : World} {e : Ending}
    (hR : (if h = [] then bestT leads lim f' none [] bs m else bestT leads lim f' (some (h.getD 0 zS)) (leftH h) bs m) = R) (hp : sumW h ≤ f') (hi : ∀ s ∈ h, InSet s)
    (hb : BeS w bs b' s A c h V) (ht : RetTk (w.heap.size + 1) A c h V e V') : ∃ cur h', e = .returned (.tuple #[.agg #[.int .i64 (cur.getD zS).side, .int .i64 (cur.getD zS).height], .bool cur.isSome]) ∧
      BeS w bs b' s A c h' V' ∧ bestT leads lim f' cur h' bs m = R ∧ wtO cur + sumW h' ≤ f' ∧ (∀ s ∈ h', InSet s) ∧ (∀ s, cur = some s → InSet s) := by
  rcases ht with ⟨he, rfl, hh, ht⟩ | ⟨hne, rfl, hh, ht⟩
  · subst he
    rw [if_pos rfl] at hR
    exact ⟨none, [], rfl, hb.touch hh ht (.inl rfl), hR, by simp [wtO, sumW], hi, fun s h => by cases h⟩
  · rw [if_neg hne] at hR
    refine ⟨some (h.getD 0 zS), leftH h, rfl, hb.touch hh ht (.inl rfl), hR, ?_, leftH_in hne hi, fun s e => ?_⟩
    · have := leftH_sum hne
      show wtS (h.getD 0 zS) + sumW (leftH h) ≤ f'
      omega
    · cases e
      exact in_getD hi (List.length_pos_iff.2 hne)
end Go.Proofs.Ytfpfafijockfnaa
