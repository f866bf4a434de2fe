/- Walks: a heap of settings: two of them change places. -/
import Derived.Test.YtfpfafijockfnaaXb
import Derived.Test.YtfpfafijockfnaaRg
namespace Go.Proofs.Ytfpfafijockfnaa
open Go.RowKit Go.Shelf

def zS : Setg := ⟨0, 0⟩
def swapS (l : List Setg) (a b : Nat) : List Setg := (l.set a (l.getD b zS)).set b (l.getD a zS)
def rwOf : Option Addr → Option Nat := fun A => A.map (·.block)
/-- A heap in memory. -/
structure HeapAt (W : World) (q : Nat) (A : Option Addr) (c : Nat) (l : List Setg) : Prop where
  kq : Blk W q 154 #[.slice A l.length c, .func (.func 81) #[] #[]]
  row : SetsAt 0 W (.slice A l.length c) l
/-- Nothing else is changed. -/
structure Touch (q : Nat) (A : Option Addr) (W W' : World) : Prop where
  os : W'.os = W.os
  tape : W'.tape = W.tape
  output : W'.output = W.output
  size : W.heap.size ≤ W'.heap.size
  block : ∀ i, i < W.heap.size → i ≠ q → rwOf A ≠ some i → W'.heap[i]? = W.heap[i]?
section
variable {q : Nat} {A A' : Option Addr} {c : Nat} {l : List Setg} {W W' W2 : World}
theorem HeapAt.below (h : HeapAt W q A c l) (hb : Below W.heap.size W W') : HeapAt W' q A c l := ⟨h.kq.below hb h.kq.lt, own_call8 h.row hb⟩
theorem Touch.refl (q : Nat) (A : Option Addr) (W : World) : Touch q A W W := ⟨rfl, rfl, rfl, Nat.le_refl _, fun _ _ _ _ => rfl⟩
theorem Touch.of_below (h : Below W.heap.size W W') : Touch q A W W' := ⟨h.os, h.tape, h.output, h.size, fun i hi _ _ => h.block i hi⟩
theorem Touch.trans (h : Touch q A W W') (h' : Touch q A' W' W2) (hA : A' = A ∨ ∀ i, rwOf A' = some i → W.heap.size ≤ i) : Touch q A W W2 :=
  ⟨h'.os.trans h.os, h'.tape.trans h.tape, h'.output.trans h.output, Nat.le_trans h.size h'.size, fun i hi h1 h2 => (h'.block i (Nat.lt_of_lt_of_le hi h.size) h1 (by
    rcases hA with rfl | hA
    · exact h2
    · intro e; have := hA i e; omega)).trans (h.block i hi h1 h2)⟩
theorem Touch.below {B : Nat} (h : Touch q A W W') (hq : B ≤ q) (hA : ∀ i, rwOf A = some i → B ≤ i) (hB : B ≤ W.heap.size) : Below B W W' :=
  ⟨h.os, h.tape, h.output, h.size, fun i hi => h.block i (by omega) (by omega) (fun e => by have := hA i e; omega)⟩
end
theorem sets_mid {W : World} {g o : Nat} {x y : Value} {t : TypeId} {cs : Array Value} (h : Blk W g t cs) : Blk (W.setCells g o [x, y]) g t ((cs.setIfInBounds o x).setIfInBounds (o + 1) y) := (h.set_ o x).set_ (o + 1) y
theorem sets_far {W : World} {g o : Nat} {x y : Value} {k : Nat} (h : k ≠ g) : (W.setCells g o [x, y]).heap[k]? = W.heap[k]? := (Below.heap_setCell _ ⟨g, o + 1, none⟩ y k h).trans (Below.heap_setCell W ⟨g, o, none⟩ x k h)
theorem sets_size (W : World) (g o : Nat) (x y : Value) : (W.setCells g o [x, y]).heap.size = W.heap.size := by simp [World.setCells]
theorem SetsAt.set {B : Nat} {W : World} {g n c : Nat} {l : List Setg} (h : SetsAt B W (.slice (some ⟨g, 0, none⟩) n c) l) (i : Nat) (hi : i < l.length) (s : Setg) : SetsAt B (W.setCells g (i * 2) [.int .i64 s.side, .int .i64 s.height]) (.slice (some ⟨g, 0, none⟩) n c) (l.set i s) := by
  obtain ⟨h1, ⟨h2, -⟩ | ⟨g', cap, cur, hv, h3, h4, h5, h6, h7, h8⟩⟩ := h
  · cases h2
  · have hg : g' = g := by cases hv; rfl
    subst hg
    refine ⟨by rw [List.length_set, setsV_len, List.length_set], .inr ⟨g', cap, _, by rw [List.length_set]; exact hv, h3, sets_mid h4, by rw [List.length_set]; exact h5, h6, by simpa using h7, ?_⟩⟩
    rw [setsV_set l i s hi, List.length_set, Array.toList_setIfInBounds, Array.toList_setIfInBounds, List.take_set, List.take_set, h8]
theorem there_mid {W : World} {g o : Nat} {t : TypeId} {cs : Array Value} (h : Blk W g t cs) (ho : o + 2 ≤ cs.size) : W.there g o 2 := fun j hj => by
  rw [h.cell, h.frozen]
  refine ⟨?_, rfl⟩
  rw [Array.getElem?_eq_getElem (show o + j < cs.size by omega)]
  rfl
theorem SetsAt.there {B : Nat} {W : World} {g n c : Nat} {l : List Setg} (h : SetsAt B W (.slice (some ⟨g, 0, none⟩) n c) l) (i : Nat) (hi : i < l.length) : W.there g (i * 2) 2 := by
  obtain ⟨h1, ⟨h2, -⟩ | ⟨g', cap, cur, hv, h3, h4, h5, h6, h7, h8⟩⟩ := h
  · cases h2
  · have hg : g' = g := by cases hv; rfl
    subst hg
    refine there_mid h4 ?_
    have := congrArg List.length h8
    rw [List.length_take, setsV_len, Array.length_toList] at this
    omega
def RetSw (q : Nat) (A : Option Addr) (c : Nat) (l : List Setg) (a b : Nat) (W : World) (e : Ending) (W' : World) : Prop :=
  e = .returned (.bool (befB (l.getD b zS) (l.getD a zS))) ∧ HeapAt W' q A c (if befB (l.getD b zS) (l.getD a zS) = true then swapS l a b else l) ∧ Touch q A W W'
theorem HeapAt.swap {W : World} {q g c : Nat} {l : List Setg} (h : HeapAt W q (some ⟨g, 0, none⟩) c l) {a b : Nat} (ha : a < l.length) (hb : b < l.length) {x y : Setg} (hx : l.getD a zS = x) (hy : l.getD b zS = y) :
    HeapAt ((W.setCells g (a * 2) [.int .i64 y.side, .int .i64 y.height]).setCells g (b * 2) [.int .i64 x.side, .int .i64 x.height]) q (some ⟨g, 0, none⟩) c (swapS l a b) ∧ Touch q (some ⟨g, 0, none⟩) W ((W.setCells g (a * 2) [.int .i64 y.side, .int .i64 y.height]).setCells g (b * 2) [.int .i64 x.side, .int .i64 x.height]) := by
  have hl : (swapS l a b).length = l.length := by simp [swapS]
  have hne : q ≠ g := fun e => by
    subst e
    obtain ⟨-, ⟨h2, -⟩ | ⟨g', cap, cur, hv, -, h4, -⟩⟩ := h.row
    · cases h2
    · cases hv
      rw [show W.heap[q]? = _ from h.kq] at h4
      simp at h4
  refine ⟨⟨?_, ?_⟩, rfl, rfl, rfl, by rw [sets_size, sets_size]; exact Nat.le_refl _, fun i _ _ hi => ?_⟩
  · rw [hl]
    exact (sets_far hne).trans ((sets_far hne).trans h.kq)
  · rw [hl]
    have h1 := h.row.set a ha y
    have h2 := h1.set b (by simpa using hb) x
    unfold swapS
    rw [hx, hy]
    exact h2
  · have hig : i ≠ g := fun e => hi (by simp [rwOf, e])
    exact (sets_far hig).trans (sets_far hig)
set_option maxRecDepth 100000 in
set_option maxHeartbeats 2000000 in
theorem swapped5_any (W : World) (q : Nat) (A : Option Addr) (c a b : Nat) (l : List Setg) (hH : HeapAt W q A c l) (ha : a < l.length) (hb : b < l.length) (hin : ∀ s ∈ l, InSet s) (hl : l.length ≤ 10000) :
    Calls Try.prog 102 #[.pointer (some ⟨q, 0, none⟩), .int .i64 (a : Int), .int .i64 (b : Int)] W (RetSw q A c l a b W) := by
  obtain ⟨g, rfl, -, -, hg, -, hc⟩ := hH.row.cells (by intro e; rw [e] at ha; simp at ha)
  have hga : l.getD a zS = l[a] := by simp [List.getD_eq_getElem?_getD, ha]
  have hgb : l.getD b zS = l[b] := by simp [List.getD_eq_getElem?_getD, hb]
  have HSW := Lib.hid fun (V : World) (h : HeapAt V q (some ⟨g, 0, none⟩) c l) => h.swap ha hb hga hgb
  have HTH := Lib.hid fun (V : World) (h : HeapAt V q (some ⟨g, 0, none⟩) c l) => And.intro (h.row.there a ha) (h.row.there b hb)
  have HCE := Lib.hid fun (V : World) (h : HeapAt V q (some ⟨g, 0, none⟩) c l) => (by
    obtain ⟨g', e, -, -, -, -, hc'⟩ := h.row.cells (by intro e; rw [e] at ha; simp at ha)
    cases e
    exact And.intro (hc' a ha) (hc' b hb) : (V.cell? ⟨g, a * 2, none⟩ = some (.int .i64 l[a].side) ∧ V.cell? ⟨g, a * 2 + 1, none⟩ = some (.int .i64 l[a].height)) ∧ (V.cell? ⟨g, b * 2, none⟩ = some (.int .i64 l[b].side) ∧ V.cell? ⟨g, b * 2 + 1, none⟩ = some (.int .i64 l[b].height)))
  have ia := hin l[a] (List.getElem_mem ha)
  have ib := hin l[b] (List.getElem_mem hb)
  have HBF : Hid (∀ V : World, Calls Try.prog 81 #[.agg #[.int .i64 l[b].side, .int .i64 l[b].height], .agg #[.int .i64 l[a].side, .int .i64 l[a].height]] V (Ret (.bool (befB l[b] l[a])) V)) := Lib.hid fun V => by
    obtain ⟨⟨a1, a2⟩, a3, a4⟩ := ia
    obtain ⟨⟨b1, b2⟩, b3, b4⟩ := ib
    exact bef5_any _ _ _ _ V (by omega) (by omega) (by omega) (by omega)
  have HR : Hid (∀ (e : Ending) (V : World), e = .returned (.bool (befB l[b] l[a])) → HeapAt V q (some ⟨g, 0, none⟩) c (if befB l[b] l[a] = true then swapS l a b else l) → Touch q (some ⟨g, 0, none⟩) W V → RetSw q (some ⟨g, 0, none⟩) c l a b W e V) := Lib.hid fun e V h1 h2 h3 => by
    unfold RetSw
    rw [hga, hgb]
    exact ⟨h1, h2, h3⟩
  have HLn := Lib.hid hl
  have ha0 : (0 : Int) ≤ a := by omega
  have ha1 : (a : Int) < l.length := by omega
  have hb0 : (0 : Int) ≤ b := by omega
  have hb1 : (b : Int) < l.length := by omega
  have hl0 : (l.length : Int) ≤ 10000 := by omega
  generalize l[a] = x at *
  generalize l[b] = y at *
  generalize befB y x = bb at *
  have HH := Lib.hid hH
  have HT := Lib.hid (Touch.refl q (some ⟨g, 0, none⟩) W)
  clear hH hc hga hgb ia ib hin hl ha hb
  go_enter Try.func102, Try.ntmps102
  go_wp2_with fail
  replace HH := Lib.hid (HH.out.below (Below.refl _ _).drew)
  replace HT := Lib.hid (HT.out.trans (A' := some ⟨g, 0, none⟩) (.of_below (Below.refl _ _).drew) (.inl rfl))
  refine wp_region_held_drew (S := fun W => Blk W q 154 #[.slice (some ⟨g, 0, none⟩) l.length c, .func (.func 81) #[] #[]] ∧ (W.cell? ⟨g, a * 2, none⟩ = some (.int .i64 x.side) ∧ W.cell? ⟨g, a * 2 + 1, none⟩ = some (.int .i64 x.height)) ∧ (W.cell? ⟨g, b * 2, none⟩ = some (.int .i64 y.side) ∧ W.cell? ⟨g, b * 2 + 1, none⟩ = some (.int .i64 y.height))) (by kernel_rfl) ⟨HH.out.kq, HCE.out _ HH.out⟩ (fun hH0 => ?_)
  generalize World.drew _ = V0 at *
  simp only [List.size_toArray, List.length_cons, List.length_nil, Nat.reduceAdd, Array.replicate_succ, Array.replicate_zero, List.push_toArray, List.nil_append, List.cons_append]
  refine wpAnyH_take (i := 0 ) (v := ?_) rfl (by kernel_rfl) (by kernel_rfl) (by kernel_rfl) (fun _ _ _ h => h) (Or.inl ⟨by rfl, ?_⟩) (by assumption) ?_; rotate_left; (· (intro w0 hSw; obtain ⟨kq, ⟨x0, x1⟩, y0, y1⟩ := hSw; have k0 := kq.cell 0; have k1 := kq.cell 1; clear kq; go_simp); first | done | with_reducible rfl); (try simp only [Act.put, List.getElem_toArray, List.getElem_cons_zero, List.setIfInBounds_toArray, List.set_cons_zero, List.set_cons_succ])
  refine wpAnyH_take (i := 1 ) (v := ?_) rfl (by kernel_rfl) (by kernel_rfl) (by kernel_rfl) (fun _ _ _ h => h) (Or.inl ⟨by rfl, ?_⟩) (by assumption) ?_; rotate_left; (· (intro w0 hSw; obtain ⟨kq, ⟨x0, x1⟩, y0, y1⟩ := hSw; have k0 := kq.cell 0; have k1 := kq.cell 1; clear kq; go_simp); first | done | with_reducible rfl); (try simp only [Act.put, List.getElem_toArray, List.getElem_cons_succ, List.getElem_cons_zero, List.setIfInBounds_toArray, List.set_cons_zero, List.set_cons_succ])
  refine wpAnyH_take (i := 2 ) (v := ?_) rfl (by kernel_rfl) (by kernel_rfl) (by kernel_rfl) (fun _ _ _ h => h) (Or.inl ⟨by rfl, ?_⟩) (by assumption) ?_; rotate_left; (· (intro w0 hSw; obtain ⟨kq, ⟨x0, x1⟩, y0, y1⟩ := hSw; have k0 := kq.cell 0; have k1 := kq.cell 1; clear kq; go_simp); first | done | with_reducible rfl); (try simp only [Act.put, List.getElem_toArray, List.getElem_cons_succ, List.getElem_cons_zero, List.setIfInBounds_toArray, List.set_cons_zero, List.set_cons_succ])
  refine wpAnyH_take (i := 3 ) (v := ?_) rfl (by kernel_rfl) (by kernel_rfl) (by kernel_rfl) (fun _ _ _ h => h) (Or.inl ⟨by rfl, ?_⟩) (by assumption) ?_; rotate_left; (· (intro w0 hSw; obtain ⟨kq, ⟨x0, x1⟩, y0, y1⟩ := hSw; have k0 := kq.cell 0; have k1 := kq.cell 1; clear kq; go_simp); first | done | with_reducible rfl); (try simp only [Act.put, List.getElem_toArray, List.getElem_cons_succ, List.getElem_cons_zero, List.setIfInBounds_toArray, List.set_cons_zero, List.set_cons_succ])
  refine wpAnyH_take (i := 4 ) (v := ?_) rfl (by kernel_rfl) (by kernel_rfl) (by kernel_rfl) (fun _ _ _ h => h) (Or.inl ⟨by rfl, ?_⟩) (by assumption) ?_; rotate_left; (· (intro w0 hSw; obtain ⟨kq, ⟨x0, x1⟩, y0, y1⟩ := hSw; have k0 := kq.cell 0; have k1 := kq.cell 1; clear kq; go_simp); first | done | with_reducible rfl); (try simp only [Act.put, List.getElem_toArray, List.getElem_cons_succ, List.getElem_cons_zero, List.setIfInBounds_toArray, List.set_cons_zero, List.set_cons_succ])
  refine wpAnyH_take (i := 5 ) (v := ?_) rfl (by kernel_rfl) (by kernel_rfl) (by kernel_rfl) (fun _ _ _ h => h) (Or.inl ⟨by rfl, ?_⟩) (by assumption) ?_; rotate_left; (· (intro w0 hSw; obtain ⟨kq, ⟨x0, x1⟩, y0, y1⟩ := hSw; have k0 := kq.cell 0; have k1 := kq.cell 1; clear kq; go_simp); first | done | with_reducible rfl); (try simp only [Act.put, List.getElem_toArray, List.getElem_cons_succ, List.getElem_cons_zero, List.setIfInBounds_toArray, List.set_cons_zero, List.set_cons_succ])
  refine wpAnyH_take (i := 6 ) (v := ?_) rfl (by kernel_rfl) (by kernel_rfl) (by kernel_rfl) (fun _ _ _ h => h) (Or.inl ⟨by rfl, ?_⟩) (by assumption) ?_; rotate_left; (· (intro w0 hSw; obtain ⟨kq, ⟨x0, x1⟩, y0, y1⟩ := hSw; have k0 := kq.cell 0; have k1 := kq.cell 1; clear kq; go_simp); first | done | with_reducible rfl); (try simp only [Act.put, List.getElem_toArray, List.getElem_cons_succ, List.getElem_cons_zero, List.setIfInBounds_toArray, List.set_cons_zero, List.set_cons_succ])
  refine wpAnyH_take (i := 7 ) (v := ?_) rfl (by kernel_rfl) (by kernel_rfl) (by kernel_rfl) (fun _ _ _ h => h) (Or.inl ⟨by rfl, ?_⟩) (by assumption) ?_; rotate_left; (· (intro w0 hSw; obtain ⟨kq, ⟨x0, x1⟩, y0, y1⟩ := hSw; have k0 := kq.cell 0; have k1 := kq.cell 1; clear kq; go_simp); first | done | with_reducible rfl); (try simp only [Act.put, List.getElem_toArray, List.getElem_cons_succ, List.getElem_cons_zero, List.setIfInBounds_toArray, List.set_cons_zero, List.set_cons_succ])
  refine wpAnyH_take (i := 8 ) (v := ?_) rfl (by kernel_rfl) (by kernel_rfl) (by kernel_rfl) (fun _ _ _ h => h) (Or.inl ⟨by rfl, ?_⟩) (by assumption) ?_; rotate_left; (· (intro w0 hSw; obtain ⟨kq, ⟨x0, x1⟩, y0, y1⟩ := hSw; have k0 := kq.cell 0; have k1 := kq.cell 1; clear kq; go_simp); first | done | with_reducible rfl); (try simp only [Act.put, List.getElem_toArray, List.getElem_cons_succ, List.getElem_cons_zero, List.setIfInBounds_toArray, List.set_cons_zero, List.set_cons_succ])
  refine wpAnyH_take (i := 9 ) (v := ?_) rfl (by kernel_rfl) (by kernel_rfl) (by kernel_rfl) (fun _ _ _ h => h) (Or.inl ⟨by rfl, ?_⟩) (by assumption) ?_; rotate_left; (· (intro w0 hSw; obtain ⟨kq, ⟨x0, x1⟩, y0, y1⟩ := hSw; have k0 := kq.cell 0; have k1 := kq.cell 1; clear kq; go_simp); first | done | with_reducible rfl); (try simp only [Act.put, List.getElem_toArray, List.getElem_cons_succ, List.getElem_cons_zero, List.setIfInBounds_toArray, List.set_cons_zero, List.set_cons_succ])
  refine wpAnyH_take (i := 10 ) (v := ?_) rfl (by kernel_rfl) (by kernel_rfl) (by kernel_rfl) (fun _ _ _ h => h) (Or.inl ⟨by rfl, ?_⟩) (by assumption) ?_; rotate_left; (· (intro w0 hSw; obtain ⟨kq, ⟨x0, x1⟩, y0, y1⟩ := hSw; have k0 := kq.cell 0; have k1 := kq.cell 1; clear kq; go_simp); first | done | with_reducible rfl); (try simp only [Act.put, List.getElem_toArray, List.getElem_cons_succ, List.getElem_cons_zero, List.setIfInBounds_toArray, List.set_cons_zero, List.set_cons_succ])
  refine wpAnyH_take (i := 11 ) (v := ?_) rfl (by kernel_rfl) (by kernel_rfl) (by kernel_rfl) (fun _ _ _ h => h) (Or.inl ⟨by rfl, ?_⟩) (by assumption) ?_; rotate_left; (· (intro w0 hSw; obtain ⟨kq, ⟨x0, x1⟩, y0, y1⟩ := hSw; have k0 := kq.cell 0; have k1 := kq.cell 1; clear kq; go_simp); first | done | with_reducible rfl); (try simp only [Act.put, List.getElem_toArray, List.getElem_cons_succ, List.getElem_cons_zero, List.setIfInBounds_toArray, List.set_cons_zero, List.set_cons_succ])
  refine wpAnyH_take (i := 12 ) (v := ?_) rfl (by kernel_rfl) (by kernel_rfl) (by kernel_rfl) (fun _ _ _ h => h) (Or.inl ⟨by rfl, ?_⟩) (by assumption) ?_; rotate_left; (· (intro w0 hSw; obtain ⟨kq, ⟨x0, x1⟩, y0, y1⟩ := hSw; have k0 := kq.cell 0; have k1 := kq.cell 1; clear kq; go_simp); first | done | with_reducible rfl); (try simp only [Act.put, List.getElem_toArray, List.getElem_cons_succ, List.getElem_cons_zero, List.setIfInBounds_toArray, List.set_cons_zero, List.set_cons_succ])
  refine wpAnyH_take (i := 13 ) (v := ?_) rfl (by kernel_rfl) (by kernel_rfl) (by kernel_rfl) (fun _ _ _ h => h) (Or.inl ⟨by rfl, ?_⟩) (by assumption) ?_; rotate_left; (· (intro w0 hSw; obtain ⟨kq, ⟨x0, x1⟩, y0, y1⟩ := hSw; have k0 := kq.cell 0; have k1 := kq.cell 1; clear kq; go_simp); first | done | with_reducible rfl); (try simp only [Act.put, List.getElem_toArray, List.getElem_cons_succ, List.getElem_cons_zero, List.setIfInBounds_toArray, List.set_cons_zero, List.set_cons_succ])
  refine wpAnyH_take (i := 14 ) (v := ?_) rfl (by kernel_rfl) (by kernel_rfl) (by kernel_rfl) (fun _ _ _ h => h) (Or.inl ⟨by rfl, ?_⟩) (by assumption) ?_; rotate_left; (· (intro w0 hSw; obtain ⟨kq, ⟨x0, x1⟩, y0, y1⟩ := hSw; have k0 := kq.cell 0; have k1 := kq.cell 1; clear kq; go_simp); first | done | with_reducible rfl); (try simp only [Act.put, List.getElem_toArray, List.getElem_cons_succ, List.getElem_cons_zero, List.setIfInBounds_toArray, List.set_cons_zero, List.set_cons_succ])
  refine wpAnyH_take (i := 15 ) (v := ?_) rfl (by kernel_rfl) (by kernel_rfl) (by kernel_rfl) (fun _ _ _ h => h) (Or.inl ⟨by rfl, ?_⟩) (by assumption) ?_; rotate_left; (· (intro w0 hSw; obtain ⟨kq, ⟨x0, x1⟩, y0, y1⟩ := hSw; have k0 := kq.cell 0; have k1 := kq.cell 1; clear kq; go_simp); first | done | with_reducible rfl); (try simp only [Act.put, List.getElem_toArray, List.getElem_cons_succ, List.getElem_cons_zero, List.setIfInBounds_toArray, List.set_cons_zero, List.set_cons_succ])
  refine wpAnyH_take (i := 16 ) (v := ?_) rfl (by kernel_rfl) (by kernel_rfl) (by kernel_rfl) (fun _ _ _ h => h) (Or.inl ⟨by rfl, ?_⟩) (by assumption) ?_; rotate_left; (· (intro w0 hSw; obtain ⟨kq, ⟨x0, x1⟩, y0, y1⟩ := hSw; have k0 := kq.cell 0; have k1 := kq.cell 1; clear kq; go_simp); first | done | with_reducible rfl); (try simp only [Act.put, List.getElem_toArray, List.getElem_cons_succ, List.getElem_cons_zero, List.setIfInBounds_toArray, List.set_cons_zero, List.set_cons_succ])
  refine wpAnyH_take (i := 17 ) (v := ?_) rfl (by kernel_rfl) (by kernel_rfl) (by kernel_rfl) (fun _ _ _ h => h) (Or.inl ⟨by rfl, ?_⟩) (by assumption) ?_; rotate_left; (· (intro w0 hSw; obtain ⟨kq, ⟨x0, x1⟩, y0, y1⟩ := hSw; have k0 := kq.cell 0; have k1 := kq.cell 1; clear kq; go_simp); first | done | with_reducible rfl); (try simp only [Act.put, List.getElem_toArray, List.getElem_cons_succ, List.getElem_cons_zero, List.setIfInBounds_toArray, List.set_cons_zero, List.set_cons_succ])
  refine wpAnyH_ready (rs := [18]) (by kernel_rfl) (by simp) ?_
  refine AllReadyH.cons (by simp only [List.getElem?_toArray, List.getElem?_cons_succ, List.getElem?_cons_zero]; rfl) (fun K hK => ?_) AllReadyH.nil
  go_simp
  refine (HBF.out _).mono ?_
  rintro e V1 ⟨rfl, hb⟩
  replace HH := Lib.hid (HH.out.below hb)
  replace HT := Lib.hid (HT.out.trans (A' := some ⟨g, 0, none⟩) (.of_below hb) (.inl rfl))
  clear hb
  refine hK.out _ _ ⟨HH.out.kq, HCE.out _ HH.out⟩ (fun hH1 => ?_)
  clear hK K
  try simp only [List.setIfInBounds_toArray, List.set_cons_zero, List.set_cons_succ]
  refine wpAnyH_take (i := 19 ) (v := ?_) rfl (by kernel_rfl) (by kernel_rfl) (by kernel_rfl) (fun _ _ _ h => h) (Or.inl ⟨by rfl, ?_⟩) (by assumption) ?_; rotate_left; (· (intro w0 hSw; obtain ⟨kq, ⟨x0, x1⟩, y0, y1⟩ := hSw; have k0 := kq.cell 0; have k1 := kq.cell 1; clear kq; go_simp); first | done | with_reducible rfl); (try simp only [Act.put, List.getElem_toArray, List.getElem_cons_succ, List.getElem_cons_zero, List.setIfInBounds_toArray, List.set_cons_zero, List.set_cons_succ])
  refine wpAnyH_done (by kernel_rfl) ?_ _
  cases bb with
  | false =>
    go_wp2_with fail
    go_ret
    exact HR.out _ _ rfl HH.out HT.out
  | true =>
    have k0 := HH.out.kq.cell 0
    obtain ⟨⟨x0, x1⟩, y0, y1⟩ := HCE.out _ HH.out
    have HTA := Lib.hid fun (V : World) (h : HeapAt V q (some ⟨g, 0, none⟩) c l) => HTH.out V h
    clear HTH k0 x0 x1 y0 y1
    go_wp2_with fail
    replace HH := Lib.hid (HH.out.below (Below.refl _ _).drew)
    replace HT := Lib.hid (HT.out.trans (A' := some ⟨g, 0, none⟩) (.of_below (Below.refl _ _).drew) (.inl rfl))
    refine C_begin (S := fun W => Blk W q 154 #[.slice (some ⟨g, 0, none⟩) l.length c, .func (.func 81) #[] #[]] ∧ (W.cell? ⟨g, a * 2, none⟩ = some (.int .i64 x.side) ∧ W.cell? ⟨g, a * 2 + 1, none⟩ = some (.int .i64 x.height)) ∧ (W.cell? ⟨g, b * 2, none⟩ = some (.int .i64 y.side) ∧ W.cell? ⟨g, b * 2 + 1, none⟩ = some (.int .i64 y.height))) (c := 25) (by kernel_rfl) ?_
    generalize World.drew _ = V0 at *
    have hSd := (show (fun W => Blk W q 154 #[.slice (some ⟨g, 0, none⟩) l.length c, .func (.func 81) #[] #[]] ∧ (W.cell? ⟨g, a * 2, none⟩ = some (.int .i64 x.side) ∧ W.cell? ⟨g, a * 2 + 1, none⟩ = some (.int .i64 x.height)) ∧ (W.cell? ⟨g, b * 2, none⟩ = some (.int .i64 y.side) ∧ W.cell? ⟨g, b * 2 + 1, none⟩ = some (.int .i64 y.height))) V0 from ⟨HH.out.kq, HCE.out _ HH.out⟩)
    refine C_take (i := 0) (v := ?v3_0) rfl (by kernel_rfl) (fun _ _ _ h => h) (Or.inl ⟨by rfl, ?y3_0⟩) (Or.inr hSd) ?r3_0
    case y3_0 => (intro w0 _; go_simp; try with_reducible rfl)
    try simp only [Act.put, List.getElem_toArray, List.getElem_cons_zero, List.setIfInBounds_toArray, List.set_cons_zero, List.set_cons_succ]
    refine C_take (i := 1) (v := ?v3_1) rfl (by kernel_rfl) (fun _ _ _ h => h) (Or.inl ⟨by rfl, ?y3_1⟩) (Or.inr hSd) ?r3_1
    case y3_1 => (intro w0 _; go_simp; try with_reducible rfl)
    try simp only [Act.put, List.getElem_toArray, List.getElem_cons_succ, List.getElem_cons_zero, List.setIfInBounds_toArray, List.set_cons_zero, List.set_cons_succ]
    refine C_take (i := 2) (v := ?v3_2) rfl (by kernel_rfl) (fun _ _ _ h => h) (Or.inl ⟨by rfl, ?y3_2⟩) (Or.inr hSd) ?r3_2
    case y3_2 => (intro w0 _; go_simp; try with_reducible rfl)
    try simp only [Act.put, List.getElem_toArray, List.getElem_cons_succ, List.getElem_cons_zero, List.setIfInBounds_toArray, List.set_cons_zero, List.set_cons_succ]
    refine C_load (i := 3) (v := ?v3_3) [25] rfl (by kernel_rfl) (fun _ _ _ h => h) (Or.inl ⟨by rfl, ?y3_3⟩) hSd ?r3_3
    case y3_3 => ((intro w0 hSw; obtain ⟨kq, ⟨x0, x1⟩, y0, y1⟩ := hSw; have k0 := kq.cell 0; have k1 := kq.cell 1; clear kq; go_simp); try with_reducible rfl)
    try simp only [Act.put, List.getElem_toArray, List.getElem_cons_succ, List.getElem_cons_zero, List.setIfInBounds_toArray, List.set_cons_zero, List.set_cons_succ]
    refine C_take (i := 4) (v := ?v3_4) rfl (by kernel_rfl) (fun _ _ _ h => h) (Or.inl ⟨by rfl, ?y3_4⟩) (Or.inr hSd) ?r3_4
    case y3_4 => (intro w0 _; go_simp; try with_reducible rfl)
    try simp only [Act.put, List.getElem_toArray, List.getElem_cons_succ, List.getElem_cons_zero, List.setIfInBounds_toArray, List.set_cons_zero, List.set_cons_succ]
    refine C_take (i := 5) (v := ?v3_5) rfl (by kernel_rfl) (fun _ _ _ h => h) (Or.inl ⟨by rfl, ?y3_5⟩) (Or.inr hSd) ?r3_5
    case y3_5 => (intro w0 _; go_simp; try with_reducible rfl)
    try simp only [Act.put, List.getElem_toArray, List.getElem_cons_succ, List.getElem_cons_zero, List.setIfInBounds_toArray, List.set_cons_zero, List.set_cons_succ]
    refine C_take (i := 6) (v := ?v3_6) rfl (by kernel_rfl) (fun _ _ _ h => h) (Or.inl ⟨by rfl, ?y3_6⟩) (Or.inr hSd) ?r3_6
    case y3_6 => (intro w0 _; go_simp; try with_reducible rfl)
    try simp only [Act.put, List.getElem_toArray, List.getElem_cons_succ, List.getElem_cons_zero, List.setIfInBounds_toArray, List.set_cons_zero, List.set_cons_succ]
    refine C_take (i := 7) (v := ?v3_7) rfl (by kernel_rfl) (fun _ _ _ h => h) (Or.inl ⟨by rfl, ?y3_7⟩) (Or.inr hSd) ?r3_7
    case y3_7 => (intro w0 _; go_simp; try with_reducible rfl)
    try simp only [Act.put, List.getElem_toArray, List.getElem_cons_succ, List.getElem_cons_zero, List.setIfInBounds_toArray, List.set_cons_zero, List.set_cons_succ]
    refine C_load (i := 8) (v := ?v3_8) [25] rfl (by kernel_rfl) (fun _ _ _ h => h) (Or.inl ⟨by rfl, ?y3_8⟩) hSd ?r3_8
    case y3_8 => ((intro w0 hSw; obtain ⟨kq, ⟨x0, x1⟩, y0, y1⟩ := hSw; have k0 := kq.cell 0; have k1 := kq.cell 1; clear kq; go_simp); try with_reducible rfl)
    try simp only [Act.put, List.getElem_toArray, List.getElem_cons_succ, List.getElem_cons_zero, List.setIfInBounds_toArray, List.set_cons_zero, List.set_cons_succ]
    refine C_take (i := 9) (v := ?v3_9) rfl (by kernel_rfl) (fun _ _ _ h => h) (Or.inl ⟨by rfl, ?y3_9⟩) (Or.inr hSd) ?r3_9
    case y3_9 => (intro w0 _; go_simp; try with_reducible rfl)
    try simp only [Act.put, List.getElem_toArray, List.getElem_cons_succ, List.getElem_cons_zero, List.setIfInBounds_toArray, List.set_cons_zero, List.set_cons_succ]
    refine C_take (i := 10) (v := ?v3_10) rfl (by kernel_rfl) (fun _ _ _ h => h) (Or.inl ⟨by rfl, ?y3_10⟩) (Or.inr hSd) ?r3_10
    case y3_10 => (intro w0 _; go_simp; try with_reducible rfl)
    try simp only [Act.put, List.getElem_toArray, List.getElem_cons_succ, List.getElem_cons_zero, List.setIfInBounds_toArray, List.set_cons_zero, List.set_cons_succ]
    refine C_take (i := 11) (v := ?v3_11) rfl (by kernel_rfl) (fun _ _ _ h => h) (Or.inl ⟨by rfl, ?y3_11⟩) (Or.inr hSd) ?r3_11
    case y3_11 => (intro w0 _; go_simp; try with_reducible rfl)
    try simp only [Act.put, List.getElem_toArray, List.getElem_cons_succ, List.getElem_cons_zero, List.setIfInBounds_toArray, List.set_cons_zero, List.set_cons_succ]
    refine C_take (i := 12) (v := ?v3_12) rfl (by kernel_rfl) (fun _ _ _ h => h) (Or.inl ⟨by rfl, ?y3_12⟩) (Or.inr hSd) ?r3_12
    case y3_12 => (intro w0 _; go_simp; try with_reducible rfl)
    try simp only [Act.put, List.getElem_toArray, List.getElem_cons_succ, List.getElem_cons_zero, List.setIfInBounds_toArray, List.set_cons_zero, List.set_cons_succ]
    refine C_load (i := 13) (v := ?v3_13) [25] rfl (by kernel_rfl) (fun _ _ _ h => h) (Or.inl ⟨by rfl, ?y3_13⟩) hSd ?r3_13
    case y3_13 => ((intro w0 hSw; obtain ⟨kq, ⟨x0, x1⟩, y0, y1⟩ := hSw; have k0 := kq.cell 0; have k1 := kq.cell 1; clear kq; go_simp); try with_reducible rfl)
    try simp only [Act.put, List.getElem_toArray, List.getElem_cons_succ, List.getElem_cons_zero, List.setIfInBounds_toArray, List.set_cons_zero, List.set_cons_succ]
    refine C_take (i := 14) (v := ?v3_14) rfl (by kernel_rfl) (fun _ _ _ h => h) (Or.inl ⟨by rfl, ?y3_14⟩) (Or.inr hSd) ?r3_14
    case y3_14 => (intro w0 _; go_simp; try with_reducible rfl)
    try simp only [Act.put, List.getElem_toArray, List.getElem_cons_succ, List.getElem_cons_zero, List.setIfInBounds_toArray, List.set_cons_zero, List.set_cons_succ]
    refine C_take (i := 15) (v := ?v3_15) rfl (by kernel_rfl) (fun _ _ _ h => h) (Or.inl ⟨by rfl, ?y3_15⟩) (Or.inr hSd) ?r3_15
    case y3_15 => (intro w0 _; go_simp; try with_reducible rfl)
    try simp only [Act.put, List.getElem_toArray, List.getElem_cons_succ, List.getElem_cons_zero, List.setIfInBounds_toArray, List.set_cons_zero, List.set_cons_succ]
    refine C_load (i := 16) (v := ?v3_16) [25] rfl (by kernel_rfl) (fun _ _ _ h => h) (Or.inl ⟨by rfl, ?y3_16⟩) hSd ?r3_16
    case y3_16 => ((intro w0 hSw; obtain ⟨kq, ⟨x0, x1⟩, y0, y1⟩ := hSw; have k0 := kq.cell 0; have k1 := kq.cell 1; clear kq; go_simp); try with_reducible rfl)
    try simp only [Act.put, List.getElem_toArray, List.getElem_cons_succ, List.getElem_cons_zero, List.setIfInBounds_toArray, List.set_cons_zero, List.set_cons_succ]
    refine C_take (i := 17) (v := ?v3_17) rfl (by kernel_rfl) (fun _ _ _ h => h) (Or.inl ⟨by rfl, ?y3_17⟩) (Or.inr hSd) ?r3_17
    case y3_17 => (intro w0 _; go_simp; try with_reducible rfl)
    try simp only [Act.put, List.getElem_toArray, List.getElem_cons_succ, List.getElem_cons_zero, List.setIfInBounds_toArray, List.set_cons_zero, List.set_cons_succ]
    refine C_take (i := 18) (v := ?v3_18) rfl (by kernel_rfl) (fun _ _ _ h => h) (Or.inl ⟨by rfl, ?y3_18⟩) (Or.inr hSd) ?r3_18
    case y3_18 => (intro w0 _; go_simp; try with_reducible rfl)
    try simp only [Act.put, List.getElem_toArray, List.getElem_cons_succ, List.getElem_cons_zero, List.setIfInBounds_toArray, List.set_cons_zero, List.set_cons_succ]
    refine C_take (i := 19) (v := ?v3_19) rfl (by kernel_rfl) (fun _ _ _ h => h) (Or.inl ⟨by rfl, ?y3_19⟩) (Or.inr hSd) ?r3_19
    case y3_19 => (intro w0 _; go_simp; try with_reducible rfl)
    try simp only [Act.put, List.getElem_toArray, List.getElem_cons_succ, List.getElem_cons_zero, List.setIfInBounds_toArray, List.set_cons_zero, List.set_cons_succ]
    refine C_load (i := 20) (v := ?v3_20) [25] rfl (by kernel_rfl) (fun _ _ _ h => h) (Or.inl ⟨by rfl, ?y3_20⟩) hSd ?r3_20
    case y3_20 => ((intro w0 hSw; obtain ⟨kq, ⟨x0, x1⟩, y0, y1⟩ := hSw; have k0 := kq.cell 0; have k1 := kq.cell 1; clear kq; go_simp); try with_reducible rfl)
    try simp only [Act.put, List.getElem_toArray, List.getElem_cons_succ, List.getElem_cons_zero, List.setIfInBounds_toArray, List.set_cons_zero, List.set_cons_succ]
    refine C_take (i := 21) (v := ?v3_21) rfl (by kernel_rfl) (fun _ _ _ h => h) (Or.inl ⟨by rfl, ?y3_21⟩) (Or.inr hSd) ?r3_21
    case y3_21 => (intro w0 _; go_simp; try with_reducible rfl)
    try simp only [Act.put, List.getElem_toArray, List.getElem_cons_succ, List.getElem_cons_zero, List.setIfInBounds_toArray, List.set_cons_zero, List.set_cons_succ]
    refine C_take (i := 22) (v := ?v3_22) rfl (by kernel_rfl) (fun _ _ _ h => h) (Or.inl ⟨by rfl, ?y3_22⟩) (Or.inr hSd) ?r3_22
    case y3_22 => (intro w0 _; go_simp; try with_reducible rfl)
    try simp only [Act.put, List.getElem_toArray, List.getElem_cons_succ, List.getElem_cons_zero, List.setIfInBounds_toArray, List.set_cons_zero, List.set_cons_succ]
    refine C_load (i := 23) (v := ?v3_23) [25] rfl (by kernel_rfl) (fun _ _ _ h => h) (Or.inl ⟨by rfl, ?y3_23⟩) hSd ?r3_23
    case y3_23 => ((intro w0 hSw; obtain ⟨kq, ⟨x0, x1⟩, y0, y1⟩ := hSw; have k0 := kq.cell 0; have k1 := kq.cell 1; clear kq; go_simp); try with_reducible rfl)
    try simp only [Act.put, List.getElem_toArray, List.getElem_cons_succ, List.getElem_cons_zero, List.setIfInBounds_toArray, List.set_cons_zero, List.set_cons_succ]
    refine C_take (i := 24) (v := ?v3_24) rfl (by kernel_rfl) (fun _ _ _ h => h) (Or.inl ⟨by rfl, ?y3_24⟩) (Or.inr hSd) ?r3_24
    case y3_24 => (intro w0 _; go_simp; try with_reducible rfl)
    try simp only [Act.put, List.getElem_toArray, List.getElem_cons_succ, List.getElem_cons_zero, List.setIfInBounds_toArray, List.set_cons_zero, List.set_cons_succ]
    refine C_one (i := 25) rfl (by kernel_rfl) (fun K hK => ?_)
    rw [if_pos (by rfl)]
    refine wp_store_mid 102 (.tmp 51) (.tmp 43) (by rfl) g (a * 2) #[.int .i64 y.side, .int .i64 y.height] (by rfl) (by rfl) (HTA.out _ HH.out).1 (by kernel_rfl) (by simp [Value.oneCell']) ?_
    refine hK _ _ (.inl (by kernel_rfl)) ?_
    clear hK K
    try clear hSd
    try simp only [Act.put, List.getElem_toArray, List.getElem_cons_succ, List.getElem_cons_zero]
    refine C_take (i := 26) (v := ?v3_26) rfl (by kernel_rfl) (fun _ _ _ h => h) (Or.inl ⟨by rfl, ?y3_26⟩) (Or.inl (by kernel_rfl)) ?r3_26
    case y3_26 => (intro w0 _; go_simp; try with_reducible rfl)
    try simp only [Act.put, List.getElem_toArray, List.getElem_cons_succ, List.getElem_cons_zero, List.setIfInBounds_toArray, List.set_cons_zero, List.set_cons_succ]
    refine C_one (i := 27) rfl (by kernel_rfl) (fun K hK => ?_)
    rw [if_pos (by rfl)]
    refine wp_store_mid 102 (.tmp 52) (.tmp 50) (by rfl) g (b * 2) #[.int .i64 x.side, .int .i64 x.height] (by rfl) (by rfl) (World.there_setCells (HTA.out _ HH.out).2 _ _ _) (by kernel_rfl) (by simp [Value.oneCell']) ?_
    refine hK _ _ (.inl (by kernel_rfl)) ?_
    clear hK K
    try simp only [Act.put, List.getElem_toArray, List.getElem_cons_succ, List.getElem_cons_zero]
    refine C_done (by kernel_rfl) ?_ _
    go_wp2_with fail
    go_ret
    have h9 := HSW.out _ HH.out
    exact HR.out _ _ rfl h9.1 (HT.out.trans h9.2 (.inl rfl))
end Go.Proofs.Ytfpfafijockfnaa