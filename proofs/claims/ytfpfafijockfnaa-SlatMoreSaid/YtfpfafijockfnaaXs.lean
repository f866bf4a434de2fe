/- Walks: a heap of settings: the first one sinks. -/
import Derived.Test.YtfpfafijockfnaaXh
namespace Go.Proofs.Ytfpfafijockfnaa
open Go.RowKit Go.Shelf

def nextH (l : List Setg) (i : Nat) : Nat := if 2 * i + 2 < l.length ∧ befB (l.getD (2 * i + 2) zS) (l.getD (2 * i + 1) zS) = true then 2 * i + 2 else 2 * i + 1
def sinkH : Nat → List Setg → Nat → List Setg
  | 0, l, _ => l
  | f + 1, l, i => if 2 * i + 1 < l.length then (if befB (l.getD (nextH l i) zS) (l.getD i zS) = true then sinkH f (swapS l i (nextH l i)) (nextH l i) else l) else l
theorem swapS_len (l : List Setg) (a b : Nat) : (swapS l a b).length = l.length := by simp [swapS]
theorem swapS_in {l : List Setg} {a b : Nat} (h : ∀ s ∈ l, InSet s) (ha : a < l.length) (hb : b < l.length) : ∀ s ∈ swapS l a b, InSet s := fun s hs => by
  have e1 : l.getD a zS = l[a] := by simp [List.getD_eq_getElem?_getD, ha]
  have e2 : l.getD b zS = l[b] := by simp [List.getD_eq_getElem?_getD, hb]
  unfold swapS at hs
  rw [e1, e2] at hs
  rcases List.mem_or_eq_of_mem_set hs with h1 | rfl
  · rcases List.mem_or_eq_of_mem_set h1 with h2 | rfl
    · exact h s h2
    · exact h _ (List.getElem_mem hb)
  · exact h _ (List.getElem_mem ha)
theorem next_le {l : List Setg} {i : Nat} (h : 2 * i + 1 < l.length) : i < nextH l i ∧ nextH l i < l.length := by
  unfold nextH
  split <;> omega
theorem HeapAt.cells {W : World} {q g c : Nat} {l : List Setg} (h : HeapAt W q (some ⟨g, 0, none⟩) c l) {j : Nat} (hj : j < l.length) : W.cell? ⟨g, j * 2, none⟩ = some (.int .i64 (l.getD j zS).side) ∧ W.cell? ⟨g, j * 2 + 1, none⟩ = some (.int .i64 (l.getD j zS).height) := by
  obtain ⟨g', e, -, -, -, -, hc'⟩ := h.row.cells (by intro e; rw [e] at hj; simp at hj)
  cases e
  have e1 : l.getD j zS = l[j] := by simp [List.getD_eq_getElem?_getD, hj]
  rw [e1]
  exact hc' j hj
theorem HeapAt.addr {W : World} {q c : Nat} {A : Option Addr} {l : List Setg} (h : HeapAt W q A c l) (hl : l ≠ []) : ∃ g, A = some ⟨g, 0, none⟩ := by
  obtain ⟨g', e, -⟩ := h.row.cells hl
  exact ⟨g', e⟩
theorem in_getD {l : List Setg} (h : ∀ s ∈ l, InSet s) {j : Nat} (hj : j < l.length) : InSet (l.getD j zS) := by
  have e1 : l.getD j zS = l[j] := by simp [List.getD_eq_getElem?_getD, hj]
  rw [e1]
  exact h _ (List.getElem_mem hj)
theorem befIn_any {x y : Setg} (hx : InSet x) (hy : InSet y) (V : World) : Calls Try.prog 81 #[.agg #[.int .i64 x.side, .int .i64 x.height], .agg #[.int .i64 y.side, .int .i64 y.height]] V (Ret (.bool (befB x y)) V) := by
  obtain ⟨⟨a1, a2⟩, a3, a4⟩ := hx
  obtain ⟨⟨b1, b2⟩, b3, b4⟩ := hy
  exact bef5_any _ _ _ _ V (by omega) (by omega) (by omega) (by omega)
theorem sinkH_step {f : Nat} {l : List Setg} {i : Nat} (hf : l.length ≤ i + f) (h : 2 * i + 1 < l.length) : ∃ f', f = f' + 1 ∧ sinkH f l i = (if befB (l.getD (nextH l i) zS) (l.getD i zS) = true then sinkH f' (swapS l i (nextH l i)) (nextH l i) else l) := by
  cases f with
  | zero => omega
  | succ f => exact ⟨f, rfl, if_pos h⟩
theorem sinkH_end {f : Nat} {l : List Setg} {i : Nat} (h : ¬ 2 * i + 1 < l.length) : sinkH f l i = l := by
  cases f with
  | zero => rfl
  | succ f => exact if_neg h
def RetSi (q : Nat) (A : Option Addr) (c : Nat) (R : List Setg) (W : World) (e : Ending) (W' : World) : Prop := (∃ v, e = .returned v) ∧ HeapAt W' q A c R ∧ Touch q A W W'
set_option maxRecDepth 100000 in
set_option maxHeartbeats 4000000 in
theorem sink5_any (W : World) (q : Nat) (A : Option Addr) (c : Nat) (l : List Setg) (hH : HeapAt W q A c l) (hin : ∀ s ∈ l, InSet s) (hl : l.length ≤ 10000) :
    Calls Try.prog 103 #[.pointer (some ⟨q, 0, none⟩)] W (RetSi q A c (sinkH l.length l 0) W) := by
  have HH := Lib.hid hH
  have HI := Lib.hid hin
  obtain ⟨n, hn⟩ : ∃ n, l.length = n := ⟨_, rfl⟩
  have HN := Lib.hid hn
  have hn1 : n ≤ 10000 := by omega
  have HR : Hid (sinkH l.length l 0 = sinkH n l 0) := Lib.hid (by rw [hn])
  generalize sinkH l.length l 0 = R at HR ⊢
  clear hH hin hl hn
  go_enter Try.func103, Try.ntmps103
  go_wp2_with fail
  go_loopw [2] (fun v wr => ∃ (i : Nat) (x : List Setg) (f : Nat), i ≤ n ∧ v = .int .i64 (i : Int) ∧ Hid (x.length = n) ∧ Hid (n ≤ i + f) ∧ Hid (sinkH f x i = R) ∧ Hid (∀ s ∈ x, InSet s) ∧ Hid (HeapAt wr q A c x) ∧ Hid (Touch q A W wr)) (fun v _ => n - (intOf v).toNat)
  case atStart => exact ⟨0, l, n, Nat.zero_le _, rfl, HN, Lib.hid (by omega), Lib.hid HR.out.symm, HI, HH, Lib.hid (Touch.refl _ _ _)⟩
  case round =>
    clear HH HI HN HR
    obtain ⟨i, x, f, hi, rfl, HXN, HF, HR, HI, HH, HT⟩ := hrel
    have w1 : IntKind.i64.wrap (2 * (i : Int)) = 2 * (i : Int) := IntWalk.i64_in _ ⟨by omega, by omega⟩
    have w2 : IntKind.i64.wrap (2 * (i : Int) + 1) = 2 * (i : Int) + 1 := IntWalk.i64_in _ ⟨by omega, by omega⟩
    have k0 : wr.cell? ⟨q, 0, none⟩ = some (.slice A n c) := by have := HH.out.kq.cell 0; rw [HXN.out] at this; exact this
    by_cases hlt : 2 * i + 1 < n
    · have hlt' : 2 * (i : Int) + 1 < n := by omega
      obtain ⟨f', hf1, hst⟩ := sinkH_step (f := f) (l := x) (i := i) (by rw [HXN.out]; exact HF.out) (by rw [HXN.out]; exact hlt)
      obtain ⟨hn1', hn2'⟩ := next_le (l := x) (i := i) (by rw [HXN.out]; exact hlt)
      obtain ⟨g, rfl⟩ := HH.out.addr (by intro e; have := HXN.out; rw [e] at this; simp at this; omega)
      have HF' : Hid (∀ m, i < m → n ≤ m + f') := Lib.hid fun m hm => by have := HF.out; omega
      rw [HR.out] at hst
      clear hf1
      obtain ⟨m, hm⟩ : ∃ m : Nat, 2 * i + 1 = m := ⟨_, rfl⟩
      have em : 2 * (i : Int) + 1 = (m : Int) := by omega
      have w3 : IntKind.i64.wrap ((m : Int) + 1) = (m : Int) + 1 := IntWalk.i64_in _ ⟨by omega, by omega⟩
      obtain ⟨m2, hm2⟩ : ∃ m2 : Nat, m + 1 = m2 := ⟨_, rfl⟩
      have em2 : (m : Int) + 1 = (m2 : Int) := by omega
      have w4 : IntKind.i64.wrap (m2 : Int) = (m2 : Int) := IntWalk.i64_in _ ⟨by omega, by omega⟩
      have HNX : Hid (nextH x i = if m2 < n ∧ befB (x.getD m2 zS) (x.getD m zS) = true then m2 else m) := Lib.hid (by
        unfold nextH
        rw [HXN.out, show 2 * i + 2 = m2 by omega, hm])
      have HSW : Hid (∀ V, HeapAt V q (some ⟨g, 0, none⟩) c x → Calls Try.prog 102 #[.pointer (some ⟨q, 0, none⟩), .int .i64 (i : Int), .int .i64 (nextH x i : Int)] V (RetSw q (some ⟨g, 0, none⟩) c x i (nextH x i) V)) := Lib.hid fun V h =>
        swapped5_any V q _ c i (nextH x i) x h (by have := HXN.out; omega) hn2' HI.out (by rw [HXN.out]; omega)
      have HNB : Hid (i < nextH x i ∧ nextH x i < n ∧ i < x.length ∧ nextH x i < x.length) := Lib.hid ⟨hn1', by rw [← HXN.out]; exact hn2', by omega, hn2'⟩
      have HST := Lib.hid hst
      have em3 : ¬ (n : Int) ≤ m := by omega
      have hm0 : (0 : Int) ≤ m := by omega
      have hmn : (m : Int) < n := by omega
      have HM : Hid (m < x.length) := Lib.hid (by rw [HXN.out]; omega)
      clear hst hn1' hn2' hlt HF
      by_cases hg : m2 < n
      · have hg' : (m2 : Int) < n := by omega
        have hg0 : (0 : Int) ≤ m2 := by omega
        have hgd : decide ((m2 : Int) < n) = true := decide_eq_true hg'
        have HM2 : Hid (m2 < x.length) := Lib.hid (by rw [HXN.out]; omega)
        have HBF := Lib.hid fun V => befIn_any (in_getD HI.out HM2.out) (in_getD HI.out HM.out) V
        have HCE := Lib.hid fun (V : World) (h : HeapAt V q (some ⟨g, 0, none⟩) c x) => And.intro (h.cells HM2.out) (h.cells HM.out)
        have HKQ := Lib.hid fun (V : World) (h : HeapAt V q (some ⟨g, 0, none⟩) c x) => (by have := h.kq; rw [HXN.out] at this; exact this : Blk V q 154 #[.slice (some ⟨g, 0, none⟩) n c, .func (.func 81) #[] #[]])
        generalize x.getD m2 zS = s2 at *
        generalize x.getD m zS = s1 at *
        go_wp2_with fail
        replace HH := Lib.hid (HH.out.below (Below.refl _ _).drew)
        replace HT := Lib.hid (HT.out.trans (A' := some ⟨g, 0, none⟩) (.of_below (Below.refl _ _).drew) (.inl rfl))
        clear k0
        refine wp_region_held_drew (S := fun W => Blk W q 154 #[.slice (some ⟨g, 0, none⟩) n c, .func (.func 81) #[] #[]] ∧ (W.cell? ⟨g, m2 * 2, none⟩ = some (.int .i64 s2.side) ∧ W.cell? ⟨g, m2 * 2 + 1, none⟩ = some (.int .i64 s2.height)) ∧ (W.cell? ⟨g, m * 2, none⟩ = some (.int .i64 s1.side) ∧ W.cell? ⟨g, m * 2 + 1, none⟩ = some (.int .i64 s1.height))) (by kernel_rfl) ⟨HKQ.out _ HH.out, HCE.out _ HH.out⟩ (fun hH0 => ?_)
        generalize World.drew _ = V0 at *
        simp only [List.size_toArray, List.length_cons, List.length_nil, Nat.reduceAdd, Array.replicate_succ, Array.replicate_zero, List.push_toArray, List.nil_append, List.cons_append]
        refine wpAnyH_take (i := 0 ) (v := ?_) rfl (by kernel_rfl) (by kernel_rfl) (by kernel_rfl) (fun _ _ _ h => h) (Or.inl ⟨by rfl, ?_⟩) (by assumption) ?_; rotate_left; (· (intro w0 hSw; obtain ⟨kq, ⟨x0, x1⟩, y0, y1⟩ := hSw; have k0 := kq.cell 0; have k1 := kq.cell 1; clear kq; go_simp); first | done | with_reducible rfl); (try simp only [Act.put, List.getElem_toArray, List.getElem_cons_zero, List.setIfInBounds_toArray, List.set_cons_zero, List.set_cons_succ])
        refine wpAnyH_take (i := 1 ) (v := ?_) rfl (by kernel_rfl) (by kernel_rfl) (by kernel_rfl) (fun _ _ _ h => h) (Or.inl ⟨by rfl, ?_⟩) (by assumption) ?_; rotate_left; (· (intro w0 hSw; obtain ⟨kq, ⟨x0, x1⟩, y0, y1⟩ := hSw; have k0 := kq.cell 0; have k1 := kq.cell 1; clear kq; go_simp); first | done | with_reducible rfl); (try simp only [Act.put, List.getElem_toArray, List.getElem_cons_succ, List.getElem_cons_zero, List.setIfInBounds_toArray, List.set_cons_zero, List.set_cons_succ])
        refine wpAnyH_take (i := 2 ) (v := ?_) rfl (by kernel_rfl) (by kernel_rfl) (by kernel_rfl) (fun _ _ _ h => h) (Or.inl ⟨by rfl, ?_⟩) (by assumption) ?_; rotate_left; (· (intro w0 hSw; obtain ⟨kq, ⟨x0, x1⟩, y0, y1⟩ := hSw; have k0 := kq.cell 0; have k1 := kq.cell 1; clear kq; go_simp); first | done | with_reducible rfl); (try simp only [Act.put, List.getElem_toArray, List.getElem_cons_succ, List.getElem_cons_zero, List.setIfInBounds_toArray, List.set_cons_zero, List.set_cons_succ])
        refine wpAnyH_take (i := 3 ) (v := ?_) rfl (by kernel_rfl) (by kernel_rfl) (by kernel_rfl) (fun _ _ _ h => h) (Or.inl ⟨by rfl, ?_⟩) (by assumption) ?_; rotate_left; (· (intro w0 hSw; obtain ⟨kq, ⟨x0, x1⟩, y0, y1⟩ := hSw; have k0 := kq.cell 0; have k1 := kq.cell 1; clear kq; go_simp); first | done | with_reducible rfl); (try simp only [Act.put, List.getElem_toArray, List.getElem_cons_succ, List.getElem_cons_zero, List.setIfInBounds_toArray, List.set_cons_zero, List.set_cons_succ])
        refine wpAnyH_take (i := 4 ) (v := ?_) rfl (by kernel_rfl) (by kernel_rfl) (by kernel_rfl) (fun _ _ _ h => h) (Or.inl ⟨by rfl, ?_⟩) (by assumption) ?_; rotate_left; (· (intro w0 hSw; obtain ⟨kq, ⟨x0, x1⟩, y0, y1⟩ := hSw; have k0 := kq.cell 0; have k1 := kq.cell 1; clear kq; go_simp); first | done | with_reducible rfl); (try simp only [Act.put, List.getElem_toArray, List.getElem_cons_succ, List.getElem_cons_zero, List.setIfInBounds_toArray, List.set_cons_zero, List.set_cons_succ])
        refine wpAnyH_take (i := 5 ) (v := ?_) rfl (by kernel_rfl) (by kernel_rfl) (by kernel_rfl) (fun _ _ _ h => h) (Or.inl ⟨by rfl, ?_⟩) (by assumption) ?_; rotate_left; (· (intro w0 hSw; obtain ⟨kq, ⟨x0, x1⟩, y0, y1⟩ := hSw; have k0 := kq.cell 0; have k1 := kq.cell 1; clear kq; go_simp); first | done | with_reducible rfl); (try simp only [Act.put, List.getElem_toArray, List.getElem_cons_succ, List.getElem_cons_zero, List.setIfInBounds_toArray, List.set_cons_zero, List.set_cons_succ])
        refine wpAnyH_take (i := 6 ) (v := ?_) rfl (by kernel_rfl) (by kernel_rfl) (by kernel_rfl) (fun _ _ _ h => h) (Or.inl ⟨by rfl, ?_⟩) (by assumption) ?_; rotate_left; (· (intro w0 hSw; obtain ⟨kq, ⟨x0, x1⟩, y0, y1⟩ := hSw; have k0 := kq.cell 0; have k1 := kq.cell 1; clear kq; go_simp); first | done | with_reducible rfl); (try simp only [Act.put, List.getElem_toArray, List.getElem_cons_succ, List.getElem_cons_zero, List.setIfInBounds_toArray, List.set_cons_zero, List.set_cons_succ])
        refine wpAnyH_take (i := 7 ) (v := ?_) rfl (by kernel_rfl) (by kernel_rfl) (by kernel_rfl) (fun _ _ _ h => h) (Or.inl ⟨by rfl, ?_⟩) (by assumption) ?_; rotate_left; (· (intro w0 hSw; obtain ⟨kq, ⟨x0, x1⟩, y0, y1⟩ := hSw; have k0 := kq.cell 0; have k1 := kq.cell 1; clear kq; go_simp); first | done | with_reducible rfl); (try simp only [Act.put, List.getElem_toArray, List.getElem_cons_succ, List.getElem_cons_zero, List.setIfInBounds_toArray, List.set_cons_zero, List.set_cons_succ])
        refine wpAnyH_take (i := 8 ) (v := ?_) rfl (by kernel_rfl) (by kernel_rfl) (by kernel_rfl) (fun _ _ _ h => h) (Or.inl ⟨by rfl, ?_⟩) (by assumption) ?_; rotate_left; (· (intro w0 hSw; obtain ⟨kq, ⟨x0, x1⟩, y0, y1⟩ := hSw; have k0 := kq.cell 0; have k1 := kq.cell 1; clear kq; go_simp); first | done | with_reducible rfl); (try simp only [Act.put, List.getElem_toArray, List.getElem_cons_succ, List.getElem_cons_zero, List.setIfInBounds_toArray, List.set_cons_zero, List.set_cons_succ])
        refine wpAnyH_take (i := 9 ) (v := ?_) rfl (by kernel_rfl) (by kernel_rfl) (by kernel_rfl) (fun _ _ _ h => h) (Or.inl ⟨by rfl, ?_⟩) (by assumption) ?_; rotate_left; (· (intro w0 hSw; obtain ⟨kq, ⟨x0, x1⟩, y0, y1⟩ := hSw; have k0 := kq.cell 0; have k1 := kq.cell 1; clear kq; go_simp); first | done | with_reducible rfl); (try simp only [Act.put, List.getElem_toArray, List.getElem_cons_succ, List.getElem_cons_zero, List.setIfInBounds_toArray, List.set_cons_zero, List.set_cons_succ])
        refine wpAnyH_take (i := 10 ) (v := ?_) rfl (by kernel_rfl) (by kernel_rfl) (by kernel_rfl) (fun _ _ _ h => h) (Or.inl ⟨by rfl, ?_⟩) (by assumption) ?_; rotate_left; (· (intro w0 hSw; obtain ⟨kq, ⟨x0, x1⟩, y0, y1⟩ := hSw; have k0 := kq.cell 0; have k1 := kq.cell 1; clear kq; go_simp); first | done | with_reducible rfl); (try simp only [Act.put, List.getElem_toArray, List.getElem_cons_succ, List.getElem_cons_zero, List.setIfInBounds_toArray, List.set_cons_zero, List.set_cons_succ])
        refine wpAnyH_take (i := 11 ) (v := ?_) rfl (by kernel_rfl) (by kernel_rfl) (by kernel_rfl) (fun _ _ _ h => h) (Or.inl ⟨by rfl, ?_⟩) (by assumption) ?_; rotate_left; (· (intro w0 hSw; obtain ⟨kq, ⟨x0, x1⟩, y0, y1⟩ := hSw; have k0 := kq.cell 0; have k1 := kq.cell 1; clear kq; go_simp); first | done | with_reducible rfl); (try simp only [Act.put, List.getElem_toArray, List.getElem_cons_succ, List.getElem_cons_zero, List.setIfInBounds_toArray, List.set_cons_zero, List.set_cons_succ])
        refine wpAnyH_take (i := 12 ) (v := ?_) rfl (by kernel_rfl) (by kernel_rfl) (by kernel_rfl) (fun _ _ _ h => h) (Or.inl ⟨by rfl, ?_⟩) (by assumption) ?_; rotate_left; (· (intro w0 hSw; obtain ⟨kq, ⟨x0, x1⟩, y0, y1⟩ := hSw; have k0 := kq.cell 0; have k1 := kq.cell 1; clear kq; go_simp); first | done | with_reducible rfl); (try simp only [Act.put, List.getElem_toArray, List.getElem_cons_succ, List.getElem_cons_zero, List.setIfInBounds_toArray, List.set_cons_zero, List.set_cons_succ])
        refine wpAnyH_take (i := 13 ) (v := ?_) rfl (by kernel_rfl) (by kernel_rfl) (by kernel_rfl) (fun _ _ _ h => h) (Or.inl ⟨by rfl, ?_⟩) (by assumption) ?_; rotate_left; (· (intro w0 hSw; obtain ⟨kq, ⟨x0, x1⟩, y0, y1⟩ := hSw; have k0 := kq.cell 0; have k1 := kq.cell 1; clear kq; go_simp); first | done | with_reducible rfl); (try simp only [Act.put, List.getElem_toArray, List.getElem_cons_succ, List.getElem_cons_zero, List.setIfInBounds_toArray, List.set_cons_zero, List.set_cons_succ])
        refine wpAnyH_take (i := 14 ) (v := ?_) rfl (by kernel_rfl) (by kernel_rfl) (by kernel_rfl) (fun _ _ _ h => h) (Or.inl ⟨by rfl, ?_⟩) (by assumption) ?_; rotate_left; (· (intro w0 hSw; obtain ⟨kq, ⟨x0, x1⟩, y0, y1⟩ := hSw; have k0 := kq.cell 0; have k1 := kq.cell 1; clear kq; go_simp); first | done | with_reducible rfl); (try simp only [Act.put, List.getElem_toArray, List.getElem_cons_succ, List.getElem_cons_zero, List.setIfInBounds_toArray, List.set_cons_zero, List.set_cons_succ])
        refine wpAnyH_take (i := 15 ) (v := ?_) rfl (by kernel_rfl) (by kernel_rfl) (by kernel_rfl) (fun _ _ _ h => h) (Or.inl ⟨by rfl, ?_⟩) (by assumption) ?_; rotate_left; (· (intro w0 hSw; obtain ⟨kq, ⟨x0, x1⟩, y0, y1⟩ := hSw; have k0 := kq.cell 0; have k1 := kq.cell 1; clear kq; go_simp); first | done | with_reducible rfl); (try simp only [Act.put, List.getElem_toArray, List.getElem_cons_succ, List.getElem_cons_zero, List.setIfInBounds_toArray, List.set_cons_zero, List.set_cons_succ])
        refine wpAnyH_take (i := 16 ) (v := ?_) rfl (by kernel_rfl) (by kernel_rfl) (by kernel_rfl) (fun _ _ _ h => h) (Or.inl ⟨by rfl, ?_⟩) (by assumption) ?_; rotate_left; (· (intro w0 hSw; obtain ⟨kq, ⟨x0, x1⟩, y0, y1⟩ := hSw; have k0 := kq.cell 0; have k1 := kq.cell 1; clear kq; go_simp); first | done | with_reducible rfl); (try simp only [Act.put, List.getElem_toArray, List.getElem_cons_succ, List.getElem_cons_zero, List.setIfInBounds_toArray, List.set_cons_zero, List.set_cons_succ])
        refine wpAnyH_take (i := 17 ) (v := ?_) rfl (by kernel_rfl) (by kernel_rfl) (by kernel_rfl) (fun _ _ _ h => h) (Or.inl ⟨by rfl, ?_⟩) (by assumption) ?_; rotate_left; (· (intro w0 hSw; obtain ⟨kq, ⟨x0, x1⟩, y0, y1⟩ := hSw; have k0 := kq.cell 0; have k1 := kq.cell 1; clear kq; go_simp); first | done | with_reducible rfl); (try simp only [Act.put, List.getElem_toArray, List.getElem_cons_succ, List.getElem_cons_zero, List.setIfInBounds_toArray, List.set_cons_zero, List.set_cons_succ])
        refine wpAnyH_take (i := 18 ) (v := ?_) rfl (by kernel_rfl) (by kernel_rfl) (by kernel_rfl) (fun _ _ _ h => h) (Or.inl ⟨by rfl, ?_⟩) (by assumption) ?_; rotate_left; (· (intro w0 hSw; obtain ⟨kq, ⟨x0, x1⟩, y0, y1⟩ := hSw; have k0 := kq.cell 0; have k1 := kq.cell 1; clear kq; go_simp); first | done | with_reducible rfl); (try simp only [Act.put, List.getElem_toArray, List.getElem_cons_succ, List.getElem_cons_zero, List.setIfInBounds_toArray, List.set_cons_zero, List.set_cons_succ])
        refine wpAnyH_take (i := 19 ) (v := ?_) rfl (by kernel_rfl) (by kernel_rfl) (by kernel_rfl) (fun _ _ _ h => h) (Or.inl ⟨by rfl, ?_⟩) (by assumption) ?_; rotate_left; (· (intro w0 hSw; obtain ⟨kq, ⟨x0, x1⟩, y0, y1⟩ := hSw; have k0 := kq.cell 0; have k1 := kq.cell 1; clear kq; go_simp); first | done | with_reducible rfl); (try simp only [Act.put, List.getElem_toArray, List.getElem_cons_succ, List.getElem_cons_zero, List.setIfInBounds_toArray, List.set_cons_zero, List.set_cons_succ])
        refine wpAnyH_take (i := 20 ) (v := ?_) rfl (by kernel_rfl) (by kernel_rfl) (by kernel_rfl) (fun _ _ _ h => h) (Or.inl ⟨by rfl, ?_⟩) (by assumption) ?_; rotate_left; (· (intro w0 hSw; obtain ⟨kq, ⟨x0, x1⟩, y0, y1⟩ := hSw; have k0 := kq.cell 0; have k1 := kq.cell 1; clear kq; go_simp); first | done | with_reducible rfl); (try simp only [Act.put, List.getElem_toArray, List.getElem_cons_succ, List.getElem_cons_zero, List.setIfInBounds_toArray, List.set_cons_zero, List.set_cons_succ])
        refine wpAnyH_take (i := 21 ) (v := ?_) rfl (by kernel_rfl) (by kernel_rfl) (by kernel_rfl) (fun _ _ _ h => h) (Or.inl ⟨by rfl, ?_⟩) (by assumption) ?_; rotate_left; (· (intro w0 hSw; obtain ⟨kq, ⟨x0, x1⟩, y0, y1⟩ := hSw; have k0 := kq.cell 0; have k1 := kq.cell 1; clear kq; go_simp); first | done | with_reducible rfl); (try simp only [Act.put, List.getElem_toArray, List.getElem_cons_succ, List.getElem_cons_zero, List.setIfInBounds_toArray, List.set_cons_zero, List.set_cons_succ])
        refine wpAnyH_take (i := 22 ) (v := ?_) rfl (by kernel_rfl) (by kernel_rfl) (by kernel_rfl) (fun _ _ _ h => h) (Or.inl ⟨by rfl, ?_⟩) (by assumption) ?_; rotate_left; (· (intro w0 hSw; obtain ⟨kq, ⟨x0, x1⟩, y0, y1⟩ := hSw; have k0 := kq.cell 0; have k1 := kq.cell 1; clear kq; go_simp); first | done | with_reducible rfl); (try simp only [Act.put, List.getElem_toArray, List.getElem_cons_succ, List.getElem_cons_zero, List.setIfInBounds_toArray, List.set_cons_zero, List.set_cons_succ])
        refine wpAnyH_take (i := 23 ) (v := ?_) rfl (by kernel_rfl) (by kernel_rfl) (by kernel_rfl) (fun _ _ _ h => h) (Or.inl ⟨by rfl, ?_⟩) (by assumption) ?_; rotate_left; (· (intro w0 hSw; obtain ⟨kq, ⟨x0, x1⟩, y0, y1⟩ := hSw; have k0 := kq.cell 0; have k1 := kq.cell 1; clear kq; go_simp); first | done | with_reducible rfl); (try simp only [Act.put, List.getElem_toArray, List.getElem_cons_succ, List.getElem_cons_zero, List.setIfInBounds_toArray, List.set_cons_zero, List.set_cons_succ])
        refine wpAnyH_take (i := 24 ) (v := ?_) rfl (by kernel_rfl) (by kernel_rfl) (by kernel_rfl) (fun _ _ _ h => h) (Or.inl ⟨by rfl, ?_⟩) (by assumption) ?_; rotate_left; (· (intro w0 hSw; obtain ⟨kq, ⟨x0, x1⟩, y0, y1⟩ := hSw; have k0 := kq.cell 0; have k1 := kq.cell 1; clear kq; go_simp); first | done | with_reducible rfl); (try simp only [Act.put, List.getElem_toArray, List.getElem_cons_succ, List.getElem_cons_zero, List.setIfInBounds_toArray, List.set_cons_zero, List.set_cons_succ])
        refine wpAnyH_take (i := 25 ) (v := ?_) rfl (by kernel_rfl) (by kernel_rfl) (by kernel_rfl) (fun _ _ _ h => h) (Or.inl ⟨by rfl, ?_⟩) (by assumption) ?_; rotate_left; (· (intro w0 hSw; obtain ⟨kq, ⟨x0, x1⟩, y0, y1⟩ := hSw; have k0 := kq.cell 0; have k1 := kq.cell 1; clear kq; go_simp); first | done | with_reducible rfl); (try simp only [Act.put, List.getElem_toArray, List.getElem_cons_succ, List.getElem_cons_zero, List.setIfInBounds_toArray, List.set_cons_zero, List.set_cons_succ])
        refine wpAnyH_take (i := 26 ) (v := ?_) rfl (by kernel_rfl) (by kernel_rfl) (by kernel_rfl) (fun _ _ _ h => h) (Or.inl ⟨by rfl, ?_⟩) (by assumption) ?_; rotate_left; (· (intro w0 hSw; obtain ⟨kq, ⟨x0, x1⟩, y0, y1⟩ := hSw; have k0 := kq.cell 0; have k1 := kq.cell 1; clear kq; go_simp); first | done | with_reducible rfl); (try simp only [Act.put, List.getElem_toArray, List.getElem_cons_succ, List.getElem_cons_zero, List.setIfInBounds_toArray, List.set_cons_zero, List.set_cons_succ])
        refine wpAnyH_take (i := 27 ) (v := ?_) rfl (by kernel_rfl) (by kernel_rfl) (by kernel_rfl) (fun _ _ _ h => h) (Or.inl ⟨by rfl, ?_⟩) (by assumption) ?_; rotate_left; (· (intro w0 hSw; obtain ⟨kq, ⟨x0, x1⟩, y0, y1⟩ := hSw; have k0 := kq.cell 0; have k1 := kq.cell 1; clear kq; go_simp); first | done | with_reducible rfl); (try simp only [Act.put, List.getElem_toArray, List.getElem_cons_succ, List.getElem_cons_zero, List.setIfInBounds_toArray, List.set_cons_zero, List.set_cons_succ])
        refine wpAnyH_ready (rs := [28]) (by kernel_rfl) (by simp) ?_
        refine AllReadyH.cons (by simp only [List.getElem?_toArray, List.getElem?_cons_succ, List.getElem?_cons_zero]; rfl) (fun K hK => ?_) AllReadyH.nil
        go_simp
        refine (HBF.out _).mono ?_
        rintro e V1 ⟨rfl, hb⟩
        replace HH := Lib.hid (HH.out.below hb)
        replace HT := Lib.hid (HT.out.trans (A' := some ⟨g, 0, none⟩) (.of_below hb) (.inl rfl))
        clear hb
        refine hK.out _ _ ⟨HKQ.out _ HH.out, HCE.out _ HH.out⟩ (fun hH1 => ?_)
        clear hK K
        try simp only [List.setIfInBounds_toArray, List.set_cons_zero, List.set_cons_succ]
        refine wpAnyH_take (i := 29 ) (v := ?_) rfl (by kernel_rfl) (by kernel_rfl) (by kernel_rfl) (fun _ _ _ h => h) (Or.inl ⟨by rfl, ?_⟩) (by assumption) ?_; rotate_left; (· (intro w0 hSw; obtain ⟨kq, ⟨x0, x1⟩, y0, y1⟩ := hSw; have k0 := kq.cell 0; have k1 := kq.cell 1; clear kq; go_simp); first | done | with_reducible rfl); (try simp only [Act.put, List.getElem_toArray, List.getElem_cons_succ, List.getElem_cons_zero, List.setIfInBounds_toArray, List.set_cons_zero, List.set_cons_succ])
        refine wpAnyH_done (by kernel_rfl) ?_ _
        generalize befB s2 s1 = bb at *
        cases bb with
        | false =>
          have HE : Hid (nextH x i = m) := Lib.hid (by rw [HNX.out, if_neg (by simp)])
          rw [HE.out] at HSW HNB HST
          clear HNX HBF HCE HKQ HE
          go_wp2_with fail
          refine (HSW.out _ HH.out).mono ?_
          rintro e W5 ⟨rfl, hh5, ht5⟩
          replace HH := Lib.hid hh5
          replace HT := Lib.hid (HT.out.trans ht5 (.inl rfl))
          clear hh5 ht5 HSW
          have HSI := Lib.hid (swapS_in HI.out HNB.out.2.2.1 HNB.out.2.2.2)
          generalize befB (x.getD m zS) (x.getD i zS) = b2 at *
          cases b2 with
          | false =>
            go_wp2_with fail
            go_end0
            exact ⟨⟨_, rfl⟩, by have h1 := HH.out; have h2 := HST.out; simp only [Bool.false_eq_true, if_false] at h1 h2; rw [h2]; exact h1, HT.out⟩
          | true =>
            have HST2 : Hid (sinkH f' (swapS x i m) m = R) := Lib.hid (by have h2 := HST.out; simp only [if_true] at h2; exact h2.symm)
            have HH2 : Hid (HeapAt W5 q (some ⟨g, 0, none⟩) c (swapS x i m)) := Lib.hid (by have h2 := HH.out; simp only [if_true] at h2; exact h2)
            clear HH HST
            go_wp2_with fail
            go_roundw
            case rel => exact ⟨m, swapS x i m, f', by have := HNB.out; omega, rfl, Lib.hid (by rw [swapS_len, HXN.out]), Lib.hid (HF'.out _ HNB.out.1), HST2, HSI, HH2, HT⟩
            case measure => have := HNB.out; simp [intOf]; omega
        | true =>
          have HE : Hid (nextH x i = m2) := Lib.hid (by rw [HNX.out, if_pos ⟨hg, rfl⟩])
          rw [HE.out] at HSW HNB HST
          clear HNX HBF HCE HKQ HE
          go_wp2_with fail
          refine (HSW.out _ HH.out).mono ?_
          rintro e W5 ⟨rfl, hh5, ht5⟩
          replace HH := Lib.hid hh5
          replace HT := Lib.hid (HT.out.trans ht5 (.inl rfl))
          clear hh5 ht5 HSW
          have HSI := Lib.hid (swapS_in HI.out HNB.out.2.2.1 HNB.out.2.2.2)
          generalize befB (x.getD m2 zS) (x.getD i zS) = b2 at *
          cases b2 with
          | false =>
            go_wp2_with fail
            go_end0
            exact ⟨⟨_, rfl⟩, by have h1 := HH.out; have h2 := HST.out; simp only [Bool.false_eq_true, if_false] at h1 h2; rw [h2]; exact h1, HT.out⟩
          | true =>
            have HST2 : Hid (sinkH f' (swapS x i m2) m2 = R) := Lib.hid (by have h2 := HST.out; simp only [if_true] at h2; exact h2.symm)
            have HH2 : Hid (HeapAt W5 q (some ⟨g, 0, none⟩) c (swapS x i m2)) := Lib.hid (by have h2 := HH.out; simp only [if_true] at h2; exact h2)
            clear HH HST
            go_wp2_with fail
            go_roundw
            case rel => exact ⟨m2, swapS x i m2, f', by have := HNB.out; omega, rfl, Lib.hid (by rw [swapS_len, HXN.out]), Lib.hid (HF'.out _ HNB.out.1), HST2, HSI, HH2, HT⟩
            case measure => have := HNB.out; simp [intOf]; omega
      · have hg' : ¬ (m2 : Int) < n := by omega
        have hgd : decide ((m2 : Int) < n) = false := decide_eq_false hg'
        have HKQ := Lib.hid fun (V : World) (h : HeapAt V q (some ⟨g, 0, none⟩) c x) => (by have := h.kq; rw [HXN.out] at this; exact this : Blk V q 154 #[.slice (some ⟨g, 0, none⟩) n c, .func (.func 81) #[] #[]])
        go_wp2_with fail
        replace HH := Lib.hid (HH.out.below (Below.refl _ _).drew)
        replace HT := Lib.hid (HT.out.trans (A' := some ⟨g, 0, none⟩) (.of_below (Below.refl _ _).drew) (.inl rfl))
        clear k0
        refine wp_region_held_drew (S := fun W => Blk W q 154 #[.slice (some ⟨g, 0, none⟩) n c, .func (.func 81) #[] #[]]) (by kernel_rfl) (HKQ.out _ HH.out) (fun hH0 => ?_)
        generalize World.drew _ = V0 at *
        simp only [List.size_toArray, List.length_cons, List.length_nil, Nat.reduceAdd, Array.replicate_succ, Array.replicate_zero, List.push_toArray, List.nil_append, List.cons_append]
        refine wpAnyH_take (i := 0 ) (v := ?_) rfl (by kernel_rfl) (by kernel_rfl) (by kernel_rfl) (fun _ _ _ h => h) (Or.inl ⟨by rfl, ?_⟩) (by assumption) ?_; rotate_left; (· (intro w0 kq; have k0 := kq.cell 0; have k1 := kq.cell 1; clear kq; go_simp); first | done | with_reducible rfl); (try simp only [Act.put, List.getElem_toArray, List.getElem_cons_zero, List.setIfInBounds_toArray, List.set_cons_zero, List.set_cons_succ])
        refine wpAnyH_take (i := 1 ) (v := ?_) rfl (by kernel_rfl) (by kernel_rfl) (by kernel_rfl) (fun _ _ _ h => h) (Or.inl ⟨by rfl, ?_⟩) (by assumption) ?_; rotate_left; (· (intro w0 kq; have k0 := kq.cell 0; have k1 := kq.cell 1; clear kq; go_simp); first | done | with_reducible rfl); (try simp only [Act.put, List.getElem_toArray, List.getElem_cons_succ, List.getElem_cons_zero, List.setIfInBounds_toArray, List.set_cons_zero, List.set_cons_succ])
        refine wpAnyH_take (i := 2 ) (v := ?_) rfl (by kernel_rfl) (by kernel_rfl) (by kernel_rfl) (fun _ _ _ h => h) (Or.inl ⟨by rfl, ?_⟩) (by assumption) ?_; rotate_left; (· (intro w0 kq; have k0 := kq.cell 0; have k1 := kq.cell 1; clear kq; go_simp); first | done | with_reducible rfl); (try simp only [Act.put, List.getElem_toArray, List.getElem_cons_succ, List.getElem_cons_zero, List.setIfInBounds_toArray, List.set_cons_zero, List.set_cons_succ])
        refine wpAnyH_take (i := 3 ) (v := ?_) rfl (by kernel_rfl) (by kernel_rfl) (by kernel_rfl) (fun _ _ _ h => h) (Or.inl ⟨by rfl, ?_⟩) (by assumption) ?_; rotate_left; (· (intro w0 kq; have k0 := kq.cell 0; have k1 := kq.cell 1; clear kq; go_simp); first | done | with_reducible rfl); (try simp only [Act.put, List.getElem_toArray, List.getElem_cons_succ, List.getElem_cons_zero, List.setIfInBounds_toArray, List.set_cons_zero, List.set_cons_succ])
        refine wpAnyH_take (i := 4 ) (v := ?_) rfl (by kernel_rfl) (by kernel_rfl) (by kernel_rfl) (fun _ _ _ h => h) (Or.inl ⟨by rfl, ?_⟩) (by assumption) ?_; rotate_left; (· (intro w0 kq; have k0 := kq.cell 0; have k1 := kq.cell 1; clear kq; go_simp); first | done | with_reducible rfl); (try simp only [Act.put, List.getElem_toArray, List.getElem_cons_succ, List.getElem_cons_zero, List.setIfInBounds_toArray, List.set_cons_zero, List.set_cons_succ])
        refine wpAnyH_take (i := 5 ) (v := ?_) rfl (by kernel_rfl) (by kernel_rfl) (by kernel_rfl) (fun _ _ _ h => h) (Or.inl ⟨by rfl, ?_⟩) (by assumption) ?_; rotate_left; (· (intro w0 kq; have k0 := kq.cell 0; have k1 := kq.cell 1; clear kq; go_simp); first | done | with_reducible rfl); (try simp only [Act.put, List.getElem_toArray, List.getElem_cons_succ, List.getElem_cons_zero, List.setIfInBounds_toArray, List.set_cons_zero, List.set_cons_succ])
        refine wpAnyH_take (i := 6 ) (v := ?_) rfl (by kernel_rfl) (by kernel_rfl) (by kernel_rfl) (fun _ _ _ h => h) (Or.inl ⟨by rfl, ?_⟩) (by assumption) ?_; rotate_left; (· (intro w0 kq; have k0 := kq.cell 0; have k1 := kq.cell 1; clear kq; go_simp); first | done | with_reducible rfl); (try simp only [Act.put, List.getElem_toArray, List.getElem_cons_succ, List.getElem_cons_zero, List.setIfInBounds_toArray, List.set_cons_zero, List.set_cons_succ])
        refine wpAnyH_take (i := 7 ) (v := ?_) rfl (by kernel_rfl) (by kernel_rfl) (by kernel_rfl) (fun _ _ _ h => h) (Or.inl ⟨by rfl, ?_⟩) (by assumption) ?_; rotate_left; (· (intro w0 kq; have k0 := kq.cell 0; have k1 := kq.cell 1; clear kq; go_simp); first | done | with_reducible rfl); (try simp only [Act.put, List.getElem_toArray, List.getElem_cons_succ, List.getElem_cons_zero, List.setIfInBounds_toArray, List.set_cons_zero, List.set_cons_succ])
        refine wpAnyH_take (i := 8 ) (v := ?_) rfl (by kernel_rfl) (by kernel_rfl) (by kernel_rfl) (fun _ _ _ h => h) (Or.inl ⟨by rfl, ?_⟩) (by assumption) ?_; rotate_left; (· (intro w0 kq; have k0 := kq.cell 0; have k1 := kq.cell 1; clear kq; go_simp); first | done | with_reducible rfl); (try simp only [Act.put, List.getElem_toArray, List.getElem_cons_succ, List.getElem_cons_zero, List.setIfInBounds_toArray, List.set_cons_zero, List.set_cons_succ])
        refine wpAnyH_take (i := 9) (v := undef) rfl (by kernel_rfl) (by kernel_rfl) (by kernel_rfl) (fun _ _ _ h => h) (Or.inr ⟨by rfl, rfl⟩) (by assumption) ?_; (try simp only [Act.put, List.getElem_toArray, List.getElem_cons_succ, List.getElem_cons_zero, List.setIfInBounds_toArray, List.set_cons_zero, List.set_cons_succ])
        refine wpAnyH_take (i := 10) (v := undef) rfl (by kernel_rfl) (by kernel_rfl) (by kernel_rfl) (fun _ _ _ h => h) (Or.inr ⟨by rfl, rfl⟩) (by assumption) ?_; (try simp only [Act.put, List.getElem_toArray, List.getElem_cons_succ, List.getElem_cons_zero, List.setIfInBounds_toArray, List.set_cons_zero, List.set_cons_succ])
        refine wpAnyH_take (i := 11) (v := undef) rfl (by kernel_rfl) (by kernel_rfl) (by kernel_rfl) (fun _ _ _ h => h) (Or.inr ⟨by rfl, rfl⟩) (by assumption) ?_; (try simp only [Act.put, List.getElem_toArray, List.getElem_cons_succ, List.getElem_cons_zero, List.setIfInBounds_toArray, List.set_cons_zero, List.set_cons_succ])
        refine wpAnyH_take (i := 12) (v := undef) rfl (by kernel_rfl) (by kernel_rfl) (by kernel_rfl) (fun _ _ _ h => h) (Or.inr ⟨by rfl, rfl⟩) (by assumption) ?_; (try simp only [Act.put, List.getElem_toArray, List.getElem_cons_succ, List.getElem_cons_zero, List.setIfInBounds_toArray, List.set_cons_zero, List.set_cons_succ])
        refine wpAnyH_take (i := 13) (v := undef) rfl (by kernel_rfl) (by kernel_rfl) (by kernel_rfl) (fun _ _ _ h => h) (Or.inr ⟨by rfl, rfl⟩) (by assumption) ?_; (try simp only [Act.put, List.getElem_toArray, List.getElem_cons_succ, List.getElem_cons_zero, List.setIfInBounds_toArray, List.set_cons_zero, List.set_cons_succ])
        refine wpAnyH_take (i := 14) (v := undef) rfl (by kernel_rfl) (by kernel_rfl) (by kernel_rfl) (fun _ _ _ h => h) (Or.inr ⟨by rfl, rfl⟩) (by assumption) ?_; (try simp only [Act.put, List.getElem_toArray, List.getElem_cons_succ, List.getElem_cons_zero, List.setIfInBounds_toArray, List.set_cons_zero, List.set_cons_succ])
        refine wpAnyH_take (i := 15) (v := undef) rfl (by kernel_rfl) (by kernel_rfl) (by kernel_rfl) (fun _ _ _ h => h) (Or.inr ⟨by rfl, rfl⟩) (by assumption) ?_; (try simp only [Act.put, List.getElem_toArray, List.getElem_cons_succ, List.getElem_cons_zero, List.setIfInBounds_toArray, List.set_cons_zero, List.set_cons_succ])
        refine wpAnyH_take (i := 16) (v := undef) rfl (by kernel_rfl) (by kernel_rfl) (by kernel_rfl) (fun _ _ _ h => h) (Or.inr ⟨by rfl, rfl⟩) (by assumption) ?_; (try simp only [Act.put, List.getElem_toArray, List.getElem_cons_succ, List.getElem_cons_zero, List.setIfInBounds_toArray, List.set_cons_zero, List.set_cons_succ])
        refine wpAnyH_take (i := 17) (v := undef) rfl (by kernel_rfl) (by kernel_rfl) (by kernel_rfl) (fun _ _ _ h => h) (Or.inr ⟨by rfl, rfl⟩) (by assumption) ?_; (try simp only [Act.put, List.getElem_toArray, List.getElem_cons_succ, List.getElem_cons_zero, List.setIfInBounds_toArray, List.set_cons_zero, List.set_cons_succ])
        refine wpAnyH_take (i := 18) (v := undef) rfl (by kernel_rfl) (by kernel_rfl) (by kernel_rfl) (fun _ _ _ h => h) (Or.inr ⟨by rfl, rfl⟩) (by assumption) ?_; (try simp only [Act.put, List.getElem_toArray, List.getElem_cons_succ, List.getElem_cons_zero, List.setIfInBounds_toArray, List.set_cons_zero, List.set_cons_succ])
        refine wpAnyH_take (i := 19) (v := undef) rfl (by kernel_rfl) (by kernel_rfl) (by kernel_rfl) (fun _ _ _ h => h) (Or.inr ⟨by rfl, rfl⟩) (by assumption) ?_; (try simp only [Act.put, List.getElem_toArray, List.getElem_cons_succ, List.getElem_cons_zero, List.setIfInBounds_toArray, List.set_cons_zero, List.set_cons_succ])
        refine wpAnyH_take (i := 20) (v := undef) rfl (by kernel_rfl) (by kernel_rfl) (by kernel_rfl) (fun _ _ _ h => h) (Or.inr ⟨by rfl, rfl⟩) (by assumption) ?_; (try simp only [Act.put, List.getElem_toArray, List.getElem_cons_succ, List.getElem_cons_zero, List.setIfInBounds_toArray, List.set_cons_zero, List.set_cons_succ])
        refine wpAnyH_take (i := 21) (v := undef) rfl (by kernel_rfl) (by kernel_rfl) (by kernel_rfl) (fun _ _ _ h => h) (Or.inr ⟨by rfl, rfl⟩) (by assumption) ?_; (try simp only [Act.put, List.getElem_toArray, List.getElem_cons_succ, List.getElem_cons_zero, List.setIfInBounds_toArray, List.set_cons_zero, List.set_cons_succ])
        refine wpAnyH_take (i := 22) (v := undef) rfl (by kernel_rfl) (by kernel_rfl) (by kernel_rfl) (fun _ _ _ h => h) (Or.inr ⟨by rfl, rfl⟩) (by assumption) ?_; (try simp only [Act.put, List.getElem_toArray, List.getElem_cons_succ, List.getElem_cons_zero, List.setIfInBounds_toArray, List.set_cons_zero, List.set_cons_succ])
        refine wpAnyH_take (i := 23) (v := undef) rfl (by kernel_rfl) (by kernel_rfl) (by kernel_rfl) (fun _ _ _ h => h) (Or.inr ⟨by rfl, rfl⟩) (by assumption) ?_; (try simp only [Act.put, List.getElem_toArray, List.getElem_cons_succ, List.getElem_cons_zero, List.setIfInBounds_toArray, List.set_cons_zero, List.set_cons_succ])
        refine wpAnyH_take (i := 24) (v := undef) rfl (by kernel_rfl) (by kernel_rfl) (by kernel_rfl) (fun _ _ _ h => h) (Or.inr ⟨by rfl, rfl⟩) (by assumption) ?_; (try simp only [Act.put, List.getElem_toArray, List.getElem_cons_succ, List.getElem_cons_zero, List.setIfInBounds_toArray, List.set_cons_zero, List.set_cons_succ])
        refine wpAnyH_take (i := 25) (v := undef) rfl (by kernel_rfl) (by kernel_rfl) (by kernel_rfl) (fun _ _ _ h => h) (Or.inr ⟨by rfl, rfl⟩) (by assumption) ?_; (try simp only [Act.put, List.getElem_toArray, List.getElem_cons_succ, List.getElem_cons_zero, List.setIfInBounds_toArray, List.set_cons_zero, List.set_cons_succ])
        refine wpAnyH_take (i := 26) (v := undef) rfl (by kernel_rfl) (by kernel_rfl) (by kernel_rfl) (fun _ _ _ h => h) (Or.inr ⟨by rfl, rfl⟩) (by assumption) ?_; (try simp only [Act.put, List.getElem_toArray, List.getElem_cons_succ, List.getElem_cons_zero, List.setIfInBounds_toArray, List.set_cons_zero, List.set_cons_succ])
        refine wpAnyH_take (i := 27) (v := undef) rfl (by kernel_rfl) (by kernel_rfl) (by kernel_rfl) (fun _ _ _ h => h) (Or.inr ⟨by rfl, rfl⟩) (by assumption) ?_; (try simp only [Act.put, List.getElem_toArray, List.getElem_cons_succ, List.getElem_cons_zero, List.setIfInBounds_toArray, List.set_cons_zero, List.set_cons_succ])
        refine wpAnyH_take (i := 28) (v := undef) rfl (by kernel_rfl) (by kernel_rfl) (by kernel_rfl) (fun _ _ _ h => h) (Or.inr ⟨by rfl, rfl⟩) (by assumption) ?_; (try simp only [Act.put, List.getElem_toArray, List.getElem_cons_succ, List.getElem_cons_zero, List.setIfInBounds_toArray, List.set_cons_zero, List.set_cons_succ])
        refine wpAnyH_take (i := 29 ) (v := ?_) rfl (by kernel_rfl) (by kernel_rfl) (by kernel_rfl) (fun _ _ _ h => h) (Or.inl ⟨by rfl, ?_⟩) (by assumption) ?_; rotate_left; (· (intro w0 kq; have k0 := kq.cell 0; have k1 := kq.cell 1; clear kq; go_simp); first | done | with_reducible rfl); (try simp only [Act.put, List.getElem_toArray, List.getElem_cons_succ, List.getElem_cons_zero, List.setIfInBounds_toArray, List.set_cons_zero, List.set_cons_succ])
        refine wpAnyH_done (by kernel_rfl) ?_ _
        have HE : Hid (nextH x i = m) := Lib.hid (by rw [HNX.out, if_neg (fun h => hg h.1)])
        rw [HE.out] at HSW HNB HST
        clear HNX HKQ HE
        go_wp2_with fail
        refine (HSW.out _ HH.out).mono ?_
        rintro e W5 ⟨rfl, hh5, ht5⟩
        replace HH := Lib.hid hh5
        replace HT := Lib.hid (HT.out.trans ht5 (.inl rfl))
        clear hh5 ht5 HSW
        have HSI := Lib.hid (swapS_in HI.out HNB.out.2.2.1 HNB.out.2.2.2)
        generalize befB (x.getD m zS) (x.getD i zS) = b2 at *
        cases b2 with
        | false =>
          go_wp2_with fail
          go_end0
          exact ⟨⟨_, rfl⟩, by have h1 := HH.out; have h2 := HST.out; simp only [Bool.false_eq_true, if_false] at h1 h2; rw [h2]; exact h1, HT.out⟩
        | true =>
          have HST2 : Hid (sinkH f' (swapS x i m) m = R) := Lib.hid (by have h2 := HST.out; simp only [if_true] at h2; exact h2.symm)
          have HH2 : Hid (HeapAt W5 q (some ⟨g, 0, none⟩) c (swapS x i m)) := Lib.hid (by have h2 := HH.out; simp only [if_true] at h2; exact h2)
          clear HH HST
          go_wp2_with fail
          go_roundw
          case rel => exact ⟨m, swapS x i m, f', by have := HNB.out; omega, rfl, Lib.hid (by rw [swapS_len, HXN.out]), Lib.hid (HF'.out _ HNB.out.1), HST2, HSI, HH2, HT⟩
          case measure => have := HNB.out; simp [intOf]; omega
    · have hlt' : ¬ 2 * (i : Int) + 1 < n := by omega
      have HE : Hid (x = R) := Lib.hid (by rw [← HR.out, sinkH_end (by rw [HXN.out]; exact hlt)])
      clear hlt
      go_wp2_with fail
      go_end0
      exact ⟨⟨_, rfl⟩, HE.out ▸ HH.out, HT.out⟩
end Go.Proofs.Ytfpfafijockfnaa