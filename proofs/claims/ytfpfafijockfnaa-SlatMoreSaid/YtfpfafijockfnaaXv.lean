/- Walks: the first one of a heap of settings is taken out. -/
import Derived.Test.YtfpfafijockfnaaXt
namespace Go.Proofs.Ytfpfafijockfnaa
open Go.RowKit Go.Shelf

theorem SetsAt.take {B : Nat} {W : World} {g n c : Nat} {l : List Setg} (h : SetsAt B W (.slice (some ⟨g, 0, none⟩) n c) l) {m : Nat} (hm : m ≤ l.length) : SetsAt B W (.slice (some ⟨g, 0, none⟩) m c) (l.take m) := by
  have e : (l.take m).length = m := by rw [List.length_take]; omega
  unfold SetsAt
  rw [e]
  obtain ⟨h1, ⟨h2, -⟩ | ⟨g', cap, cur, hv, h3, h4, h5, h6, h7, h8⟩⟩ := h
  · cases h2
  · have hg : g' = g := by cases hv; rfl
    have hc : cap = c := by cases hv; rfl
    subst hg hc
    refine ⟨by rw [setsV_len, e], .inr ⟨g', cap, cur, rfl, h3, h4, by omega, h6, h7, ?_⟩⟩
    rw [setsV_take, ← h8, List.take_take]
    congr 1
    omega
def RetTk (q : Nat) (A : Option Addr) (c : Nat) (l : List Setg) (W : World) (e : Ending) (W' : World) : Prop :=
  (l = [] ∧ e = .returned (.tuple #[.agg #[.int .i64 0, .int .i64 0], .bool false]) ∧ HeapAt W' q A c l ∧ Touch q A W W') ∨
  (l ≠ [] ∧ e = .returned (.tuple #[.agg #[.int .i64 (l.getD 0 zS).side, .int .i64 (l.getD 0 zS).height], .bool true]) ∧ HeapAt W' q A c (leftH l) ∧ Touch q A W W')
theorem HeapAt.gne {W : World} {q g c : Nat} {l : List Setg} (h : HeapAt W q (some ⟨g, 0, none⟩) c l) : q ≠ g := fun e => by
  subst e
  obtain ⟨-, ⟨h2, -⟩ | ⟨g', cap, cur, hv, -, h4, -⟩⟩ := h.row
  · cases h2
  · cases hv
    rw [show W.heap[q]? = _ from h.kq] at h4
    simp at h4
theorem HeapAt.glt {W : World} {q g c : Nat} {l : List Setg} (h : HeapAt W q (some ⟨g, 0, none⟩) c l) : g < W.heap.size := by
  obtain ⟨-, ⟨h2, -⟩ | ⟨g', cap, cur, hv, -, h4, -⟩⟩ := h.row
  · cases h2
  · cases hv
    exact (Array.getElem?_eq_some_iff.1 h4).1
/-- A box of the call's own is written. -/
theorem HeapAt.box {W V : World} {q c b : Nat} {A : Option Addr} {l : List Setg} {t : TypeId} {cs : Array Value} {x y : Value} (h : HeapAt V q A c l) (_ : Blk V b t cs) (hW : W.heap.size ≤ b) (hq : q ≠ b) (hr : rwOf A ≠ some b) (hT : Touch q A W V) :
    HeapAt (V.setCells b 0 [x, y]) q A c l ∧ Touch q A W (V.setCells b 0 [x, y]) := by
  refine ⟨⟨(sets_far hq).trans h.kq, ?_⟩, hT.os, hT.tape, hT.output, by rw [sets_size]; exact hT.size, fun i hi h1 h2 => (sets_far (by omega)).trans (hT.block i hi h1 h2)⟩
  have hrow := h.row
  refine ⟨hrow.1, hrow.2.imp id fun ⟨g', cap, cur, hv, h3, h4, h5⟩ => ⟨g', cap, cur, hv, h3, (sets_far fun e => hr ?_).trans h4, h5⟩⟩
  rw [Value.slice.injEq] at hv
  rw [hv.1, ← e]
  rfl
set_option maxRecDepth 100000 in
set_option maxHeartbeats 4000000 in
theorem take5_nil (W : World) (q : Nat) (A : Option Addr) (c : Nat) (hH : HeapAt W q A c []) :
    Calls Try.prog 83 #[.pointer (some ⟨q, 0, none⟩)] W (RetTk q A c [] W) := by
  have hbx : Below W.heap.size W (W.alloc (.cells #[.int .i64 0, .int .i64 0] 102)) := (Below.refl _ _).alloc (Nat.le_refl _) _
  have HB0 := Blk.new W 102 #[.int .i64 0, .int .i64 0]
  have hq := hH.kq.lt
  have hr : rwOf A ≠ some W.heap.size := fun e => by
    obtain ⟨g, hg⟩ : ∃ g, A = some g := by cases A with | none => simp [rwOf] at e | some g => exact ⟨g, rfl⟩
    subst hg
    obtain ⟨-, ⟨h2, -⟩ | ⟨g', cap, cur, hv, -, h4, -⟩⟩ := hH.row
    · cases h2
    · cases hv
      have h5 := (Array.getElem?_eq_some_iff.1 h4).1
      have : g' = W.heap.size := by simpa [rwOf] using e
      omega
  have hbox := (hH.below hbx).box (W := W) (x := .int .i64 0) (y := .int .i64 0) HB0 (Nat.le_refl _) (by omega) hr (.of_below hbx)
  have HX := Lib.hid hbox
  have k0 : (W.alloc (.cells #[.int .i64 0, .int .i64 0] 102)).cell? ⟨q, 0, none⟩ = some (.slice A 0 c) := (hH.below hbx).kq.cell 0
  have HTH := Lib.hid (there_mid (o := 0) HB0 (by simp))
  have HB := Lib.hid (sets_mid (o := 0) (x := .int .i64 0) (y := .int .i64 0) HB0)
  clear hbox hbx HB0 hH hr
  go_enter Try.func83, Try.ntmps83
  go_wp2_with (refine wpList_store_mid (by rfl) 102 (.tmp 2) (.tmp 13) (by rfl) W.heap.size 0 #[.int .i64 0, .int .i64 0] (by rfl) (by rfl) HTH.out (by kernel_rfl) (by simp [Value.oneCell']) ?_)
  exact bodyPost_ret (results_blk_tmp rfl _ rfl HB.out (by kernel_rfl) (by kernel_rfl)) rfl (.inl ⟨rfl, rfl, HX.out⟩)
set_option maxRecDepth 100000 in
set_option maxHeartbeats 4000000 in
theorem take5_some (W : World) (q g : Nat) (c : Nat) (l : List Setg) (hH : HeapAt W q (some ⟨g, 0, none⟩) c l) (hne : l ≠ []) (hin : ∀ s ∈ l, InSet s) (hl : l.length ≤ 9000) :
    Calls Try.prog 83 #[.pointer (some ⟨q, 0, none⟩)] W (RetTk q (some ⟨g, 0, none⟩) c l W) := by
  have hpos := List.length_pos_iff.2 hne
  obtain ⟨m, hm⟩ : ∃ m, l.length = m + 1 := ⟨l.length - 1, by omega⟩
  have hbx : Below W.heap.size W (W.alloc (.cells #[.int .i64 0, .int .i64 0] 102)) := (Below.refl _ _).alloc (Nat.le_refl _) _
  have HB0 := Blk.new W 102 #[.int .i64 0, .int .i64 0]
  have hq := hH.kq.lt
  have hg := hH.glt
  have HNE := Lib.hid hH.gne
  have hr : rwOf (some ⟨g, 0, none⟩) ≠ some W.heap.size := fun e => by
    have : g = W.heap.size := by simpa [rwOf] using e
    omega
  have hc : m + 1 ≤ c := by
    obtain ⟨g', e, -, -, -, h5, -⟩ := hH.row.cells hne
    omega
  obtain ⟨x, hx⟩ : ∃ x, l.getD 0 zS = x := ⟨_, rfl⟩
  obtain ⟨y, hy⟩ : ∃ y, l.getD m zS = y := ⟨_, rfl⟩
  have HH := Lib.hid (hH.below hbx)
  have HT : Hid (Touch q (some ⟨g, 0, none⟩) W (W.alloc (.cells #[.int .i64 0, .int .i64 0] 102))) := Lib.hid (.of_below hbx)
  have HCE := Lib.hid fun (V : World) (h : HeapAt V q (some ⟨g, 0, none⟩) c l) => (by
    have h1 := h.cells (j := 0) hpos
    have h2 := h.cells (j := m) (by omega)
    rw [hx] at h1
    rw [hy] at h2
    exact ⟨⟨by simpa using h1.1, by simpa using h1.2⟩, h2⟩ : (V.cell? ⟨g, 0, none⟩ = some (.int .i64 x.side) ∧ V.cell? ⟨g, 1, none⟩ = some (.int .i64 x.height)) ∧ (V.cell? ⟨g, m * 2, none⟩ = some (.int .i64 y.side) ∧ V.cell? ⟨g, m * 2 + 1, none⟩ = some (.int .i64 y.height)))
  have HKQ := Lib.hid fun (V : World) (h : HeapAt V q (some ⟨g, 0, none⟩) c l) => (by have := h.kq; rw [hm] at this; exact this : Blk V q 154 #[.slice (some ⟨g, 0, none⟩) (m + 1) c, .func (.func 81) #[] #[]])
  have HTG := Lib.hid fun (V : World) (h : HeapAt V q (some ⟨g, 0, none⟩) c l) => h.row.there 0 hpos
  have HSW := Lib.hid fun (V : World) (h : HeapAt V q (some ⟨g, 0, none⟩) c l) => (by
    have h1 := (h.row.set 0 hpos y).take (m := m) (by simp [hm])
    exact h1 : SetsAt 0 (V.setCells g 0 [.int .i64 y.side, .int .i64 y.height]) (.slice (some ⟨g, 0, none⟩) m c) ((l.set 0 y).take m))
  have HLL : Hid (((l.set 0 y).take m).length = m) := Lib.hid (by simp [hm])
  have HIL : Hid (∀ s ∈ (l.set 0 y).take m, InSet s) := Lib.hid fun s hs => by
    have h1 := List.mem_of_mem_take hs
    rcases List.mem_or_eq_of_mem_set h1 with h2 | rfl
    · exact hin s h2
    · rw [← hy]; exact in_getD hin (by omega)
  have HLE : Hid (leftH l = sinkH ((l.set 0 y).take m).length ((l.set 0 y).take m) 0) := Lib.hid (by unfold leftH; rw [show l.length - 1 = m by omega, hy])
  have HRT : Hid (∀ e V, e = .returned (.tuple #[.agg #[.int .i64 x.side, .int .i64 x.height], .bool true]) → HeapAt V q (some ⟨g, 0, none⟩) c (leftH l) → Touch q (some ⟨g, 0, none⟩) W V → RetTk q (some ⟨g, 0, none⟩) c l W e V) := Lib.hid fun e V h1 h2 h3 => .inr ⟨hne, by rw [hx]; exact h1, h2, h3⟩
  have HB := Lib.hid HB0
  have HRO := Lib.hid hr
  have hm9 : m ≤ 9000 := by omega
  have w1 : IntKind.i64.wrap ((m : Int) + 1 - 1) = (m : Int) := by rw [show (m : Int) + 1 - 1 = m by omega]; exact IntWalk.i64_in _ ⟨by omega, by omega⟩
  have w2 : IntKind.i64.wrap (m : Int) = (m : Int) := IntWalk.i64_in _ ⟨by omega, by omega⟩
  have hm0 : (0 : Int) ≤ m := by omega
  have hm1 : (m : Int) < m + 1 := by omega
  have hmc : (m : Int) ≤ c := by omega
  have hmc2 : m ≤ c := by omega
  have HQ : Hid (q < W.heap.size) := Lib.hid hq
  clear hH hin hl hbx HB0 hg hr hx hy hc hpos hm hne
  go_enter Try.func83, Try.ntmps83
  go_upto_region 1 with fail
  generalize hV : World.alloc W _ = V at HH HT HB ⊢
  clear hV
  generalize hbb : W.heap.size = b at HB HRO HQ ⊢
  have HBB := Lib.hid hbb
  clear hbb
  have k0 := (HKQ.out _ HH.out).cell 0
  obtain ⟨⟨x0, x1⟩, y0, y1⟩ := HCE.out _ HH.out
  have HTB := Lib.hid (there_mid (o := 0) HB.out (by simp))
  have HX1 := Lib.hid (HH.out.box (W := W) (x := .int .i64 x.side) (y := .int .i64 x.height) HB.out (by rw [HBB.out]; exact Nat.le_refl _) (by have := HQ.out; omega) HRO.out HT.out)
  have HB1 := Lib.hid (sets_mid (o := 0) (x := .int .i64 x.side) (y := .int .i64 x.height) HB.out)
  go_wp2_with (refine wpList_store_mid (by rfl) 102 (.tmp 2) (.tmp 19) (by rfl) b 0 #[.int .i64 x.side, .int .i64 x.height] (by rfl) (by rfl) HTB.out (by kernel_rfl) (by simp [Value.oneCell']) ?_)
  clear k0 x0 x1 y0 y1 HH HT HB HTB
  have HH := Lib.hid (HX1.out.1.below (Below.refl _ _).drew)
  have HT := Lib.hid (HX1.out.2.trans (A' := some ⟨g, 0, none⟩) (.of_below (Below.refl _ _).drew) (.inl rfl))
  have HB : Hid (Blk (World.drew (V.setCells b 0 [.int .i64 x.side, .int .i64 x.height])) b 102 #[.int .i64 x.side, .int .i64 x.height]) := Lib.hid HB1.out
  clear HX1 HB1
  refine C_begin (S := fun V => Blk V q 154 #[.slice (some ⟨g, 0, none⟩) (m + 1) c, .func (.func 81) #[] #[]] ∧ (V.cell? ⟨g, m * 2, none⟩ = some (.int .i64 y.side) ∧ V.cell? ⟨g, m * 2 + 1, none⟩ = some (.int .i64 y.height))) (c := 12) (by kernel_rfl) ?_
  generalize World.drew _ = V0 at *
  have hSd := (show (fun V => Blk V q 154 #[.slice (some ⟨g, 0, none⟩) (m + 1) c, .func (.func 81) #[] #[]] ∧ (V.cell? ⟨g, m * 2, none⟩ = some (.int .i64 y.side) ∧ V.cell? ⟨g, m * 2 + 1, none⟩ = some (.int .i64 y.height))) V0 from ⟨HKQ.out _ HH.out, (HCE.out _ HH.out).2⟩)
  refine C_take (i := 0) (v := ?v5_0) rfl (by kernel_rfl) (fun _ _ _ h => h) (Or.inl ⟨by rfl, ?y5_0⟩) (Or.inr hSd) ?r5_0
  case y5_0 => (intro w0 _; go_simp; try with_reducible rfl)
  try simp only [Act.put, List.getElem_toArray, List.getElem_cons_zero, List.setIfInBounds_toArray, List.set_cons_zero, List.set_cons_succ]
  refine C_take (i := 1) (v := ?v5_1) rfl (by kernel_rfl) (fun _ _ _ h => h) (Or.inl ⟨by rfl, ?y5_1⟩) (Or.inr hSd) ?r5_1
  case y5_1 => (intro w0 _; go_simp; try with_reducible rfl)
  try simp only [Act.put, List.getElem_toArray, List.getElem_cons_succ, List.getElem_cons_zero, List.setIfInBounds_toArray, List.set_cons_zero, List.set_cons_succ]
  refine C_take (i := 2) (v := ?v5_2) rfl (by kernel_rfl) (fun _ _ _ h => h) (Or.inl ⟨by rfl, ?y5_2⟩) (Or.inr hSd) ?r5_2
  case y5_2 => (intro w0 _; go_simp; try with_reducible rfl)
  try simp only [Act.put, List.getElem_toArray, List.getElem_cons_succ, List.getElem_cons_zero, List.setIfInBounds_toArray, List.set_cons_zero, List.set_cons_succ]
  refine C_load (i := 3) (v := ?v5_3) [12] rfl (by kernel_rfl) (fun _ _ _ h => h) (Or.inl ⟨by rfl, ?y5_3⟩) hSd ?r5_3
  case y5_3 => ((intro w0 hSw; obtain ⟨kq, y0, y1⟩ := hSw; have k0 := kq.cell 0; clear kq; go_simp); try with_reducible rfl)
  try simp only [Act.put, List.getElem_toArray, List.getElem_cons_succ, List.getElem_cons_zero, List.setIfInBounds_toArray, List.set_cons_zero, List.set_cons_succ]
  refine C_take (i := 4) (v := ?v5_4) rfl (by kernel_rfl) (fun _ _ _ h => h) (Or.inl ⟨by rfl, ?y5_4⟩) (Or.inr hSd) ?r5_4
  case y5_4 => (intro w0 _; go_simp; try with_reducible rfl)
  try simp only [Act.put, List.getElem_toArray, List.getElem_cons_succ, List.getElem_cons_zero, List.setIfInBounds_toArray, List.set_cons_zero, List.set_cons_succ]
  refine C_take (i := 5) (v := ?v5_5) rfl (by kernel_rfl) (fun _ _ _ h => h) (Or.inl ⟨by rfl, ?y5_5⟩) (Or.inr hSd) ?r5_5
  case y5_5 => (intro w0 _; go_simp; try with_reducible rfl)
  try simp only [Act.put, List.getElem_toArray, List.getElem_cons_succ, List.getElem_cons_zero, List.setIfInBounds_toArray, List.set_cons_zero, List.set_cons_succ]
  refine C_take (i := 6) (v := ?v5_6) rfl (by kernel_rfl) (fun _ _ _ h => h) (Or.inl ⟨by rfl, ?y5_6⟩) (Or.inr hSd) ?r5_6
  case y5_6 => (intro w0 _; go_simp; try with_reducible rfl)
  try simp only [Act.put, List.getElem_toArray, List.getElem_cons_succ, List.getElem_cons_zero, List.setIfInBounds_toArray, List.set_cons_zero, List.set_cons_succ]
  refine C_load (i := 7) (v := ?v5_7) [12] rfl (by kernel_rfl) (fun _ _ _ h => h) (Or.inl ⟨by rfl, ?y5_7⟩) hSd ?r5_7
  case y5_7 => ((intro w0 hSw; obtain ⟨kq, y0, y1⟩ := hSw; have k0 := kq.cell 0; clear kq; go_simp); try with_reducible rfl)
  try simp only [Act.put, List.getElem_toArray, List.getElem_cons_succ, List.getElem_cons_zero, List.setIfInBounds_toArray, List.set_cons_zero, List.set_cons_succ]
  refine C_take (i := 8) (v := ?v5_8) rfl (by kernel_rfl) (fun _ _ _ h => h) (Or.inl ⟨by rfl, ?y5_8⟩) (Or.inr hSd) ?r5_8
  case y5_8 => (intro w0 _; go_simp; try with_reducible rfl)
  try simp only [Act.put, List.getElem_toArray, List.getElem_cons_succ, List.getElem_cons_zero, List.setIfInBounds_toArray, List.set_cons_zero, List.set_cons_succ]
  refine C_take (i := 9) (v := ?v5_9) rfl (by kernel_rfl) (fun _ _ _ h => h) (Or.inl ⟨by rfl, ?y5_9⟩) (Or.inr hSd) ?r5_9
  case y5_9 => (intro w0 _; go_simp; try with_reducible rfl)
  try simp only [Act.put, List.getElem_toArray, List.getElem_cons_succ, List.getElem_cons_zero, List.setIfInBounds_toArray, List.set_cons_zero, List.set_cons_succ]
  refine C_load (i := 10) (v := ?v5_10) [12] rfl (by kernel_rfl) (fun _ _ _ h => h) (Or.inl ⟨by rfl, ?y5_10⟩) hSd ?r5_10
  case y5_10 => ((intro w0 hSw; obtain ⟨kq, y0, y1⟩ := hSw; have k0 := kq.cell 0; clear kq; go_simp); try with_reducible rfl)
  try simp only [Act.put, List.getElem_toArray, List.getElem_cons_succ, List.getElem_cons_zero, List.setIfInBounds_toArray, List.set_cons_zero, List.set_cons_succ]
  refine C_take (i := 11) (v := ?v5_11) rfl (by kernel_rfl) (fun _ _ _ h => h) (Or.inl ⟨by rfl, ?y5_11⟩) (Or.inr hSd) ?r5_11
  case y5_11 => (intro w0 _; go_simp; try with_reducible rfl)
  try simp only [Act.put, List.getElem_toArray, List.getElem_cons_succ, List.getElem_cons_zero, List.setIfInBounds_toArray, List.set_cons_zero, List.set_cons_succ]
  refine C_one (i := 12) rfl (by kernel_rfl) (fun K hK => ?_)
  rw [if_pos (by rfl)]
  refine wp_store_mid 102 (.tmp 31) (.tmp 30) (by rfl) g 0 #[.int .i64 y.side, .int .i64 y.height] (by rfl) (by rfl) (HTG.out _ HH.out) (by kernel_rfl) (by simp [Value.oneCell']) ?_
  refine hK _ _ (.inl (by kernel_rfl)) ?_
  clear hK K
  try clear hSd
  try simp only [Act.put, List.getElem_toArray, List.getElem_cons_succ, List.getElem_cons_zero]
  refine C_done (by kernel_rfl) ?_ _
  have HQ2 : Hid (Blk (V0.setCells g 0 [.int .i64 y.side, .int .i64 y.height]) q 154 #[.slice (some ⟨g, 0, none⟩) (m + 1) c, .func (.func 81) #[] #[]]) := Lib.hid ((sets_far HNE.out).trans (HKQ.out _ HH.out))
  have HR2 := Lib.hid (HSW.out _ HH.out)
  have HB2 : Hid (Blk (V0.setCells g 0 [.int .i64 y.side, .int .i64 y.height]) b 102 #[.int .i64 x.side, .int .i64 x.height]) := Lib.hid ((sets_far (fun e => HRO.out (by rw [e]; rfl))).trans HB.out)
  have HT2 : Hid (Touch q (some ⟨g, 0, none⟩) W (V0.setCells g 0 [.int .i64 y.side, .int .i64 y.height])) := Lib.hid (HT.out.trans (A' := some ⟨g, 0, none⟩) ⟨rfl, rfl, rfl, by rw [sets_size]; exact Nat.le_refl _, fun i _ _ hi => sets_far fun e => hi (by rw [e]; rfl)⟩ (.inl rfl))
  clear HH HT HB HSW HTG HKQ HCE
  have k0 := HQ2.out.cell 0
  have f0 := HQ2.out.frozen 0
  have hs3 := HeapAt.stored (A := some ⟨g, 0, none⟩) HQ2.out rfl HR2.out HLL.out.symm
  have HH3 := Lib.hid hs3.1
  have HT3 := Lib.hid (HT2.out.trans (A' := some ⟨g, 0, none⟩) hs3.2 (.inl rfl))
  have HB3 := Lib.hid (HB2.out.far (p := ⟨q, 0, none⟩) (fun e => by have := HQ.out; simp only [] at e; omega) (.slice (some ⟨g, 0, none⟩) m c))
  clear hs3 HQ2 HR2 HB2 HT2
  generalize World.setCells V0 g 0 [.int .i64 y.side, .int .i64 y.height] = V2 at *
  go_wp2_with fail
  clear k0 f0
  generalize World.setCell V2 _ _ = V3 at *
  refine (sink5_any V3 q (some ⟨g, 0, none⟩) c _ HH3.out HIL.out (by rw [HLL.out]; omega)).mono ?_
  rintro e V4 ⟨⟨ev, rfl⟩, hh4, ht4⟩
  have HH4 := Lib.hid (HLE.out ▸ hh4)
  have HT4 := Lib.hid (HT3.out.trans ht4 (.inl rfl))
  have HB4 : Hid (Blk V4 b 102 #[.int .i64 x.side, .int .i64 x.height]) := Lib.hid ((ht4.block b HB3.out.lt (by have := HQ.out; omega) HRO.out).trans HB3.out)
  have HTB := Lib.hid (there_mid (o := 0) HB4.out (by simp))
  have b0 := HB4.out.cell 0
  have b1 := HB4.out.cell 1
  clear hh4 ht4 HH3 HT3 HB3
  have HX1 := Lib.hid (HH4.out.box (W := W) (x := .int .i64 x.side) (y := .int .i64 x.height) HB4.out (by rw [HBB.out]; exact Nat.le_refl _) (by have := HQ.out; omega) HRO.out HT4.out)
  have HB := Lib.hid (sets_mid (o := 0) (x := .int .i64 x.side) (y := .int .i64 x.height) HB4.out)
  go_wp2_with (refine wpList_store_mid (by rfl) 102 (.tmp 2) (.tmp 43) (by rfl) b 0 #[.int .i64 x.side, .int .i64 x.height] (by rfl) (by rfl) HTB.out (by kernel_rfl) (by simp [Value.oneCell']) ?_)
  exact bodyPost_ret (results_blk_tmp rfl _ rfl HB.out (by kernel_rfl) (by kernel_rfl)) rfl (HRT.out _ _ rfl HX1.out.1 HX1.out.2)
theorem take5_any (W : World) (q : Nat) (A : Option Addr) (c : Nat) (l : List Setg) (hH : HeapAt W q A c l) (hin : ∀ s ∈ l, InSet s) (hl : l.length ≤ 9000) :
    Calls Try.prog 83 #[.pointer (some ⟨q, 0, none⟩)] W (RetTk q A c l W) := by
  by_cases h : l = []
  · subst h
    exact take5_nil W q A c hH
  · obtain ⟨g, rfl⟩ := hH.addr h
    exact take5_some W q g c l hH h hin hl
end Go.Proofs.Ytfpfafijockfnaa