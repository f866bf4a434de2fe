/- Walks: a heap of settings: one is put in, the first one is taken out. -/
import Derived.Test.YtfpfafijockfnaaXs
namespace Go.Proofs.Ytfpfafijockfnaa
open Go.RowKit Go.Shelf

def upH : Nat → List Setg → Nat → List Setg
  | 0, l, _ => l
  | f + 1, l, i => if i = 0 then l else if befB (l.getD i zS) (l.getD ((i - 1) / 2) zS) = true then upH f (swapS l ((i - 1) / 2) i) ((i - 1) / 2) else l
def putH (l : List Setg) (x : Setg) : List Setg := upH l.length (l ++ [x]) l.length
/-- What is left of a heap behind the first one. -/
def leftH (l : List Setg) : List Setg := sinkH ((l.set 0 (l.getD (l.length - 1) zS)).take (l.length - 1)).length ((l.set 0 (l.getD (l.length - 1) zS)).take (l.length - 1)) 0
theorem upH_zero (f : Nat) (l : List Setg) : upH f l 0 = l := by cases f <;> simp [upH]
theorem upH_step {f : Nat} {l : List Setg} {i : Nat} (hf : i ≤ f) (h : 0 < i) : ∃ f', f = f' + 1 ∧ upH f l i = (if befB (l.getD i zS) (l.getD ((i - 1) / 2) zS) = true then upH f' (swapS l ((i - 1) / 2) i) ((i - 1) / 2) else l) := by
  cases f with
  | zero => omega
  | succ f => exact ⟨f, rfl, if_neg (by omega)⟩
def NewRow (A A' : Option Addr) (W : World) : Prop := A' = A ∨ ∀ i, rwOf A' = some i → W.heap.size ≤ i
/-- One more thing lies in the row. -/
theorem HeapAt.pushed {V w1 : World} {q c g cap b : Nat} {A : Option Addr} {l : List Setg} {x : Setg} {tb : TypeId} {cb : Array Value} (h : HeapAt V q A c l) (hb : Blk V b tb cb) (htb : tb ≠ 102 ∨ rwOf A ≠ some b)
    (hown : w1.ownsRow 0 102 2 (.slice (some ⟨g, 0, none⟩) (l.length + 1) cap) (l.length + 1) (setsV l ++ [.int .i64 x.side, .int .i64 x.height])) (hgr : V.grownBy w1 (Value.slice A l.length c).ownBlock) (hat : (Value.slice A l.length c).ownBlock = some g ∨ g = V.heap.size) :
    SetsAt 0 w1 (.slice (some ⟨g, 0, none⟩) (l.length + 1) cap) (l ++ [x]) ∧ Blk w1 q 154 #[.slice A l.length c, .func (.func 81) #[] #[]] ∧ Blk w1 b tb cb ∧ Touch q A V w1 ∧ NewRow A (some ⟨g, 0, none⟩) V := by
  have hro : (Value.slice A l.length c).ownBlock = rwOf A := by cases A <;> rfl
  have hty : ∀ k t cs, Blk V k t cs → rwOf A = some k → t = 102 := fun k t cs hk e => by
    rcases h.row.2 with ⟨hv, -⟩ | ⟨g', cap', cur, hv, -, h4, -⟩
    · rw [Value.slice.injEq] at hv; rw [hv.1] at e; simp [rwOf] at e
    · cases hv
      have : g' = k := by simpa [rwOf] using e
      subst this
      rw [show V.heap[g']? = _ from hk] at h4
      cases h4
      rfl
  refine ⟨?_, ?_, ?_, ?_, ?_⟩
  · unfold SetsAt
    rw [setsV_append, List.length_append]
    exact hown
  · refine h.kq.kept hgr fun e => ?_
    rw [hro] at e
    have := hty _ _ _ h.kq e.symm
    exact absurd this (by decide)
  · refine hb.kept hgr fun e => ?_
    rw [hro] at e
    rcases htb with h1 | h1
    · exact h1 (hty _ _ _ hb e.symm)
    · exact h1 e.symm
  · exact ⟨hgr.os, hgr.tape, hgr.output, hgr.size, fun i hi _ h2 => hgr.block i hi fun e => h2 (by rw [← hro]; exact e.symm)⟩
  · rcases hat with h1 | rfl
    · left
      rcases h.row.2 with ⟨hv, -⟩ | ⟨g', cap', cur, hv, -, h4, -⟩
      · rw [Value.slice.injEq] at hv; rw [hv.1] at h1; simp [Value.ownBlock] at h1
      · cases hv
        simp [Value.ownBlock] at h1
        rw [h1]
    · right
      intro i hi
      simp [rwOf] at hi
      omega
/-- The heap's slice is stored anew. -/
theorem HeapAt.stored {V : World} {q n cap : Nat} {A A' : Option Addr} {f v : Value} {l : List Setg} (hk : Blk V q 154 #[v, f]) (hf : f = .func (.func 81) #[] #[]) (hr : SetsAt 0 V (.slice A' n cap) l) (hn : n = l.length) :
    HeapAt (V.setCell ⟨q, 0, none⟩ (.slice A' n cap)) q A' cap l ∧ Touch q A V (V.setCell ⟨q, 0, none⟩ (.slice A' n cap)) := by
  subst hn hf
  refine ⟨⟨hk.set_ 0 _, own_keepT hr (.set hk (by decide) 0 _)⟩, rfl, rfl, rfl, by simp [World.setCell], fun i _ hi _ => Below.heap_setCell V ⟨q, 0, none⟩ _ i hi⟩
def RetPut (q : Nat) (A : Option Addr) (R : List Setg) (W : World) (e : Ending) (W' : World) : Prop := (∃ v, e = .returned v) ∧ ∃ A' c', HeapAt W' q A' c' R ∧ Touch q A W W' ∧ NewRow A A' W
theorem NewRow.trans {A A1 A2 : Option Addr} {W W1 : World} (h : NewRow A A1 W) (h1 : NewRow A1 A2 W1) (hs : W.heap.size ≤ W1.heap.size) : NewRow A A2 W := by
  rcases h1 with rfl | h1
  · exact h
  · exact .inr fun i hi => Nat.le_trans hs (h1 i hi)
set_option maxRecDepth 100000 in
set_option maxHeartbeats 4000000 in
theorem put5_any (W : World) (q : Nat) (A : Option Addr) (c : Nat) (l : List Setg) (x : Setg) (hH : HeapAt W q A c l) (hin : ∀ s ∈ l, InSet s) (hx : InSet x) (hl : l.length ≤ 9000) :
    Calls Try.prog 82 #[.pointer (some ⟨q, 0, none⟩), .agg #[.int .i64 x.side, .int .i64 x.height]] W (RetPut q A (putH l x) W) := by
  obtain ⟨i0, hi, hz0, hz1, hz2⟩ := info_parts setInfo
  have hbx : Below W.heap.size W (W.alloc (.cells #[.int .i64 x.side, .int .i64 x.height] 102)) := (Below.refl _ _).alloc (Nat.le_refl _) _
  have HH := Lib.hid (hH.below hbx)
  have HT : Hid (Touch q A W (W.alloc (.cells #[.int .i64 x.side, .int .i64 x.height] 102))) := Lib.hid (.of_below hbx)
  have HB := Lib.hid (Blk.new W 102 #[.int .i64 x.side, .int .i64 x.height])
  have HI : Hid (∀ s ∈ l ++ [x], InSet s) := Lib.hid fun s hs => by
    rcases List.mem_append.1 hs with h | h
    · exact hin s h
    · rw [List.mem_singleton.1 h]; exact hx
  have HRO : Hid (rwOf A ≠ some W.heap.size) := Lib.hid fun e => by
    rcases hH.row.2 with ⟨hv, -⟩ | ⟨g', cap', cur, hv, -, h4, -⟩
    · rw [Value.slice.injEq] at hv; rw [hv.1] at e; simp [rwOf] at e
    · cases hv
      have h5 := (Array.getElem?_eq_some_iff.1 h4).1
      have : g' = W.heap.size := by simpa [rwOf] using e
      omega
  have HPU : Hid (putH l x = upH l.length (l ++ [x]) l.length) := Lib.hid rfl
  have HL := Lib.hid hl
  have HNR : Hid (NewRow A A W) := Lib.hid (.inl rfl)
  generalize putH l x = P at HPU ⊢
  clear hH hin hx hl hbx
  go_enter Try.func82, Try.ntmps82
  go_wp2_with fail
  have hWs : W.heap.size ≤ (W.alloc (.cells #[.int .i64 x.side, .int .i64 x.height] 102)).heap.size := by simp
  have HWS := Lib.hid hWs
  clear hWs
  replace HH := Lib.hid (HH.out.below (Below.refl _ _).drew)
  replace HT := Lib.hid (HT.out.trans (A' := A) (.of_below (Below.refl _ _).drew) (.inl rfl))
  replace HB := Lib.hid (HB.out.below (Below.refl _ _).drew HB.out.lt)
  replace HWS : Hid (W.heap.size ≤ (World.drew (W.alloc (.cells #[.int .i64 x.side, .int .i64 x.height] 102))).heap.size) := HWS
  refine C_begin (S := fun V => Blk V q 154 #[.slice A l.length c, .func (.func 81) #[] #[]] ∧ Blk V W.heap.size 102 #[.int .i64 x.side, .int .i64 x.height]) (c := 10) (by kernel_rfl) ?_
  generalize World.drew _ = V0 at *
  have hSd := (show (fun V => Blk V q 154 #[.slice A l.length c, .func (.func 81) #[] #[]] ∧ Blk V W.heap.size 102 #[.int .i64 x.side, .int .i64 x.height]) V0 from ⟨HH.out.kq, HB.out⟩)
  refine C_take (i := 0) (v := ?v1_0) rfl (by kernel_rfl) (fun _ _ _ h => h) (Or.inl ⟨by rfl, ?y1_0⟩) (Or.inr hSd) ?r1_0
  case y1_0 => (intro w0 _; go_simp; try with_reducible rfl)
  try simp only [Act.put, List.getElem_toArray, List.getElem_cons_zero, List.setIfInBounds_toArray, List.set_cons_zero, List.set_cons_succ]
  refine C_take (i := 1) (v := ?v1_1) rfl (by kernel_rfl) (fun _ _ _ h => h) (Or.inl ⟨by rfl, ?y1_1⟩) (Or.inr hSd) ?r1_1
  case y1_1 => (intro w0 _; go_simp; try with_reducible rfl)
  try simp only [Act.put, List.getElem_toArray, List.getElem_cons_succ, List.getElem_cons_zero, List.setIfInBounds_toArray, List.set_cons_zero, List.set_cons_succ]
  refine C_take (i := 2) (v := ?v1_2) rfl (by kernel_rfl) (fun _ _ _ h => h) (Or.inl ⟨by rfl, ?y1_2⟩) (Or.inr hSd) ?r1_2
  case y1_2 => (intro w0 _; go_simp; try with_reducible rfl)
  try simp only [Act.put, List.getElem_toArray, List.getElem_cons_succ, List.getElem_cons_zero, List.setIfInBounds_toArray, List.set_cons_zero, List.set_cons_succ]
  refine C_take (i := 3) (v := ?v1_3) rfl (by kernel_rfl) (fun _ _ _ h => h) (Or.inl ⟨by rfl, ?y1_3⟩) (Or.inr hSd) ?r1_3
  case y1_3 => (intro w0 _; go_simp; try with_reducible rfl)
  try simp only [Act.put, List.getElem_toArray, List.getElem_cons_succ, List.getElem_cons_zero, List.setIfInBounds_toArray, List.set_cons_zero, List.set_cons_succ]
  refine C_load (i := 4) (v := ?v1_4) [10] rfl (by kernel_rfl) (fun _ _ _ h => h) (Or.inl ⟨by rfl, ?y1_4⟩) hSd ?r1_4
  case y1_4 => ((intro w0 hSw; obtain ⟨kq, kb⟩ := hSw; have k0 := kq.cell 0; have b0 := kb.cell 0; have b1 := kb.cell 1; clear kq kb; go_simp); try with_reducible rfl)
  try simp only [Act.put, List.getElem_toArray, List.getElem_cons_succ, List.getElem_cons_zero, List.setIfInBounds_toArray, List.set_cons_zero, List.set_cons_succ]
  refine C_load (i := 5) (v := ?v1_5) [10] rfl (by kernel_rfl) (fun _ _ _ h => h) (Or.inl ⟨by rfl, ?y1_5⟩) hSd ?r1_5
  case y1_5 => ((intro w0 hSw; obtain ⟨kq, kb⟩ := hSw; have k0 := kq.cell 0; have b0 := kb.cell 0; have b1 := kb.cell 1; clear kq kb; go_simp); try with_reducible rfl)
  try simp only [Act.put, List.getElem_toArray, List.getElem_cons_succ, List.getElem_cons_zero, List.setIfInBounds_toArray, List.set_cons_zero, List.set_cons_succ]
  refine C_one (i := 6) rfl (by kernel_rfl) (fun K hK => ?_)
  rw [if_pos (by rfl)]
  go_simp
  have hb : Below V0.heap.size V0 (V0.alloc (.cells #[.int .i64 x.side, .int .i64 x.height] 102)) := (Below.refl _ _).alloc (Nat.le_refl _) _
  have HH1 := Lib.hid (HH.out.below hb)
  have HT1 := Lib.hid (HT.out.trans (A' := A) (.of_below hb) (.inl rfl))
  have HB1 := Lib.hid (HB.out.below hb HB.out.lt)
  have HZ1 := Lib.hid (Nat.le_trans HWS.out hb.size)
  clear hb
  have hS1 := (show (fun V => Blk V q 154 #[.slice A l.length c, .func (.func 81) #[] #[]] ∧ Blk V W.heap.size 102 #[.int .i64 x.side, .int .i64 x.height]) _ from ⟨HH1.out.kq, HB1.out⟩)
  refine hK _ _ (.inr hS1) ?_
  clear hK K hSd
  have hSd := hS1
  clear hS1
  try simp only [Act.put, List.getElem_toArray, List.getElem_cons_succ, List.getElem_cons_zero, List.setIfInBounds_toArray, List.set_cons_zero, List.set_cons_succ]
  refine C_one (i := 7) rfl (by kernel_rfl) (fun K hK => ?_)
  rw [if_pos (by rfl)]
  refine wp_append_lies _ _ _ 152 (by rfl) 0 102 i0 _ 2 16 und_sets hi hz0 hz1 hz2 rfl (by decide) (.slice A l.length c) l.length (setsV l) (by rfl) HH1.out.row ⟨V0.heap.size, 0, none⟩ 1 1 [.int .i64 x.side, .int .i64 x.height] (by rfl) (by rfl) (World.news_of_block (cs := #[.int .i64 x.side, .int .i64 x.height]) (t := 102) (fr := (0, 0)) (World.alloc_heap_new V0 _)) (by simp [Value.oneCell']) (by omega) (by have := HL.out; unfold maxLen; omega) (by have := HL.out; omega) (Nat.zero_le _) _ rfl ?_
  intro g cap w1 hown hgr hat hlt
  obtain ⟨p1, p2, p3, p4, p5⟩ := HH1.out.pushed HB1.out (.inr HRO.out) hown hgr hat
  have HR2 := Lib.hid p1
  have HQ2 := Lib.hid p2
  have HB2 := Lib.hid p3
  have HT2 := Lib.hid (HT1.out.trans (A' := A) p4 (.inl rfl))
  have HN2 := Lib.hid (HNR.out.trans p5 HZ1.out)
  have HZ2 := Lib.hid (Nat.le_trans HZ1.out p4.size)
  clear hown hgr hat hlt p1 p2 p3 p4 p5 HH1 HT1 HB1 HZ1 HNR HH HT HB HWS
  have hS2 := (show (fun V => Blk V q 154 #[.slice A l.length c, .func (.func 81) #[] #[]] ∧ Blk V W.heap.size 102 #[.int .i64 x.side, .int .i64 x.height]) _ from ⟨HQ2.out, HB2.out⟩)
  refine hK _ _ (.inr hS2) ?_
  clear hK K hSd
  have hSd := hS2
  clear hS2
  try simp only [Act.put, List.getElem_toArray, List.getElem_cons_succ, List.getElem_cons_zero, List.setIfInBounds_toArray, List.set_cons_zero, List.set_cons_succ]
  refine C_take (i := 8) (v := ?v1_8) rfl (by kernel_rfl) (fun _ _ _ h => h) (Or.inl ⟨by rfl, ?y1_8⟩) (Or.inr hSd) ?r1_8
  case y1_8 => (intro w0 _; go_simp; try with_reducible rfl)
  try simp only [Act.put, List.getElem_toArray, List.getElem_cons_succ, List.getElem_cons_zero, List.setIfInBounds_toArray, List.set_cons_zero, List.set_cons_succ]
  refine C_take (i := 9) (v := ?v1_9) rfl (by kernel_rfl) (fun _ _ _ h => h) (Or.inl ⟨by rfl, ?y1_9⟩) (Or.inr hSd) ?r1_9
  case y1_9 => (intro w0 _; go_simp; try with_reducible rfl)
  try simp only [Act.put, List.getElem_toArray, List.getElem_cons_succ, List.getElem_cons_zero, List.setIfInBounds_toArray, List.set_cons_zero, List.set_cons_succ]
  refine C_one (i := 10) rfl (by kernel_rfl) (fun K hK => ?_)
  rw [if_pos (by rfl)]
  have k0 := HQ2.out.cell 0
  have f0 := HQ2.out.frozen 0
  go_simp
  clear k0 f0
  refine hK _ _ (.inl (by kernel_rfl)) ?_
  clear hK K
  try clear hSd
  try simp only [Act.put, List.getElem_toArray, List.getElem_cons_succ, List.getElem_cons_zero, List.setIfInBounds_toArray, List.set_cons_zero, List.set_cons_succ]
  refine C_done (by kernel_rfl) ?_ _
  have hs3 := HeapAt.stored (A := A) HQ2.out rfl HR2.out (by simp)
  have HH3 := Lib.hid hs3.1
  have HT3 := Lib.hid (HT2.out.trans (A' := A) hs3.2 (.inl rfl))
  have HN3 : Hid (NewRow A (some ⟨g, 0, none⟩) W) := HN2
  have HZ3 : Hid (W.heap.size ≤ (World.setCell w1 ⟨q, 0, none⟩ (.slice (some ⟨g, 0, none⟩) (l.length + 1) cap)).heap.size) := Lib.hid (by simpa [World.setCell] using HZ2.out)
  clear hs3 HQ2 HR2 HB2 HT2 HN2 HZ2
  generalize World.setCell w1 _ _ = V3 at *
  have k0 : V3.cell? ⟨q, 0, none⟩ = some (.slice (some ⟨g, 0, none⟩) (l.length + 1) cap) := by have := HH3.out.kq.cell 0; rw [List.length_append] at this; exact this
  obtain ⟨n, hn⟩ : ∃ n, l.length = n := ⟨_, rfl⟩
  have HN := Lib.hid hn
  have HLX : Hid ((l ++ [x]).length = n + 1) := Lib.hid (by simp [hn])
  rw [hn] at k0 HL HPU
  have hn9 : n ≤ 9000 := HL.out
  have w1 : IntKind.i64.wrap ((n : Int) + 1 - 1) = (n : Int) := by rw [show (n : Int) + 1 - 1 = n by omega]; exact IntWalk.i64_in _ ⟨by omega, by omega⟩
  have w1' : IntKind.i64.wrap (n : Int) = (n : Int) := IntWalk.i64_in _ ⟨by omega, by omega⟩
  clear hn
  go_wp2_with fail
  clear k0 w1
  go_loopw [4] (fun v wr => ∃ (i : Nat) (y : List Setg) (f : Nat), i ≤ n ∧ v = .int .i64 (i : Int) ∧ Hid (y.length = n + 1) ∧ Hid (i ≤ f) ∧ Hid (upH f y i = P) ∧ Hid (∀ s ∈ y, InSet s) ∧ Hid (HeapAt wr q (some ⟨g, 0, none⟩) cap y) ∧ Hid (Touch q A W wr)) (fun v _ => (intOf v).toNat)
  case atStart => exact ⟨n, l ++ [x], n, Nat.le_refl _, by go_num, HLX, Lib.hid (Nat.le_refl _), Lib.hid HPU.out.symm, HI, HH3, HT3⟩
  case round =>
    clear HH3 HT3 HI HLX HPU HN HRO
    obtain ⟨i, y, f, hin, rfl, HYN, HF, HR, HI, HH, HT⟩ := hrel
    by_cases hi0 : 0 < i
    · have hi1 : (0 : Int) < i := by omega
      obtain ⟨f', hf1, hst⟩ := upH_step (f := f) (l := y) HF.out hi0
      rw [HR.out] at hst
      obtain ⟨a, ha⟩ : ∃ a, (i - 1) / 2 = a := ⟨_, rfl⟩
      rw [ha] at hst
      have w2 : IntKind.i64.wrap ((i : Int) - 1) = (i : Int) - 1 := IntWalk.i64_in _ ⟨by omega, by omega⟩
      have e1 : ((i : Int) - 1) / 2 = (a : Int) := by omega
      have e2 : ((i : Int) - 1).tdiv 2 = (a : Int) := by rw [Int.tdiv_eq_ediv_of_nonneg (by omega)]; exact e1
      have w3 : IntKind.i64.wrap (a : Int) = (a : Int) := IntWalk.i64_in _ ⟨by omega, by omega⟩
      have HAB : Hid (a < i ∧ a < y.length ∧ i < y.length ∧ a ≤ f') := Lib.hid (by have := HYN.out; have := HF.out; omega)
      have HSW := Lib.hid fun V h => swapped5_any V q (some ⟨g, 0, none⟩) cap a i y h HAB.out.2.1 HAB.out.2.2.1 HI.out (by rw [HYN.out]; omega)
      have HST := Lib.hid hst
      clear hst ha hf1
      go_wp2_with fail
      refine (HSW.out _ HH.out).mono ?_
      rintro e W5 ⟨rfl, hh5, ht5⟩
      replace HH := Lib.hid hh5
      replace HT := Lib.hid (HT.out.trans ht5 (HN3.out.imp (fun h => h) (fun h i hi => h i hi)))
      clear hh5 ht5 HSW
      have HSI := Lib.hid (swapS_in HI.out HAB.out.2.1 HAB.out.2.2.1)
      generalize befB (y.getD i zS) (y.getD a zS) = b2 at *
      cases b2 with
      | false =>
        go_wp2_with fail
        go_end0
        exact ⟨⟨_, rfl⟩, _, _, by have h1 := HH.out; have h2 := HST.out; simp only [Bool.false_eq_true, if_false] at h1 h2; rw [h2]; exact h1, HT.out, HN3.out⟩
      | true =>
        have HST2 : Hid (upH f' (swapS y a i) a = P) := Lib.hid (by have h2 := HST.out; simp only [if_true] at h2; exact h2.symm)
        have HH2 : Hid (HeapAt W5 q (some ⟨g, 0, none⟩) cap (swapS y a i)) := Lib.hid (by have h2 := HH.out; simp only [if_true] at h2; exact h2)
        clear HH HST
        go_wp2_with fail
        go_roundw
        case rel => exact ⟨a, swapS y a i, f', by have := HAB.out; omega, rfl, Lib.hid (by rw [swapS_len, HYN.out]), Lib.hid HAB.out.2.2.2, HST2, HSI, HH2, HT⟩
        case measure => have := HAB.out; simp [intOf]; omega
    · obtain rfl : i = 0 := by omega
      have HE : Hid (y = P) := Lib.hid (by rw [← HR.out, upH_zero])
      clear hi0
      go_wp2_with fail
      go_end0
      exact ⟨⟨_, rfl⟩, _, _, HE.out ▸ HH.out, HT.out, HN3.out⟩
end Go.Proofs.Ytfpfafijockfnaa