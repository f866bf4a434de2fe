/- Walks: how far off all leads of a sandwich can lie. -/
import Derived.Test.YtfpfafijockfnaaSp
import Derived.Test.YtfpfafijockfnaaRd
import Derived.LoopN
namespace Go.Proofs.Ytfpfafijockfnaa
open Go.RowKit Go.Shelf
attribute [local go_sem] Oper.semAt_some

/-- A row that has been changed up to its k-th lead. -/
def rowMix (N k : Nat) (x y : Nat → Lead) : List Lead := (List.range N).map fun i => if i < k then x i else y i
def rowOf (N : Nat) (x : Nat → Lead) : List Lead := (List.range N).map x
theorem rowMix_len (N k : Nat) (x y : Nat → Lead) : (rowMix N k x y).length = N := by simp [rowMix]
theorem rowMix_zero (N : Nat) (x y : Nat → Lead) : rowMix N 0 x y = rowOf N y := by simp [rowMix, rowOf]
theorem rowMix_all (N : Nat) (x y : Nat → Lead) : rowMix N N x y = rowOf N x := by
  unfold rowMix rowOf
  refine List.map_congr_left fun i hi => ?_
  rw [if_pos (List.mem_range.1 hi)]
theorem rowMix_get {N k : Nat} {x y : Nat → Lead} {i : Nat} (h : i < (rowMix N k x y).length) : (rowMix N k x y)[i] = if i < k then x i else y i := by simp [rowMix]
theorem rowMix_set {N k : Nat} (x y : Nat → Lead) : (rowMix N k x y).set k (x k) = rowMix N (k + 1) x y := by
  refine List.ext_getElem (by simp [rowMix]) fun i h1 h2 => ?_
  rw [List.getElem_set, rowMix_get, rowMix_get]
  by_cases e : k = i
  · subst e; simp
  · rw [if_neg e]
    by_cases h : i < k
    · rw [if_pos h, if_pos (by omega)]
    · rw [if_neg h, if_neg (by omega)]
theorem row_zero (N : Nat) : List.replicate N (⟨⟨0, 0⟩, ⟨0, 0⟩⟩ : Lead) = rowOf N fun _ => ⟨⟨0, 0⟩, ⟨0, 0⟩⟩ := by simp [rowOf, List.map_const']
theorem LdRow.put {W : World} {g : Nat} {l : List Lead} (h : LdRow W g l) (D : Nat) (o : Obj) (hD : g ≠ D) : LdRow (W.putObj D o) g l := by
  have hh : (W.putObj D o).heap[g]? = W.heap[g]? := World.putObj_heap_other hD
  have q : ∀ k, (W.putObj D o).cell? ⟨g, k, none⟩ = W.cell? ⟨g, k, none⟩ := fun k => World.cell?_of_block (a := ⟨g, k, none⟩) hh
  refine ⟨by simpa [World.putObj] using h.lt, fun i hi => ?_, fun k => ?_⟩
  · obtain ⟨a0, a1, a2, a3⟩ := h.at_ i hi
    exact ⟨(q _).trans a0, (q _).trans a1, (q _).trans a2, (q _).trans a3⟩
  · have := h.fr k
    simp only [World.frozen?, hh] at this ⊢
    exact this
/-- What is in hand while the leads are made. -/
structure LdS (w : World) (q3 g h N th : Nat) (C H : Array Value) (row : List Lead) (W : World) : Prop where
  k0 : Blk W w.heap.size 95 C
  k3 : Blk W q3 93 #[.slice (some ⟨g, 0, none⟩) N N]
  kh : Blk W h th H
  kl : LdRow W g row
  hb : Below w.heap.size w W
section
variable {w : World} {q3 g h N th : Nat} {C H : Array Value} {row : List Lead} {W W' : World}
theorem LdS.low (x : LdS w q3 g h N th C H row W) {B : Nat} (hb : Below B W W') (h0 : w.heap.size < B) (h1 : q3 < B) (h2 : g < B) (h3 : h < B) : LdS w q3 g h N th C H row W' :=
  ⟨x.k0.below hb h0, x.k3.below hb h1, x.kh.below hb h3, x.kl.low hb h2, x.hb.trans (hb.mono (by omega))⟩
theorem LdS.call (x : LdS w q3 g h N th C H row W) (hb : Below W.heap.size W W') : LdS w q3 g h N th C H row W' := x.low hb x.k0.lt x.k3.lt x.kl.lt x.kh.lt
theorem LdS.put (x : LdS w q3 g h N th C H row W) (D : Nat) (o : Obj) (h0 : w.heap.size < D) (h1 : q3 < D) (h2 : g < D) (h3 : h < D) : LdS w q3 g h N th C H row (W.putObj D o) :=
  x.low (below_put (Nat.le_refl D) W o) h0 h1 h2 h3
theorem LdS.all (x : LdS w q3 g h N th C H row W) (hw : w.heap.size < g) (h1 : q3 ≠ g) (h2 : h ≠ g) {k : Nat} (hk : k < row.length) (d : Lead) : LdS w q3 g h N th C H (row.set k d) ((((W.setCell ⟨g, k * 4, none⟩ (.int .i64 d.side.lo)).setCell ⟨g, k * 4 + 1, none⟩ (.int .i64 d.side.hi)).setCell ⟨g, k * 4 + 2, none⟩ (.int .i64 d.height.lo)).setCell ⟨g, k * 4 + 3, none⟩ (.int .i64 d.height.hi)) :=
  ⟨(((x.k0.far (by simp only []; omega) _).far (by simp only []; omega) _).far (by simp only []; omega) _).far (by simp only []; omega) _, (((x.k3.far (by simp only []; omega) _).far (by simp only []; omega) _).far (by simp only []; omega) _).far (by simp only []; omega) _, (((x.kh.far (by simp only []; omega) _).far (by simp only []; omega) _).far (by simp only []; omega) _).far (by simp only []; omega) _, x.kl.all hk d, (((x.hb.setCell (by simp only []; omega) _).setCell (by simp only []; omega) _).setCell (by simp only []; omega) _).setCell (by simp only []; omega) _⟩
theorem LdS.side (x : LdS w q3 g h N th C H row W) (hw : w.heap.size < g) (h1 : q3 ≠ g) (h2 : h ≠ g) {k : Nat} (hk : k < row.length) (s : Span) : LdS w q3 g h N th C H (row.set k ⟨s, row[k].height⟩) ((W.setCell ⟨g, k * 4, none⟩ (.int .i64 s.lo)).setCell ⟨g, k * 4 + 1, none⟩ (.int .i64 s.hi)) :=
  ⟨(x.k0.far (by simp only []; omega) _).far (by simp only []; omega) _, (x.k3.far (by simp only []; omega) _).far (by simp only []; omega) _, (x.kh.far (by simp only []; omega) _).far (by simp only []; omega) _, x.kl.side hk s, (x.hb.setCell (by simp only []; omega) _).setCell (by simp only []; omega) _⟩
end
theorem leads_eq {j : Jig} {a b : Slat} {N : Nat} (h : j.grooves = N) : leadsOf j a b = rowOf N fun i => ⟨sumS [sumS [timesS (-2) j.side, placeS a i], placeS b i], heightS j a b⟩ := by
  unfold leadsOf rowOf leadOf
  rw [h, Int.toNat_natCast]
  refine List.map_congr_left fun i _ => ?_
  simp only [Lead.mk.injEq, and_true, sideS, sumS, addS, List.foldl_cons, List.foldl_nil, Int.zero_add]
  unfold timesS
  rw [if_pos (by omega)]
theorem made_leads (N : Nat) (hN : N ≤ 10) (W : World) : (Instr.makeSlice 93 (.int .i64 (N : Int)) (.int .i64 (N : Int))).run Try.prog W = .ok (.slice (some ⟨W.heap.size, 0, none⟩) N N) (W.alloc (.cells (madeCells #[.int .i64 0, .int .i64 0, .int .i64 0, .int .i64 0] (N * 4)) 109)) := by
  have hi : (Try.prog.info? 109).map (fun i => (i.zero, i.size, i.bytes)) = some (some (.agg #[.int .i64 0, .int .i64 0, .int .i64 0, .int .i64 0]), 4, 32) := by kernel_rfl
  obtain ⟨i, hi, hzz⟩ := Option.map_eq_some_iff.1 hi
  simp only [Prod.mk.injEq] at hzz
  obtain ⟨hz, hs, hb⟩ := hzz
  have hr := run_make (P := Try.prog) W 93 109 i _ (by kernel_rfl) hi hz .i64 .i64 N N (by omega) (Int.le_refl _) (by rw [hb]; omega) (by omega)
  rw [hs, Int.toNat_natCast] at hr
  exact hr
theorem side_fars {j : Jig} {a b : Slat} (hj : JigIn j) (ha : SlatIn a) (hb : SlatIn b) {i : Nat} (hi : i ≤ 9) : Far (timesS (-2) j.side) ∧ Far (placeS a i) ∧ Far (sumS [timesS (-2) j.side, placeS a i]) ∧ Far (placeS b i) := by
  have p := place_bd ha (i := (i : Int)) (by omega) (by omega)
  have q := place_bd hb (i := (i : Int)) (by omega) (by omega)
  have := hj.s0; have := hj.s1; have := hj.s2
  have e : timesS (-2) j.side = ⟨-2 * j.side.hi, -2 * j.side.lo⟩ := if_pos (by omega)
  rw [e]
  unfold SpanBd at p q
  unfold Far
  simp only [sumS, addS, List.foldl_cons, List.foldl_nil]
  omega
def RetLeads (l : List Lead) (n : Nat) (w : World) (e : Ending) (w' : World) : Prop := ∃ g, w.heap.size ≤ g ∧ e = .returned (.slice (some ⟨g, 0, none⟩) n n) ∧ LdRow w' g l ∧ Below w.heap.size w w'
set_option maxRecDepth 100000 in
set_option maxHeartbeats 8000000 in
theorem leads5_any (j : Jig) (a b : Slat) (N : Nat) (w : World) (hj : JigIn j) (ha : SlatIn a) (hb : SlatIn b) (hN : j.grooves = N) : Calls Try.prog 46 #[.agg #[.int .i64 j.glue.lo, .int .i64 j.glue.hi, .int .i64 j.lead.lo, .int .i64 j.lead.hi, .int .i64 j.side.lo, .int .i64 j.side.hi, .int .i64 j.height.lo, .int .i64 j.height.hi, .int .i64 j.play, .int .i64 j.grooves, .int .i64 a.thick.lo, .int .i64 a.thick.hi, .int .i64 a.depth.lo, .int .i64 a.depth.hi, .int .i64 a.shift.lo, .int .i64 a.shift.hi, .int .i64 a.pitch.lo, .int .i64 a.pitch.hi, .int .i64 b.thick.lo, .int .i64 b.thick.hi, .int .i64 b.depth.lo, .int .i64 b.depth.hi, .int .i64 b.shift.lo, .int .i64 b.shift.hi, .int .i64 b.pitch.lo, .int .i64 b.pitch.hi]] w (RetLeads (leadsOf j a b) N w) := by
  have hN1 : 1 ≤ N ∧ N ≤ 10 := by have := hj.n0; have := hj.n1; omega
  have HLE : Hid (leadsOf j a b = rowOf N fun i => ⟨sumS [sumS [timesS (-2) j.side, placeS a i], placeS b i], heightS j a b⟩) := Lib.hid (leads_eq hN)
  have HT : Hid (∀ W : World, Calls Try.prog 77 #[.agg #[.int .i64 j.side.lo, .int .i64 j.side.hi], .int .i64 (-2)] W (Ret (.agg #[.int .i64 (timesS (-2) j.side).lo, .int .i64 (timesS (-2) j.side).hi]) W)) := Lib.hid fun W => times5_any j.side (-2) W (by have := hj.s0; have := hj.s1; have := hj.s2; unfold Far; omega) (by omega)
  have HH : Hid (∀ W : World, Calls Try.prog 78 #[.agg #[.int .i64 j.glue.lo, .int .i64 j.glue.hi, .int .i64 j.lead.lo, .int .i64 j.lead.hi, .int .i64 j.side.lo, .int .i64 j.side.hi, .int .i64 j.height.lo, .int .i64 j.height.hi, .int .i64 j.play, .int .i64 j.grooves, .int .i64 a.thick.lo, .int .i64 a.thick.hi, .int .i64 a.depth.lo, .int .i64 a.depth.hi, .int .i64 a.shift.lo, .int .i64 a.shift.hi, .int .i64 a.pitch.lo, .int .i64 a.pitch.hi, .int .i64 b.thick.lo, .int .i64 b.thick.hi, .int .i64 b.depth.lo, .int .i64 b.depth.hi, .int .i64 b.shift.lo, .int .i64 b.shift.hi, .int .i64 b.pitch.lo, .int .i64 b.pitch.hi]] W (Ret (.agg #[.int .i64 (heightS j a b).lo, .int .i64 (heightS j a b).hi]) W)) := Lib.hid fun W => height5_any j a b W hj ha hb
  have HM : Hid (∀ W : World, (Instr.makeSlice 93 (.int .i64 (N : Int)) (.int .i64 (N : Int))).run Try.prog W = .ok (.slice (some ⟨W.heap.size, 0, none⟩) N N) (W.alloc (.cells (madeCells #[.int .i64 0, .int .i64 0, .int .i64 0, .int .i64 0] (N * 4)) 109))) := Lib.hid (made_leads N hN1.2)
  have HFA : Hid (∀ i : Nat, i < N → Far (timesS (-2) j.side) ∧ Far (placeS a i) ∧ Far (sumS [timesS (-2) j.side, placeS a i]) ∧ Far (placeS b i)) := Lib.hid fun i hi => side_fars hj ha hb (by omega)
  have HIA := Lib.hid ha
  have HIB := Lib.hid hb
  generalize timesS (-2) j.side = sd at *
  generalize heightS j a b = ht at *
  generalize leadsOf j a b = out at *
  have hN' : (N : Int) ≤ 10 := by omega
  have hN0 : (1 : Int) ≤ N := by omega
  have HNN := Lib.hid hN1
  have K0 := Lib.hid (Blk.new w 95 #[.int .i64 j.glue.lo, .int .i64 j.glue.hi, .int .i64 j.lead.lo, .int .i64 j.lead.hi, .int .i64 j.side.lo, .int .i64 j.side.hi, .int .i64 j.height.lo, .int .i64 j.height.hi, .int .i64 j.play, .int .i64 j.grooves, .int .i64 a.thick.lo, .int .i64 a.thick.hi, .int .i64 a.depth.lo, .int .i64 a.depth.hi, .int .i64 a.shift.lo, .int .i64 a.shift.hi, .int .i64 a.pitch.lo, .int .i64 a.pitch.hi, .int .i64 b.thick.lo, .int .i64 b.thick.hi, .int .i64 b.depth.lo, .int .i64 b.depth.hi, .int .i64 b.shift.lo, .int .i64 b.shift.hi, .int .i64 b.pitch.lo, .int .i64 b.pitch.hi])
  have HB := Lib.hid (show Below w.heap.size w (w.alloc (.cells #[.int .i64 j.glue.lo, .int .i64 j.glue.hi, .int .i64 j.lead.lo, .int .i64 j.lead.hi, .int .i64 j.side.lo, .int .i64 j.side.hi, .int .i64 j.height.lo, .int .i64 j.height.hi, .int .i64 j.play, .int .i64 j.grooves, .int .i64 a.thick.lo, .int .i64 a.thick.hi, .int .i64 a.depth.lo, .int .i64 a.depth.hi, .int .i64 a.shift.lo, .int .i64 a.shift.hi, .int .i64 a.pitch.lo, .int .i64 a.pitch.hi, .int .i64 b.thick.lo, .int .i64 b.thick.hi, .int .i64 b.depth.lo, .int .i64 b.depth.hi, .int .i64 b.shift.lo, .int .i64 b.shift.hi, .int .i64 b.pitch.lo, .int .i64 b.pitch.hi] 95)) from (Below.refl _ _).alloc (Nat.le_refl _) _)
  rw [hN] at *
  clear hj ha hb hN hN1
  refine (callsIn_wide (n := 10)).1 ?_
  refine callsIn_of_wp_marks Try.func46 rfl trivial ?_ rfl
  simp only [Try.ntmps46, List.size_toArray, List.length_cons, List.length_nil, Nat.reduceAdd, Nat.reduceSub, Array.replicate_succ, Array.replicate_zero, List.push_toArray, List.append_toArray, List.nil_append, List.cons_append]
  refine wpIn_wide.2 ?_
  have hmk := HM.out
  have x9 := K0.out.cell 9
  have HS : Hid (LdS w (w.heap.size + 1 + 1) (w.heap.size + 1) w.heap.size N 95 #[.int .i64 j.glue.lo, .int .i64 j.glue.hi, .int .i64 j.lead.lo, .int .i64 j.lead.hi, .int .i64 j.side.lo, .int .i64 j.side.hi, .int .i64 j.height.lo, .int .i64 j.height.hi, .int .i64 j.play, .int .i64 (N : Int), .int .i64 a.thick.lo, .int .i64 a.thick.hi, .int .i64 a.depth.lo, .int .i64 a.depth.hi, .int .i64 a.shift.lo, .int .i64 a.shift.hi, .int .i64 a.pitch.lo, .int .i64 a.pitch.hi, .int .i64 b.thick.lo, .int .i64 b.thick.hi, .int .i64 b.depth.lo, .int .i64 b.depth.hi, .int .i64 b.shift.lo, .int .i64 b.shift.hi, .int .i64 b.pitch.lo, .int .i64 b.pitch.hi] #[.int .i64 j.glue.lo, .int .i64 j.glue.hi, .int .i64 j.lead.lo, .int .i64 j.lead.hi, .int .i64 j.side.lo, .int .i64 j.side.hi, .int .i64 j.height.lo, .int .i64 j.height.hi, .int .i64 j.play, .int .i64 (N : Int), .int .i64 a.thick.lo, .int .i64 a.thick.hi, .int .i64 a.depth.lo, .int .i64 a.depth.hi, .int .i64 a.shift.lo, .int .i64 a.shift.hi, .int .i64 a.pitch.lo, .int .i64 a.pitch.hi, .int .i64 b.thick.lo, .int .i64 b.thick.hi, .int .i64 b.depth.lo, .int .i64 b.depth.hi, .int .i64 b.shift.lo, .int .i64 b.shift.hi, .int .i64 b.pitch.lo, .int .i64 b.pitch.hi] (rowOf N fun _ => ⟨⟨0, 0⟩, ⟨0, 0⟩⟩) (((w.alloc (.cells #[.int .i64 j.glue.lo, .int .i64 j.glue.hi, .int .i64 j.lead.lo, .int .i64 j.lead.hi, .int .i64 j.side.lo, .int .i64 j.side.hi, .int .i64 j.height.lo, .int .i64 j.height.hi, .int .i64 j.play, .int .i64 (N : Int), .int .i64 a.thick.lo, .int .i64 a.thick.hi, .int .i64 a.depth.lo, .int .i64 a.depth.hi, .int .i64 a.shift.lo, .int .i64 a.shift.hi, .int .i64 a.pitch.lo, .int .i64 a.pitch.hi, .int .i64 b.thick.lo, .int .i64 b.thick.hi, .int .i64 b.depth.lo, .int .i64 b.depth.hi, .int .i64 b.shift.lo, .int .i64 b.shift.hi, .int .i64 b.pitch.lo, .int .i64 b.pitch.hi] 95)).alloc (.cells (madeCells #[.int .i64 0, .int .i64 0, .int .i64 0, .int .i64 0] (N * 4)) 109)).alloc (.cells #[.slice (some ⟨w.heap.size + 1, 0, none⟩) N N] 93))) := by
    have h1 := made4 (w.alloc (.cells #[.int .i64 j.glue.lo, .int .i64 j.glue.hi, .int .i64 j.lead.lo, .int .i64 j.lead.hi, .int .i64 j.side.lo, .int .i64 j.side.hi, .int .i64 j.height.lo, .int .i64 j.height.hi, .int .i64 j.play, .int .i64 (N : Int), .int .i64 a.thick.lo, .int .i64 a.thick.hi, .int .i64 a.depth.lo, .int .i64 a.depth.hi, .int .i64 a.shift.lo, .int .i64 a.shift.hi, .int .i64 a.pitch.lo, .int .i64 a.pitch.hi, .int .i64 b.thick.lo, .int .i64 b.thick.hi, .int .i64 b.depth.lo, .int .i64 b.depth.hi, .int .i64 b.shift.lo, .int .i64 b.shift.hi, .int .i64 b.pitch.lo, .int .i64 b.pitch.hi] 95)) N
    rw [row_zero, World.size_alloc] at h1
    exact Lib.hid ⟨(K0.out.alloc _).alloc _, blk5 _ _ (by simp) rfl, (K0.out.alloc _).alloc _, h1.call ((Below.refl _ _).alloc (Nat.le_refl _) _), (HB.out.alloc HB.out.size _).alloc (by simp; omega) _⟩
  have hgw : w.heap.size < w.heap.size + 1 := by omega
  have hq3g : w.heap.size + 1 + 1 ≠ w.heap.size + 1 := by omega
  clear HB
  go_wp2_with fail
  clear x9 hmk K0
  generalize World.alloc (World.alloc (World.alloc w _) _) _ = V at HS ⊢
  generalize w.heap.size + 1 + 1 = q3 at *
  generalize w.heap.size + 1 = g at *
  rw [← rowMix_zero N (fun _ => ⟨sd, ht⟩)] at HS
  go_loopw [15] (fun i wr => ∃ k : Nat, k ≤ N ∧ i = .int .i64 k ∧ Hid (LdS w q3 g w.heap.size N 95 #[.int .i64 j.glue.lo, .int .i64 j.glue.hi, .int .i64 j.lead.lo, .int .i64 j.lead.hi, .int .i64 j.side.lo, .int .i64 j.side.hi, .int .i64 j.height.lo, .int .i64 j.height.hi, .int .i64 j.play, .int .i64 (N : Int), .int .i64 a.thick.lo, .int .i64 a.thick.hi, .int .i64 a.depth.lo, .int .i64 a.depth.hi, .int .i64 a.shift.lo, .int .i64 a.shift.hi, .int .i64 a.pitch.lo, .int .i64 a.pitch.hi, .int .i64 b.thick.lo, .int .i64 b.thick.hi, .int .i64 b.depth.lo, .int .i64 b.depth.hi, .int .i64 b.shift.lo, .int .i64 b.shift.hi, .int .i64 b.pitch.lo, .int .i64 b.pitch.hi] #[.int .i64 j.glue.lo, .int .i64 j.glue.hi, .int .i64 j.lead.lo, .int .i64 j.lead.hi, .int .i64 j.side.lo, .int .i64 j.side.hi, .int .i64 j.height.lo, .int .i64 j.height.hi, .int .i64 j.play, .int .i64 (N : Int), .int .i64 a.thick.lo, .int .i64 a.thick.hi, .int .i64 a.depth.lo, .int .i64 a.depth.hi, .int .i64 a.shift.lo, .int .i64 a.shift.hi, .int .i64 a.pitch.lo, .int .i64 a.pitch.hi, .int .i64 b.thick.lo, .int .i64 b.thick.hi, .int .i64 b.depth.lo, .int .i64 b.depth.hi, .int .i64 b.shift.lo, .int .i64 b.shift.hi, .int .i64 b.pitch.lo, .int .i64 b.pitch.hi] (rowMix N k (fun _ => ⟨sd, ht⟩) fun _ => ⟨⟨0, 0⟩, ⟨0, 0⟩⟩) wr)) (fun i _ => N - (intOf i).toNat)
  case atStart => exact ⟨0, by omega, rfl, HS⟩
  case round =>
    clear HS
    obtain ⟨k, hk, rfl, HS⟩ := hrel
    by_cases hlt : k < N
    · go_wp2_with fail
      replace HS := Lib.hid (HS.out.call (Below.refl _ _).drew)
      have hki : (k : Int) < N := by omega
      have hk0 : (0 : Int) ≤ k := by omega
      refine wp_region_noPanic ?_
      refine wp_region_held_drew (S := fun W => Blk W w.heap.size 95 #[.int .i64 j.glue.lo, .int .i64 j.glue.hi, .int .i64 j.lead.lo, .int .i64 j.lead.hi, .int .i64 j.side.lo, .int .i64 j.side.hi, .int .i64 j.height.lo, .int .i64 j.height.hi, .int .i64 j.play, .int .i64 (N : Int), .int .i64 a.thick.lo, .int .i64 a.thick.hi, .int .i64 a.depth.lo, .int .i64 a.depth.hi, .int .i64 a.shift.lo, .int .i64 a.shift.hi, .int .i64 a.pitch.lo, .int .i64 a.pitch.hi, .int .i64 b.thick.lo, .int .i64 b.thick.hi, .int .i64 b.depth.lo, .int .i64 b.depth.hi, .int .i64 b.shift.lo, .int .i64 b.shift.hi, .int .i64 b.pitch.lo, .int .i64 b.pitch.hi] ∧ Blk W q3 93 #[.slice (some ⟨g, 0, none⟩) N N]) (by kernel_rfl) ⟨HS.out.k0, HS.out.k3⟩ (fun hH0 => ?_)
      generalize World.drew _ = V0 at *
      simp only [List.size_toArray, List.length_cons, List.length_nil, Nat.reduceAdd, Array.replicate_succ, Array.replicate_zero, List.push_toArray, List.nil_append, List.cons_append]
      refine wpAnyH_take (i := 0 ) (v := ?_) rfl (by kernel_rfl) (by kernel_rfl) (by kernel_rfl) (fun _ _ _ h => h) (Or.inl ⟨by rfl, ?_⟩) (by assumption) ?_; rotate_left; (· (intro w0 hSw; obtain ⟨k0, k3⟩ := hSw; have s4 := k0.cell 4; have s5 := k0.cell 5; have t0 := k3.cell 0; clear k0 k3; go_simp); first | done | with_reducible rfl); (try simp only [Act.put, List.getElem_toArray, List.getElem_cons_zero, List.setIfInBounds_toArray, List.set_cons_zero, List.set_cons_succ])
      refine wpAnyH_take (i := 1 ) (v := ?_) rfl (by kernel_rfl) (by kernel_rfl) (by kernel_rfl) (fun _ _ _ h => h) (Or.inl ⟨by rfl, ?_⟩) (by assumption) ?_; rotate_left; (· (intro w0 hSw; obtain ⟨k0, k3⟩ := hSw; have s4 := k0.cell 4; have s5 := k0.cell 5; have t0 := k3.cell 0; clear k0 k3; go_simp); first | done | with_reducible rfl); (try simp only [Act.put, List.getElem_toArray, List.getElem_cons_succ, List.getElem_cons_zero, List.setIfInBounds_toArray, List.set_cons_zero, List.set_cons_succ])
      refine wpAnyH_take (i := 2 ) (v := ?_) rfl (by kernel_rfl) (by kernel_rfl) (by kernel_rfl) (fun _ _ _ h => h) (Or.inl ⟨by rfl, ?_⟩) (by assumption) ?_; rotate_left; (· (intro w0 hSw; obtain ⟨k0, k3⟩ := hSw; have s4 := k0.cell 4; have s5 := k0.cell 5; have t0 := k3.cell 0; clear k0 k3; go_simp); first | done | with_reducible rfl); (try simp only [Act.put, List.getElem_toArray, List.getElem_cons_succ, List.getElem_cons_zero, List.setIfInBounds_toArray, List.set_cons_zero, List.set_cons_succ])
      refine wpAnyH_take (i := 3 ) (v := ?_) rfl (by kernel_rfl) (by kernel_rfl) (by kernel_rfl) (fun _ _ _ h => h) (Or.inl ⟨by rfl, ?_⟩) (by assumption) ?_; rotate_left; (· (intro w0 hSw; obtain ⟨k0, k3⟩ := hSw; have s4 := k0.cell 4; have s5 := k0.cell 5; have t0 := k3.cell 0; clear k0 k3; go_simp); first | done | with_reducible rfl); (try simp only [Act.put, List.getElem_toArray, List.getElem_cons_succ, List.getElem_cons_zero, List.setIfInBounds_toArray, List.set_cons_zero, List.set_cons_succ])
      refine wpAnyH_take (i := 4 ) (v := ?_) rfl (by kernel_rfl) (by kernel_rfl) (by kernel_rfl) (fun _ _ _ h => h) (Or.inl ⟨by rfl, ?_⟩) (by assumption) ?_; rotate_left; (· (intro w0 hSw; obtain ⟨k0, k3⟩ := hSw; have s4 := k0.cell 4; have s5 := k0.cell 5; have t0 := k3.cell 0; clear k0 k3; go_simp); first | done | with_reducible rfl); (try simp only [Act.put, List.getElem_toArray, List.getElem_cons_succ, List.getElem_cons_zero, List.setIfInBounds_toArray, List.set_cons_zero, List.set_cons_succ])
      refine wpAnyH_take (i := 6) (v := _) rfl (by kernel_rfl) (by kernel_rfl) (by kernel_rfl) (fun _ _ _ h => h) (yieldsIf_load_mid (by rfl) _ _ rfl _ _ rfl [.int .i64 j.glue.lo, .int .i64 j.glue.hi, .int .i64 j.lead.lo, .int .i64 j.lead.hi, .int .i64 j.side.lo, .int .i64 j.side.hi, .int .i64 j.height.lo, .int .i64 j.height.hi, .int .i64 j.play, .int .i64 (N : Int), .int .i64 a.thick.lo, .int .i64 a.thick.hi, .int .i64 a.depth.lo, .int .i64 a.depth.hi, .int .i64 a.shift.lo, .int .i64 a.shift.hi, .int .i64 a.pitch.lo, .int .i64 a.pitch.hi, .int .i64 b.thick.lo, .int .i64 b.thick.hi, .int .i64 b.depth.lo, .int .i64 b.depth.hi, .int .i64 b.shift.lo, .int .i64 b.shift.hi, .int .i64 b.pitch.lo, .int .i64 b.pitch.hi] _ (fun w0 h0 => h0.1.range) (by rfl) (by rfl) (by kernel_rfl)) (by assumption) ?_
      (try simp only [Act.put, List.getElem_toArray, List.getElem_cons_succ, List.getElem_cons_zero, List.setIfInBounds_toArray, List.set_cons_zero, List.set_cons_succ])
      refine wpAnyH_ready (rs := [5]) (by kernel_rfl) (by simp) ?_
      refine AllReadyH.cons (by simp only [List.getElem?_toArray, List.getElem?_cons_succ, List.getElem?_cons_zero]; rfl) (fun K hK => ?_) AllReadyH.nil
      go_simp
      refine (HT.out _).mono ?_
      rintro e V1 ⟨rfl, hb⟩
      replace HS := Lib.hid (HS.out.call hb)
      clear hb
      refine hK.out _ _ ⟨HS.out.k0, HS.out.k3⟩ (fun hH1 => ?_)
      clear hK K
      try simp only [List.setIfInBounds_toArray, List.set_cons_zero, List.set_cons_succ]
      refine wpAnyH_ready (rs := [7]) (by kernel_rfl) (by simp) ?_
      refine AllReadyH.cons (by simp only [List.getElem?_toArray, List.getElem?_cons_succ, List.getElem?_cons_zero]; rfl) (fun K hK => ?_) AllReadyH.nil
      go_simp
      refine (HH.out _).mono ?_
      rintro e V2 ⟨rfl, hb⟩
      replace HS := Lib.hid (HS.out.call hb)
      clear hb
      refine hK.out _ _ ⟨HS.out.k0, HS.out.k3⟩ (fun hH2 => ?_)
      clear hK K
      try simp only [List.setIfInBounds_toArray, List.set_cons_zero, List.set_cons_succ]
      refine wpAnyH_take (i := 8 ) (v := ?_) rfl (by kernel_rfl) (by kernel_rfl) (by kernel_rfl) (fun _ _ _ h => h) (Or.inl ⟨by rfl, ?_⟩) (by assumption) ?_; rotate_left; (· (intro w0 hSw; obtain ⟨k0, k3⟩ := hSw; have s4 := k0.cell 4; have s5 := k0.cell 5; have t0 := k3.cell 0; clear k0 k3; go_simp); first | done | with_reducible rfl); (try simp only [Act.put, List.getElem_toArray, List.getElem_cons_succ, List.getElem_cons_zero, List.setIfInBounds_toArray, List.set_cons_zero, List.set_cons_succ])
      refine wpAnyH_take (i := 9 ) (v := ?_) rfl (by kernel_rfl) (by kernel_rfl) (by kernel_rfl) (fun _ _ _ h => h) (Or.inl ⟨by rfl, ?_⟩) (by assumption) ?_; rotate_left; (· (intro w0 hSw; obtain ⟨k0, k3⟩ := hSw; have s4 := k0.cell 4; have s5 := k0.cell 5; have t0 := k3.cell 0; clear k0 k3; go_simp); first | done | with_reducible rfl); (try simp only [Act.put, List.getElem_toArray, List.getElem_cons_succ, List.getElem_cons_zero, List.setIfInBounds_toArray, List.set_cons_zero, List.set_cons_succ])
      refine wpAnyH_ready (rs := [10]) (by kernel_rfl) (by simp) ?_
      refine AllReadyH.cons (by simp only [List.getElem?_toArray, List.getElem?_cons_succ, List.getElem?_cons_zero]; rfl) (fun K hK => ?_) AllReadyH.nil
      obtain ⟨y0, y1, y2, y3⟩ := HS.out.kl.at_ k (by rw [rowMix_len]; exact hlt)
      have z0 := HS.out.kl.fr (k * 4)
      have z1 := HS.out.kl.fr (k * 4 + 1)
      have z2 := HS.out.kl.fr (k * 4 + 2)
      have z3 := HS.out.kl.fr (k * 4 + 3)
      go_simp
      replace HS := Lib.hid (HS.out.all hgw hq3g (by omega) (by rw [rowMix_len]; exact hlt) ⟨sd, ht⟩)
      rw [rowMix_set (fun _ => ⟨sd, ht⟩)] at HS
      clear y0 y1 y2 y3 z0 z1 z2 z3
      refine hK.out _ _ ⟨HS.out.k0, HS.out.k3⟩ (fun hH3 => ?_)
      clear hK K
      try simp only [List.setIfInBounds_toArray, List.set_cons_zero, List.set_cons_succ]
      refine wpAnyH_done (by kernel_rfl) ?_ _
      refine NoPanic.normal ?_
      go_wp2_with fail
      go_roundw
      case rel => exact ⟨k + 1, by omega, by go_num, HS⟩
      case measure => simp [intOf]; omega
    · obtain rfl : N = k := by omega
      rw [rowMix_all] at HS
      have K0 := Lib.hid HS.out.k0
      have s0 := K0.out.cell 0; have s1 := K0.out.cell 1; have s2 := K0.out.cell 2; have s3 := K0.out.cell 3; have s4 := K0.out.cell 4; have s5 := K0.out.cell 5; have s6 := K0.out.cell 6; have s7 := K0.out.cell 7; have s8 := K0.out.cell 8; have s9 := K0.out.cell 9; have s10 := K0.out.cell 10; have s11 := K0.out.cell 11; have s12 := K0.out.cell 12; have s13 := K0.out.cell 13; have s14 := K0.out.cell 14; have s15 := K0.out.cell 15; have s16 := K0.out.cell 16; have s17 := K0.out.cell 17; have s18 := K0.out.cell 18; have s19 := K0.out.cell 19; have s20 := K0.out.cell 20; have s21 := K0.out.cell 21; have s22 := K0.out.cell 22; have s23 := K0.out.cell 23; have s24 := K0.out.cell 24; have s25 := K0.out.cell 25
      have hsz := HS.out.hb.size
      have hgz := HS.out.kl.lt
      have h3z := HS.out.k3.lt
      have h0z := HS.out.k0.lt
      have hb := (Below.refl wr.heap.size wr).alloc (Nat.le_refl _) (.cells #[.int .i64 a.thick.lo, .int .i64 a.thick.hi, .int .i64 a.depth.lo, .int .i64 a.depth.hi, .int .i64 a.shift.lo, .int .i64 a.shift.hi, .int .i64 a.pitch.lo, .int .i64 a.pitch.hi, .int .i64 b.thick.lo, .int .i64 b.thick.hi, .int .i64 b.depth.lo, .int .i64 b.depth.hi, .int .i64 b.shift.lo, .int .i64 b.shift.hi, .int .i64 b.pitch.lo, .int .i64 b.pitch.hi] 37)
      have HL : Hid (LdS w q3 g wr.heap.size N 37 #[.int .i64 j.glue.lo, .int .i64 j.glue.hi, .int .i64 j.lead.lo, .int .i64 j.lead.hi, .int .i64 j.side.lo, .int .i64 j.side.hi, .int .i64 j.height.lo, .int .i64 j.height.hi, .int .i64 j.play, .int .i64 (N : Int), .int .i64 a.thick.lo, .int .i64 a.thick.hi, .int .i64 a.depth.lo, .int .i64 a.depth.hi, .int .i64 a.shift.lo, .int .i64 a.shift.hi, .int .i64 a.pitch.lo, .int .i64 a.pitch.hi, .int .i64 b.thick.lo, .int .i64 b.thick.hi, .int .i64 b.depth.lo, .int .i64 b.depth.hi, .int .i64 b.shift.lo, .int .i64 b.shift.hi, .int .i64 b.pitch.lo, .int .i64 b.pitch.hi] #[.int .i64 a.thick.lo, .int .i64 a.thick.hi, .int .i64 a.depth.lo, .int .i64 a.depth.hi, .int .i64 a.shift.lo, .int .i64 a.shift.hi, .int .i64 a.pitch.lo, .int .i64 a.pitch.hi, .int .i64 b.thick.lo, .int .i64 b.thick.hi, .int .i64 b.depth.lo, .int .i64 b.depth.hi, .int .i64 b.shift.lo, .int .i64 b.shift.hi, .int .i64 b.pitch.lo, .int .i64 b.pitch.hi] (rowOf N fun _ => ⟨sd, ht⟩) (wr.alloc (.cells #[.int .i64 a.thick.lo, .int .i64 a.thick.hi, .int .i64 a.depth.lo, .int .i64 a.depth.hi, .int .i64 a.shift.lo, .int .i64 a.shift.hi, .int .i64 a.pitch.lo, .int .i64 a.pitch.hi, .int .i64 b.thick.lo, .int .i64 b.thick.hi, .int .i64 b.depth.lo, .int .i64 b.depth.hi, .int .i64 b.shift.lo, .int .i64 b.shift.hi, .int .i64 b.pitch.lo, .int .i64 b.pitch.hi] 37))) := Lib.hid ⟨HS.out.k0.below hb h0z, HS.out.k3.below hb h3z, Blk.new _ _ _, HS.out.kl.low hb hgz, HS.out.hb.trans (hb.mono (by omega))⟩
      clear hb HS K0 hlt hk HT HH HM
      go_wp2_with fail
      clear s0 s1 s2 s3 s4 s5 s6 s7 s8 s9 s10 s11 s12 s13 s14 s15 s16 s17 s18 s19 s20 s21 s22 s23 s24 s25
      generalize World.alloc wr _ = V2 at HL ⊢
      generalize wr.heap.size = h at *
      refine wp_loop_rounds 3 ?_
      rw [rounds_succ]
      have c0 := HL.out.kh.cell 0
      have c1 := HL.out.kh.cell 1
      have c2 := HL.out.kh.cell 2
      have c3 := HL.out.kh.cell 3
      have c4 := HL.out.kh.cell 4
      have c5 := HL.out.kh.cell 5
      have c6 := HL.out.kh.cell 6
      have c7 := HL.out.kh.cell 7
      have n9 := HL.out.k0.cell 9
      have h0V := HL.out.k0.lt
      have hgV := HL.out.kl.lt
      have h3V := HL.out.k3.lt
      have hhV := HL.out.kh.lt
      go_wp2_with fail
      refine (mkPlaces_any _ a (N : Int)).mono ?_
      rintro e w' ⟨rfl, rfl⟩
      clear n9 c0 c1 c2 c3 c4 c5 c6 c7
      have hb : Below V2.heap.size V2 (((V2.alloc (.cells #[.int .i64 a.thick.lo, .int .i64 a.thick.hi, .int .i64 a.depth.lo, .int .i64 a.depth.hi, .int .i64 a.shift.lo, .int .i64 a.shift.hi, .int .i64 a.pitch.lo, .int .i64 a.pitch.hi] 37)).alloc (.cells #[.int .i64 a.thick.lo, .int .i64 a.thick.hi, .int .i64 a.depth.lo, .int .i64 a.depth.hi, .int .i64 a.shift.lo, .int .i64 a.shift.hi, .int .i64 a.pitch.lo, .int .i64 a.pitch.hi] 37)).alloc (.cells #[.int .i64 (N : Int)] 3)) := by repeat (first | exact Below.refl _ _ | assumption | refine Below.drew ?_ | refine Below.alloc ?_ (by first | omega | (simp only [World.size_alloc]; omega) | simp) _ | refine Below.setCell ?_ (by first | omega | (simp only [World.size_alloc]; omega) | simp) _)
      have hq : Blk (((V2.alloc (.cells #[.int .i64 a.thick.lo, .int .i64 a.thick.hi, .int .i64 a.depth.lo, .int .i64 a.depth.hi, .int .i64 a.shift.lo, .int .i64 a.shift.hi, .int .i64 a.pitch.lo, .int .i64 a.pitch.hi] 37)).alloc (.cells #[.int .i64 a.thick.lo, .int .i64 a.thick.hi, .int .i64 a.depth.lo, .int .i64 a.depth.hi, .int .i64 a.shift.lo, .int .i64 a.shift.hi, .int .i64 a.pitch.lo, .int .i64 a.pitch.hi] 37)).alloc (.cells #[.int .i64 (N : Int)] 3)) (V2.heap.size + 1) 37 #[.int .i64 a.thick.lo, .int .i64 a.thick.hi, .int .i64 a.depth.lo, .int .i64 a.depth.hi, .int .i64 a.shift.lo, .int .i64 a.shift.hi, .int .i64 a.pitch.lo, .int .i64 a.pitch.hi] := (blk5 (w := V2.alloc (.cells #[.int .i64 a.thick.lo, .int .i64 a.thick.hi, .int .i64 a.depth.lo, .int .i64 a.depth.hi, .int .i64 a.shift.lo, .int .i64 a.shift.hi, .int .i64 a.pitch.lo, .int .i64 a.pitch.hi] 37)) _ _ (by simp) rfl).alloc _
      have hq2 : Blk (((V2.alloc (.cells #[.int .i64 a.thick.lo, .int .i64 a.thick.hi, .int .i64 a.depth.lo, .int .i64 a.depth.hi, .int .i64 a.shift.lo, .int .i64 a.shift.hi, .int .i64 a.pitch.lo, .int .i64 a.pitch.hi] 37)).alloc (.cells #[.int .i64 a.thick.lo, .int .i64 a.thick.hi, .int .i64 a.depth.lo, .int .i64 a.depth.hi, .int .i64 a.shift.lo, .int .i64 a.shift.hi, .int .i64 a.pitch.lo, .int .i64 a.pitch.hi] 37)).alloc (.cells #[.int .i64 (N : Int)] 3)) (V2.heap.size + 1 + 1) 3 #[.int .i64 (N : Int)] := blk5 _ _ (by simp) rfl
      have HLb := Lib.hid (HL.out.call hb)
      clear HL hb
      go_wp2_with fail
      generalize World.alloc (World.alloc (World.alloc V2 _) _) _ = V3 at hq hq2 HLb ⊢
      have HN10 := HNN.out.2
      have hgV3 := HLb.out.kl.lt
      have h0V3 := HLb.out.k0.lt
      have h3V3 := HLb.out.k3.lt
      have hhV3 := HLb.out.kh.lt
      refine (wpIn_wide (n := 10)).1 ?_
      refine wpIn_rangeFunc_N (n := 10) (by omega) (gf := 98) (lb := #[.pointer (some ⟨V2.heap.size + 1, 0, none⟩), .pointer (some ⟨V2.heap.size + 1 + 1, 0, none⟩)]) rfl (enters_of Try.func98 (by kernel_rfl) rfl)
        (places_in 9 (by omega) (V2.heap.size + 1) (V2.heap.size + 1 + 1) g N a V3 HIA.out HN10 hq hq2 (by omega) hgV3) hgV3 (fun _ => rfl)
        (fun k W => LdS w q3 g h N 37 #[.int .i64 j.glue.lo, .int .i64 j.glue.hi, .int .i64 j.lead.lo, .int .i64 j.lead.hi, .int .i64 j.side.lo, .int .i64 j.side.hi, .int .i64 j.height.lo, .int .i64 j.height.hi, .int .i64 j.play, .int .i64 (N : Int), .int .i64 a.thick.lo, .int .i64 a.thick.hi, .int .i64 a.depth.lo, .int .i64 a.depth.hi, .int .i64 a.shift.lo, .int .i64 a.shift.hi, .int .i64 a.pitch.lo, .int .i64 a.pitch.hi, .int .i64 b.thick.lo, .int .i64 b.thick.hi, .int .i64 b.depth.lo, .int .i64 b.depth.hi, .int .i64 b.shift.lo, .int .i64 b.shift.hi, .int .i64 b.pitch.lo, .int .i64 b.pitch.hi] #[.int .i64 a.thick.lo, .int .i64 a.thick.hi, .int .i64 a.depth.lo, .int .i64 a.depth.hi, .int .i64 a.shift.lo, .int .i64 a.shift.hi, .int .i64 a.pitch.lo, .int .i64 a.pitch.hi, .int .i64 b.thick.lo, .int .i64 b.thick.hi, .int .i64 b.depth.lo, .int .i64 b.depth.hi, .int .i64 b.shift.lo, .int .i64 b.shift.hi, .int .i64 b.pitch.lo, .int .i64 b.pitch.hi] (rowMix N k (fun i => ⟨sumS [sd, placeS a i], ht⟩) (fun _ => ⟨sd, ht⟩)) W) ?hI ?h0 ?round ?done
      case hI => exact fun k X Y hX hXY => hX.low hXY h0V3 h3V3 hgV3 hhV3
      case h0 => rw [rowMix_zero]; exact HLb.out
      case round =>
        intro l k W hI hz hk
        have HW := Lib.hid hI
        have hbW : Below W.heap.size W (W.alloc (.cells #[.int .i64 (placeS a k).lo, .int .i64 (placeS a k).hi] 99)) := (Below.refl _ _).alloc (Nat.le_refl _) _
        have K8 := Lib.hid (Blk.new W 99 #[.int .i64 (placeS a k).lo, .int .i64 (placeS a k).hi])
        replace HW := Lib.hid (HW.out.call hbW)
        have HBW := Lib.hid hbW
        clear hI hbW
        gi_wp2
        refine ⟨HBW.out, fun o => ?_⟩
        have h8g : g ≠ W.heap.size := by omega
        have h38 : q3 ≠ W.heap.size := by omega
        replace HW := Lib.hid (HW.out.put (V3.heap.size + 1) o (by omega) (by omega) (by omega) (by omega))
        replace K8 : Hid (Blk ((W.alloc (.cells #[.int .i64 (placeS a k).lo, .int .i64 (placeS a k).hi] 99)).putObj (V3.heap.size + 1) o) W.heap.size 99 #[.int .i64 (placeS a k).lo, .int .i64 (placeS a k).hi]) := Lib.hid ((World.putObj_heap_other (by omega)).trans K8.out)
        clear HBW
        generalize World.putObj _ _ _ = W9 at HW K8 ⊢
        generalize W.heap.size = q8 at *
        have HFAk := Lib.hid (HFA.out k hk)
        have HU : Hid (∀ X : World, Calls Try.prog 80 #[.slice (some ⟨X.heap.size, 0, none⟩) 2 2] (X.alloc (.cells #[.int .i64 sd.lo, .int .i64 sd.hi, .int .i64 (placeS a k).lo, .int .i64 (placeS a k).hi] 99)) (Ret (.agg #[.int .i64 (sumS [sd, placeS a k]).lo, .int .i64 (sumS [sd, placeS a k]).hi]) (X.alloc (.cells #[.int .i64 sd.lo, .int .i64 sd.hi, .int .i64 (placeS a k).lo, .int .i64 (placeS a k).hi] 99)))) := Lib.hid fun X => sum5_any (X.alloc (.cells #[.int .i64 sd.lo, .int .i64 sd.hi, .int .i64 (placeS a k).lo, .int .i64 (placeS a k).hi] 99)) X.heap.size 0 2 [sd, placeS a k] (by simp) (two_spans (Blk.new _ _ _)) (by simp) (by
          intro r hr
          simp only [List.mem_cons, List.not_mem_nil, or_false] at hr
          rcases hr with rfl | rfl
          · exact HFAk.out.1
          · exact HFAk.out.2.1)
        have HSET : Hid (∀ X : World, LdS w q3 g h N 37 #[.int .i64 j.glue.lo, .int .i64 j.glue.hi, .int .i64 j.lead.lo, .int .i64 j.lead.hi, .int .i64 j.side.lo, .int .i64 j.side.hi, .int .i64 j.height.lo, .int .i64 j.height.hi, .int .i64 j.play, .int .i64 (N : Int), .int .i64 a.thick.lo, .int .i64 a.thick.hi, .int .i64 a.depth.lo, .int .i64 a.depth.hi, .int .i64 a.shift.lo, .int .i64 a.shift.hi, .int .i64 a.pitch.lo, .int .i64 a.pitch.hi, .int .i64 b.thick.lo, .int .i64 b.thick.hi, .int .i64 b.depth.lo, .int .i64 b.depth.hi, .int .i64 b.shift.lo, .int .i64 b.shift.hi, .int .i64 b.pitch.lo, .int .i64 b.pitch.hi] #[.int .i64 a.thick.lo, .int .i64 a.thick.hi, .int .i64 a.depth.lo, .int .i64 a.depth.hi, .int .i64 a.shift.lo, .int .i64 a.shift.hi, .int .i64 a.pitch.lo, .int .i64 a.pitch.hi, .int .i64 b.thick.lo, .int .i64 b.thick.hi, .int .i64 b.depth.lo, .int .i64 b.depth.hi, .int .i64 b.shift.lo, .int .i64 b.shift.hi, .int .i64 b.pitch.lo, .int .i64 b.pitch.hi] (rowMix N k (fun i => ⟨sumS [sd, placeS a i], ht⟩) (fun _ => ⟨sd, ht⟩)) X → LdS w q3 g h N 37 #[.int .i64 j.glue.lo, .int .i64 j.glue.hi, .int .i64 j.lead.lo, .int .i64 j.lead.hi, .int .i64 j.side.lo, .int .i64 j.side.hi, .int .i64 j.height.lo, .int .i64 j.height.hi, .int .i64 j.play, .int .i64 (N : Int), .int .i64 a.thick.lo, .int .i64 a.thick.hi, .int .i64 a.depth.lo, .int .i64 a.depth.hi, .int .i64 a.shift.lo, .int .i64 a.shift.hi, .int .i64 a.pitch.lo, .int .i64 a.pitch.hi, .int .i64 b.thick.lo, .int .i64 b.thick.hi, .int .i64 b.depth.lo, .int .i64 b.depth.hi, .int .i64 b.shift.lo, .int .i64 b.shift.hi, .int .i64 b.pitch.lo, .int .i64 b.pitch.hi] #[.int .i64 a.thick.lo, .int .i64 a.thick.hi, .int .i64 a.depth.lo, .int .i64 a.depth.hi, .int .i64 a.shift.lo, .int .i64 a.shift.hi, .int .i64 a.pitch.lo, .int .i64 a.pitch.hi, .int .i64 b.thick.lo, .int .i64 b.thick.hi, .int .i64 b.depth.lo, .int .i64 b.depth.hi, .int .i64 b.shift.lo, .int .i64 b.shift.hi, .int .i64 b.pitch.lo, .int .i64 b.pitch.hi] (rowMix N (k + 1) (fun i => ⟨sumS [sd, placeS a i], ht⟩) (fun _ => ⟨sd, ht⟩)) ((X.setCell ⟨g, k * 4, none⟩ (.int .i64 (sumS [sd, placeS a k]).lo)).setCell ⟨g, k * 4 + 1, none⟩ (.int .i64 (sumS [sd, placeS a k]).hi))) := Lib.hid fun X hX => by
          have h9 := hX.side hgw hq3g (by omega) (k := k) (by rw [rowMix_len]; exact hk) (sumS [sd, placeS a k])
          rw [show (⟨(sumS [sd, placeS a k]), ((rowMix N k (fun i => ⟨sumS [sd, placeS a i], ht⟩) (fun _ => ⟨sd, ht⟩))[k]'(by rw [rowMix_len]; exact hk)).height⟩ : Lead) = (fun i => ⟨sumS [sd, placeS a i], ht⟩) k by simp [rowMix_get], rowMix_set] at h9
          exact h9
        have HGET : Hid (∀ X : World, LdS w q3 g h N 37 #[.int .i64 j.glue.lo, .int .i64 j.glue.hi, .int .i64 j.lead.lo, .int .i64 j.lead.hi, .int .i64 j.side.lo, .int .i64 j.side.hi, .int .i64 j.height.lo, .int .i64 j.height.hi, .int .i64 j.play, .int .i64 (N : Int), .int .i64 a.thick.lo, .int .i64 a.thick.hi, .int .i64 a.depth.lo, .int .i64 a.depth.hi, .int .i64 a.shift.lo, .int .i64 a.shift.hi, .int .i64 a.pitch.lo, .int .i64 a.pitch.hi, .int .i64 b.thick.lo, .int .i64 b.thick.hi, .int .i64 b.depth.lo, .int .i64 b.depth.hi, .int .i64 b.shift.lo, .int .i64 b.shift.hi, .int .i64 b.pitch.lo, .int .i64 b.pitch.hi] #[.int .i64 a.thick.lo, .int .i64 a.thick.hi, .int .i64 a.depth.lo, .int .i64 a.depth.hi, .int .i64 a.shift.lo, .int .i64 a.shift.hi, .int .i64 a.pitch.lo, .int .i64 a.pitch.hi, .int .i64 b.thick.lo, .int .i64 b.thick.hi, .int .i64 b.depth.lo, .int .i64 b.depth.hi, .int .i64 b.shift.lo, .int .i64 b.shift.hi, .int .i64 b.pitch.lo, .int .i64 b.pitch.hi] (rowMix N k (fun i => ⟨sumS [sd, placeS a i], ht⟩) (fun _ => ⟨sd, ht⟩)) X → X.cell? ⟨g, k * 4, none⟩ = some (.int .i64 sd.lo) ∧ X.cell? ⟨g, k * 4 + 1, none⟩ = some (.int .i64 sd.hi)) := Lib.hid fun X hX => by
          obtain ⟨y0, y1, -, -⟩ := hX.kl.at_ k (by rw [rowMix_len]; exact hk)
          rw [rowMix_get, if_neg (Nat.lt_irrefl k)] at y0 y1
          exact ⟨y0, y1⟩
        obtain ⟨p0, hp0⟩ : ∃ v, (placeS a k).lo = v := ⟨_, rfl⟩
        obtain ⟨p1, hp1⟩ : ∃ v, (placeS a k).hi = v := ⟨_, rfl⟩
        obtain ⟨o0, ho0⟩ : ∃ v, sd.lo = v := ⟨_, rfl⟩
        obtain ⟨o1, ho1⟩ : ∃ v, sd.hi = v := ⟨_, rfl⟩
        obtain ⟨r0, hr0⟩ : ∃ v, (sumS [sd, placeS a k]).lo = v := ⟨_, rfl⟩
        obtain ⟨r1, hr1⟩ : ∃ v, (sumS [sd, placeS a k]).hi = v := ⟨_, rfl⟩
        rw [hp0, hp1] at K8 HU ⊢
        rw [ho0, ho1] at HU HGET
        rw [hr0, hr1] at HU HSET
        have hki : (k : Int) < N := by omega
        have hk0 : (0 : Int) ≤ k := by omega
        clear hp0 hp1 ho0 ho1 hr0 hr1 HLb hq hq2 HFAk HFA HLE HIA HIB
        gi_wp2_with fail
        have HKP := Lib.hid (Keeps1.of_below (L := g) (Below.refl W9.heap.size W9).drew)
        replace HW := Lib.hid (HW.out.call (Below.refl _ _).drew)
        replace K8 := Lib.hid K8.out.drew
        refine wpIn_region_round (S := fun W => Blk W q3 93 #[.slice (some ⟨g, 0, none⟩) N N] ∧ Blk W q8 99 #[.int .i64 p0, .int .i64 p1]) (by kernel_rfl) (by kernel_rfl) (fun ⟨_, _, h⟩ => h) ⟨HW.out.k3, K8.out⟩ (fun hH0 => ?_)
        generalize World.drew _ = V0 at *
        simp only [List.size_toArray, List.length_cons, List.length_nil, Nat.reduceAdd, Array.replicate_succ, Array.replicate_zero, List.push_toArray, List.nil_append, List.cons_append]
        refine wpAnyH_take (i := 0 ) (v := ?_) rfl (by kernel_rfl) (by kernel_rfl) (by kernel_rfl) (fun _ _ _ h => h) (Or.inl ⟨by rfl, ?_⟩) (by assumption) ?_; rotate_left; (· (intro w0 hSw; obtain ⟨k3, k8⟩ := hSw; have t0 := k3.cell 0; have t1 := k8.cell 0; have t2 := k8.cell 1; clear k3 k8; go_simp); first | done | with_reducible rfl); (try simp only [Act.put, List.getElem_toArray, List.getElem_cons_zero, List.setIfInBounds_toArray, List.set_cons_zero, List.set_cons_succ])
        refine wpAnyH_take (i := 1 ) (v := ?_) rfl (by kernel_rfl) (by kernel_rfl) (by kernel_rfl) (fun _ _ _ h => h) (Or.inl ⟨by rfl, ?_⟩) (by assumption) ?_; rotate_left; (· (intro w0 hSw; obtain ⟨k3, k8⟩ := hSw; have t0 := k3.cell 0; have t1 := k8.cell 0; have t2 := k8.cell 1; clear k3 k8; go_simp); first | done | with_reducible rfl); (try simp only [Act.put, List.getElem_toArray, List.getElem_cons_succ, List.getElem_cons_zero, List.setIfInBounds_toArray, List.set_cons_zero, List.set_cons_succ])
        refine wpAnyH_take (i := 2 ) (v := ?_) rfl (by kernel_rfl) (by kernel_rfl) (by kernel_rfl) (fun _ _ _ h => h) (Or.inl ⟨by rfl, ?_⟩) (by assumption) ?_; rotate_left; (· (intro w0 hSw; obtain ⟨k3, k8⟩ := hSw; have t0 := k3.cell 0; have t1 := k8.cell 0; have t2 := k8.cell 1; clear k3 k8; go_simp); first | done | with_reducible rfl); (try simp only [Act.put, List.getElem_toArray, List.getElem_cons_succ, List.getElem_cons_zero, List.setIfInBounds_toArray, List.set_cons_zero, List.set_cons_succ])
        refine wpAnyH_take (i := 3 ) (v := ?_) rfl (by kernel_rfl) (by kernel_rfl) (by kernel_rfl) (fun _ _ _ h => h) (Or.inl ⟨by rfl, ?_⟩) (by assumption) ?_; rotate_left; (· (intro w0 hSw; obtain ⟨k3, k8⟩ := hSw; have t0 := k3.cell 0; have t1 := k8.cell 0; have t2 := k8.cell 1; clear k3 k8; go_simp); first | done | with_reducible rfl); (try simp only [Act.put, List.getElem_toArray, List.getElem_cons_succ, List.getElem_cons_zero, List.setIfInBounds_toArray, List.set_cons_zero, List.set_cons_succ])
        refine wpAnyH_take (i := 4 ) (v := ?_) rfl (by kernel_rfl) (by kernel_rfl) (by kernel_rfl) (fun _ _ _ h => h) (Or.inl ⟨by rfl, ?_⟩) (by assumption) ?_; rotate_left; (· (intro w0 hSw; obtain ⟨k3, k8⟩ := hSw; have t0 := k3.cell 0; have t1 := k8.cell 0; have t2 := k8.cell 1; clear k3 k8; go_simp); first | done | with_reducible rfl); (try simp only [Act.put, List.getElem_toArray, List.getElem_cons_succ, List.getElem_cons_zero, List.setIfInBounds_toArray, List.set_cons_zero, List.set_cons_succ])
        refine wpAnyH_take (i := 5 ) (v := ?_) rfl (by kernel_rfl) (by kernel_rfl) (by kernel_rfl) (fun _ _ _ h => h) (Or.inl ⟨by rfl, ?_⟩) (by assumption) ?_; rotate_left; (· (intro w0 hSw; obtain ⟨k3, k8⟩ := hSw; have t0 := k3.cell 0; have t1 := k8.cell 0; have t2 := k8.cell 1; clear k3 k8; go_simp); first | done | with_reducible rfl); (try simp only [Act.put, List.getElem_toArray, List.getElem_cons_succ, List.getElem_cons_zero, List.setIfInBounds_toArray, List.set_cons_zero, List.set_cons_succ])
        refine wpAnyH_take (i := 7 ) (v := ?_) rfl (by kernel_rfl) (by kernel_rfl) (by kernel_rfl) (fun _ _ _ h => h) (Or.inl ⟨by rfl, ?_⟩) (by assumption) ?_; rotate_left; (· (intro w0 hSw; obtain ⟨k3, k8⟩ := hSw; have t0 := k3.cell 0; have t1 := k8.cell 0; have t2 := k8.cell 1; clear k3 k8; go_simp); first | done | with_reducible rfl); (try simp only [Act.put, List.getElem_toArray, List.getElem_cons_succ, List.getElem_cons_zero, List.setIfInBounds_toArray, List.set_cons_zero, List.set_cons_succ])
        refine wpAnyH_ready (rs := [6]) (by kernel_rfl) (by simp) ?_
        refine AllReadyH.cons (by simp only [List.getElem?_toArray, List.getElem?_cons_succ, List.getElem?_cons_zero]; rfl) (fun K hK => ?_) AllReadyH.nil
        obtain ⟨y0, y1⟩ := HGET.out _ HW.out
        go_simp
        clear y0 y1
        refine hK.out _ _ ⟨HW.out.k3, K8.out⟩ (fun hH1 => ?_)
        clear hK K
        try simp only [List.setIfInBounds_toArray, List.set_cons_zero, List.set_cons_succ]
        refine wpAnyH_ready (rs := [8]) (by kernel_rfl) (by simp) ?_
        refine AllReadyH.cons (by simp only [List.getElem?_toArray, List.getElem?_cons_succ, List.getElem?_cons_zero]; rfl) (fun K hK => ?_) AllReadyH.nil
        go_simp
        have hb := (Below.refl V0.heap.size V0).alloc (Nat.le_refl _) (.cells #[.int .i64 o0, .int .i64 o1, .int .i64 p0, .int .i64 p1] 99)
        replace HW := Lib.hid (HW.out.call hb)
        replace K8 := Lib.hid (K8.out.below hb K8.out.lt)
        replace HKP := Lib.hid (HKP.out.trans (.of_below hb))
        clear hb
        refine hK.out _ _ ⟨HW.out.k3, K8.out⟩ (fun hH2 => ?_)
        clear hK K
        try simp only [List.setIfInBounds_toArray, List.set_cons_zero, List.set_cons_succ]
        refine wpAnyH_ready (rs := [9]) (by kernel_rfl) (by simp) ?_
        refine AllReadyH.cons (by simp only [List.getElem?_toArray, List.getElem?_cons_succ, List.getElem?_cons_zero]; rfl) (fun K hK => ?_) AllReadyH.nil
        go_simp
        refine (HU.out _).mono ?_
        rintro e V4 ⟨rfl, hb⟩
        replace HW := Lib.hid (HW.out.call hb)
        replace K8 := Lib.hid (K8.out.below hb K8.out.lt)
        replace HKP := Lib.hid (HKP.out.trans (.of_below hb))
        clear hb
        refine hK.out _ _ ⟨HW.out.k3, K8.out⟩ (fun hH3 => ?_)
        clear hK K
        try simp only [List.setIfInBounds_toArray, List.set_cons_zero, List.set_cons_succ]
        refine wpAnyH_take (i := 10 ) (v := ?_) rfl (by kernel_rfl) (by kernel_rfl) (by kernel_rfl) (fun _ _ _ h => h) (Or.inl ⟨by rfl, ?_⟩) (by assumption) ?_; rotate_left; (· (intro w0 hSw; obtain ⟨k3, k8⟩ := hSw; have t0 := k3.cell 0; have t1 := k8.cell 0; have t2 := k8.cell 1; clear k3 k8; go_simp); first | done | with_reducible rfl); (try simp only [Act.put, List.getElem_toArray, List.getElem_cons_succ, List.getElem_cons_zero, List.setIfInBounds_toArray, List.set_cons_zero, List.set_cons_succ])
        refine wpAnyH_take (i := 11 ) (v := ?_) rfl (by kernel_rfl) (by kernel_rfl) (by kernel_rfl) (fun _ _ _ h => h) (Or.inl ⟨by rfl, ?_⟩) (by assumption) ?_; rotate_left; (· (intro w0 hSw; obtain ⟨k3, k8⟩ := hSw; have t0 := k3.cell 0; have t1 := k8.cell 0; have t2 := k8.cell 1; clear k3 k8; go_simp); first | done | with_reducible rfl); (try simp only [Act.put, List.getElem_toArray, List.getElem_cons_succ, List.getElem_cons_zero, List.setIfInBounds_toArray, List.set_cons_zero, List.set_cons_succ])
        refine wpAnyH_ready (rs := [12]) (by kernel_rfl) (by simp) ?_
        refine AllReadyH.cons (by simp only [List.getElem?_toArray, List.getElem?_cons_succ, List.getElem?_cons_zero]; rfl) (fun K hK => ?_) AllReadyH.nil
        obtain ⟨y0, y1⟩ := HGET.out _ HW.out
        have z0 := HW.out.kl.fr (k * 4)
        have z1 := HW.out.kl.fr (k * 4 + 1)
        go_simp
        replace HW := Lib.hid (HSET.out _ HW.out)
        replace K8 := Lib.hid ((K8.out.far (p := ⟨g, k * 4, none⟩) (by simp only []; omega) (.int .i64 r0)).far (p := ⟨g, k * 4 + 1, none⟩) (by simp only []; omega) (.int .i64 r1))
        replace HKP := Lib.hid ((HKP.out.trans (.set _ (k * 4) (.int .i64 r0))).trans (.set _ (k * 4 + 1) (.int .i64 r1)))
        clear y0 y1 z0 z1
        refine hK.out _ _ ⟨HW.out.k3, K8.out⟩ (fun hH4 => ?_)
        clear hK K
        try simp only [List.setIfInBounds_toArray, List.set_cons_zero, List.set_cons_succ]
        refine wpAnyH_done (by kernel_rfl) ?_ _
        gi_wp2
        exact ⟨HKP.out, HW.out⟩
      case done =>
        intro D1 Z2 hDa hI hK
        rw [rowMix_all] at hI
        have HL := Lib.hid hI
        have HD1 := Lib.hid hK
        have hD1g : Hid (D1 ≠ g) := Lib.hid (by omega)
        clear hI hK hq hq2 HLb HN10
        go_wp2_with fail
        rw [rounds_succ]
        have c8 := HL.out.kh.cell 8
        have c9 := HL.out.kh.cell 9
        have c10 := HL.out.kh.cell 10
        have c11 := HL.out.kh.cell 11
        have c12 := HL.out.kh.cell 12
        have c13 := HL.out.kh.cell 13
        have c14 := HL.out.kh.cell 14
        have c15 := HL.out.kh.cell 15
        have n9 := HL.out.k0.cell 9
        have h0V := HL.out.k0.lt
        have hgV := HL.out.kl.lt
        have h3V := HL.out.k3.lt
        have hhV := HL.out.kh.lt
        go_wp2_with fail
        refine (mkPlaces_any _ b (N : Int)).mono ?_
        rintro e w' ⟨rfl, rfl⟩
        clear n9 c8 c9 c10 c11 c12 c13 c14 c15
        have hb : Below Z2.heap.size Z2 (((Z2.alloc (.cells #[.int .i64 b.thick.lo, .int .i64 b.thick.hi, .int .i64 b.depth.lo, .int .i64 b.depth.hi, .int .i64 b.shift.lo, .int .i64 b.shift.hi, .int .i64 b.pitch.lo, .int .i64 b.pitch.hi] 37)).alloc (.cells #[.int .i64 b.thick.lo, .int .i64 b.thick.hi, .int .i64 b.depth.lo, .int .i64 b.depth.hi, .int .i64 b.shift.lo, .int .i64 b.shift.hi, .int .i64 b.pitch.lo, .int .i64 b.pitch.hi] 37)).alloc (.cells #[.int .i64 (N : Int)] 3)) := by repeat (first | exact Below.refl _ _ | assumption | refine Below.drew ?_ | refine Below.alloc ?_ (by first | omega | (simp only [World.size_alloc]; omega) | simp) _ | refine Below.setCell ?_ (by first | omega | (simp only [World.size_alloc]; omega) | simp) _)
        have hq : Blk (((Z2.alloc (.cells #[.int .i64 b.thick.lo, .int .i64 b.thick.hi, .int .i64 b.depth.lo, .int .i64 b.depth.hi, .int .i64 b.shift.lo, .int .i64 b.shift.hi, .int .i64 b.pitch.lo, .int .i64 b.pitch.hi] 37)).alloc (.cells #[.int .i64 b.thick.lo, .int .i64 b.thick.hi, .int .i64 b.depth.lo, .int .i64 b.depth.hi, .int .i64 b.shift.lo, .int .i64 b.shift.hi, .int .i64 b.pitch.lo, .int .i64 b.pitch.hi] 37)).alloc (.cells #[.int .i64 (N : Int)] 3)) (Z2.heap.size + 1) 37 #[.int .i64 b.thick.lo, .int .i64 b.thick.hi, .int .i64 b.depth.lo, .int .i64 b.depth.hi, .int .i64 b.shift.lo, .int .i64 b.shift.hi, .int .i64 b.pitch.lo, .int .i64 b.pitch.hi] := (blk5 (w := Z2.alloc (.cells #[.int .i64 b.thick.lo, .int .i64 b.thick.hi, .int .i64 b.depth.lo, .int .i64 b.depth.hi, .int .i64 b.shift.lo, .int .i64 b.shift.hi, .int .i64 b.pitch.lo, .int .i64 b.pitch.hi] 37)) _ _ (by simp) rfl).alloc _
        have hq2 : Blk (((Z2.alloc (.cells #[.int .i64 b.thick.lo, .int .i64 b.thick.hi, .int .i64 b.depth.lo, .int .i64 b.depth.hi, .int .i64 b.shift.lo, .int .i64 b.shift.hi, .int .i64 b.pitch.lo, .int .i64 b.pitch.hi] 37)).alloc (.cells #[.int .i64 b.thick.lo, .int .i64 b.thick.hi, .int .i64 b.depth.lo, .int .i64 b.depth.hi, .int .i64 b.shift.lo, .int .i64 b.shift.hi, .int .i64 b.pitch.lo, .int .i64 b.pitch.hi] 37)).alloc (.cells #[.int .i64 (N : Int)] 3)) (Z2.heap.size + 1 + 1) 3 #[.int .i64 (N : Int)] := blk5 _ _ (by simp) rfl
        have HLb := Lib.hid (HL.out.call hb)
        have HDb := Lib.hid ((hb.block D1 (Array.getElem?_eq_some_iff.1 HD1.out).1).trans HD1.out)
        clear HL hb
        go_wp2_with fail
        generalize World.alloc (World.alloc (World.alloc Z2 _) _) _ = Z3 at hq hq2 HLb HDb ⊢
        have HN10 := HNN.out.2
        have hgZ3 := HLb.out.kl.lt
        have h0Z3 := HLb.out.k0.lt
        have h3Z3 := HLb.out.k3.lt
        have hhZ3 := HLb.out.kh.lt
        refine (wpIn_wide (n := 10)).1 ?_
        refine wpIn_rangeFunc_N (n := 10) (by omega) (gf := 98) (lb := #[.pointer (some ⟨Z2.heap.size + 1, 0, none⟩), .pointer (some ⟨Z2.heap.size + 1 + 1, 0, none⟩)]) rfl (enters_of Try.func98 (by kernel_rfl) rfl)
          (places_in 9 (by omega) (Z2.heap.size + 1) (Z2.heap.size + 1 + 1) g N b Z3 HIB.out HN10 hq hq2 (by omega) hgZ3) hgZ3 (fun _ => rfl)
          (fun k W => LdS w q3 g h N 37 #[.int .i64 j.glue.lo, .int .i64 j.glue.hi, .int .i64 j.lead.lo, .int .i64 j.lead.hi, .int .i64 j.side.lo, .int .i64 j.side.hi, .int .i64 j.height.lo, .int .i64 j.height.hi, .int .i64 j.play, .int .i64 (N : Int), .int .i64 a.thick.lo, .int .i64 a.thick.hi, .int .i64 a.depth.lo, .int .i64 a.depth.hi, .int .i64 a.shift.lo, .int .i64 a.shift.hi, .int .i64 a.pitch.lo, .int .i64 a.pitch.hi, .int .i64 b.thick.lo, .int .i64 b.thick.hi, .int .i64 b.depth.lo, .int .i64 b.depth.hi, .int .i64 b.shift.lo, .int .i64 b.shift.hi, .int .i64 b.pitch.lo, .int .i64 b.pitch.hi] #[.int .i64 a.thick.lo, .int .i64 a.thick.hi, .int .i64 a.depth.lo, .int .i64 a.depth.hi, .int .i64 a.shift.lo, .int .i64 a.shift.hi, .int .i64 a.pitch.lo, .int .i64 a.pitch.hi, .int .i64 b.thick.lo, .int .i64 b.thick.hi, .int .i64 b.depth.lo, .int .i64 b.depth.hi, .int .i64 b.shift.lo, .int .i64 b.shift.hi, .int .i64 b.pitch.lo, .int .i64 b.pitch.hi] (rowMix N k (fun i => ⟨sumS [sumS [sd, placeS a i], placeS b i], ht⟩) (fun i => ⟨sumS [sd, placeS a i], ht⟩)) W ∧ W.heap[D1]? = some (.deferred (some []))) ?hI ?h0 ?round ?done
        case hI => exact fun k X Y hX hXY => ⟨hX.1.low hXY h0Z3 h3Z3 hgZ3 hhZ3, (hXY.block D1 (Array.getElem?_eq_some_iff.1 HDb.out).1).trans hX.2⟩
        case h0 => rw [rowMix_zero]; exact ⟨HLb.out, HDb.out⟩
        case round =>
          intro l k W hI hz hk
          have HW := Lib.hid hI.1
          have HD1 := Lib.hid hI.2
          have hbW : Below W.heap.size W (W.alloc (.cells #[.int .i64 (placeS b k).lo, .int .i64 (placeS b k).hi] 99)) := (Below.refl _ _).alloc (Nat.le_refl _) _
          have K8 := Lib.hid (Blk.new W 99 #[.int .i64 (placeS b k).lo, .int .i64 (placeS b k).hi])
          replace HW := Lib.hid (HW.out.call hbW)
          have HBW := Lib.hid hbW
          clear hI hbW
          gi_wp2
          refine ⟨HBW.out, fun o => ?_⟩
          have h8g : g ≠ W.heap.size := by omega
          have h38 : q3 ≠ W.heap.size := by omega
          replace HW := Lib.hid (HW.out.put (Z3.heap.size + 1) o (by omega) (by omega) (by omega) (by omega))
          replace K8 : Hid (Blk ((W.alloc (.cells #[.int .i64 (placeS b k).lo, .int .i64 (placeS b k).hi] 99)).putObj (Z3.heap.size + 1) o) W.heap.size 99 #[.int .i64 (placeS b k).lo, .int .i64 (placeS b k).hi]) := Lib.hid ((World.putObj_heap_other (by omega)).trans K8.out)
          have hD1z := (Array.getElem?_eq_some_iff.1 HDb.out).1
          replace HD1 := Lib.hid ((World.putObj_heap_other (o := o) (show D1 ≠ Z3.heap.size + 1 by omega)).trans ((HBW.out.block D1 (by omega)).trans HD1.out))
          clear HBW
          generalize World.putObj _ _ _ = W9 at HW K8 HD1 ⊢
          generalize W.heap.size = q8 at *
          have HFAk := Lib.hid (HFA.out k hk)
          have HU : Hid (∀ X : World, Calls Try.prog 80 #[.slice (some ⟨X.heap.size, 0, none⟩) 2 2] (X.alloc (.cells #[.int .i64 (sumS [sd, placeS a k]).lo, .int .i64 (sumS [sd, placeS a k]).hi, .int .i64 (placeS b k).lo, .int .i64 (placeS b k).hi] 99)) (Ret (.agg #[.int .i64 (sumS [sumS [sd, placeS a k], placeS b k]).lo, .int .i64 (sumS [sumS [sd, placeS a k], placeS b k]).hi]) (X.alloc (.cells #[.int .i64 (sumS [sd, placeS a k]).lo, .int .i64 (sumS [sd, placeS a k]).hi, .int .i64 (placeS b k).lo, .int .i64 (placeS b k).hi] 99)))) := Lib.hid fun X => sum5_any (X.alloc (.cells #[.int .i64 (sumS [sd, placeS a k]).lo, .int .i64 (sumS [sd, placeS a k]).hi, .int .i64 (placeS b k).lo, .int .i64 (placeS b k).hi] 99)) X.heap.size 0 2 [(sumS [sd, placeS a k]), placeS b k] (by simp) (two_spans (Blk.new _ _ _)) (by simp) (by
            intro r hr
            simp only [List.mem_cons, List.not_mem_nil, or_false] at hr
            rcases hr with rfl | rfl
            · exact HFAk.out.2.2.1
            · exact HFAk.out.2.2.2)
          have HSET : Hid (∀ X : World, LdS w q3 g h N 37 #[.int .i64 j.glue.lo, .int .i64 j.glue.hi, .int .i64 j.lead.lo, .int .i64 j.lead.hi, .int .i64 j.side.lo, .int .i64 j.side.hi, .int .i64 j.height.lo, .int .i64 j.height.hi, .int .i64 j.play, .int .i64 (N : Int), .int .i64 a.thick.lo, .int .i64 a.thick.hi, .int .i64 a.depth.lo, .int .i64 a.depth.hi, .int .i64 a.shift.lo, .int .i64 a.shift.hi, .int .i64 a.pitch.lo, .int .i64 a.pitch.hi, .int .i64 b.thick.lo, .int .i64 b.thick.hi, .int .i64 b.depth.lo, .int .i64 b.depth.hi, .int .i64 b.shift.lo, .int .i64 b.shift.hi, .int .i64 b.pitch.lo, .int .i64 b.pitch.hi] #[.int .i64 a.thick.lo, .int .i64 a.thick.hi, .int .i64 a.depth.lo, .int .i64 a.depth.hi, .int .i64 a.shift.lo, .int .i64 a.shift.hi, .int .i64 a.pitch.lo, .int .i64 a.pitch.hi, .int .i64 b.thick.lo, .int .i64 b.thick.hi, .int .i64 b.depth.lo, .int .i64 b.depth.hi, .int .i64 b.shift.lo, .int .i64 b.shift.hi, .int .i64 b.pitch.lo, .int .i64 b.pitch.hi] (rowMix N k (fun i => ⟨sumS [sumS [sd, placeS a i], placeS b i], ht⟩) (fun i => ⟨sumS [sd, placeS a i], ht⟩)) X → LdS w q3 g h N 37 #[.int .i64 j.glue.lo, .int .i64 j.glue.hi, .int .i64 j.lead.lo, .int .i64 j.lead.hi, .int .i64 j.side.lo, .int .i64 j.side.hi, .int .i64 j.height.lo, .int .i64 j.height.hi, .int .i64 j.play, .int .i64 (N : Int), .int .i64 a.thick.lo, .int .i64 a.thick.hi, .int .i64 a.depth.lo, .int .i64 a.depth.hi, .int .i64 a.shift.lo, .int .i64 a.shift.hi, .int .i64 a.pitch.lo, .int .i64 a.pitch.hi, .int .i64 b.thick.lo, .int .i64 b.thick.hi, .int .i64 b.depth.lo, .int .i64 b.depth.hi, .int .i64 b.shift.lo, .int .i64 b.shift.hi, .int .i64 b.pitch.lo, .int .i64 b.pitch.hi] #[.int .i64 a.thick.lo, .int .i64 a.thick.hi, .int .i64 a.depth.lo, .int .i64 a.depth.hi, .int .i64 a.shift.lo, .int .i64 a.shift.hi, .int .i64 a.pitch.lo, .int .i64 a.pitch.hi, .int .i64 b.thick.lo, .int .i64 b.thick.hi, .int .i64 b.depth.lo, .int .i64 b.depth.hi, .int .i64 b.shift.lo, .int .i64 b.shift.hi, .int .i64 b.pitch.lo, .int .i64 b.pitch.hi] (rowMix N (k + 1) (fun i => ⟨sumS [sumS [sd, placeS a i], placeS b i], ht⟩) (fun i => ⟨sumS [sd, placeS a i], ht⟩)) ((X.setCell ⟨g, k * 4, none⟩ (.int .i64 (sumS [sumS [sd, placeS a k], placeS b k]).lo)).setCell ⟨g, k * 4 + 1, none⟩ (.int .i64 (sumS [sumS [sd, placeS a k], placeS b k]).hi))) := Lib.hid fun X hX => by
            have h9 := hX.side hgw hq3g (by omega) (k := k) (by rw [rowMix_len]; exact hk) (sumS [sumS [sd, placeS a k], placeS b k])
            rw [show (⟨(sumS [sumS [sd, placeS a k], placeS b k]), ((rowMix N k (fun i => ⟨sumS [sumS [sd, placeS a i], placeS b i], ht⟩) (fun i => ⟨sumS [sd, placeS a i], ht⟩))[k]'(by rw [rowMix_len]; exact hk)).height⟩ : Lead) = (fun i => ⟨sumS [sumS [sd, placeS a i], placeS b i], ht⟩) k by simp [rowMix_get], rowMix_set] at h9
            exact h9
          have HGET : Hid (∀ X : World, LdS w q3 g h N 37 #[.int .i64 j.glue.lo, .int .i64 j.glue.hi, .int .i64 j.lead.lo, .int .i64 j.lead.hi, .int .i64 j.side.lo, .int .i64 j.side.hi, .int .i64 j.height.lo, .int .i64 j.height.hi, .int .i64 j.play, .int .i64 (N : Int), .int .i64 a.thick.lo, .int .i64 a.thick.hi, .int .i64 a.depth.lo, .int .i64 a.depth.hi, .int .i64 a.shift.lo, .int .i64 a.shift.hi, .int .i64 a.pitch.lo, .int .i64 a.pitch.hi, .int .i64 b.thick.lo, .int .i64 b.thick.hi, .int .i64 b.depth.lo, .int .i64 b.depth.hi, .int .i64 b.shift.lo, .int .i64 b.shift.hi, .int .i64 b.pitch.lo, .int .i64 b.pitch.hi] #[.int .i64 a.thick.lo, .int .i64 a.thick.hi, .int .i64 a.depth.lo, .int .i64 a.depth.hi, .int .i64 a.shift.lo, .int .i64 a.shift.hi, .int .i64 a.pitch.lo, .int .i64 a.pitch.hi, .int .i64 b.thick.lo, .int .i64 b.thick.hi, .int .i64 b.depth.lo, .int .i64 b.depth.hi, .int .i64 b.shift.lo, .int .i64 b.shift.hi, .int .i64 b.pitch.lo, .int .i64 b.pitch.hi] (rowMix N k (fun i => ⟨sumS [sumS [sd, placeS a i], placeS b i], ht⟩) (fun i => ⟨sumS [sd, placeS a i], ht⟩)) X → X.cell? ⟨g, k * 4, none⟩ = some (.int .i64 (sumS [sd, placeS a k]).lo) ∧ X.cell? ⟨g, k * 4 + 1, none⟩ = some (.int .i64 (sumS [sd, placeS a k]).hi)) := Lib.hid fun X hX => by
            obtain ⟨y0, y1, -, -⟩ := hX.kl.at_ k (by rw [rowMix_len]; exact hk)
            rw [rowMix_get, if_neg (Nat.lt_irrefl k)] at y0 y1
            exact ⟨y0, y1⟩
          obtain ⟨p0, hp0⟩ : ∃ v, (placeS b k).lo = v := ⟨_, rfl⟩
          obtain ⟨p1, hp1⟩ : ∃ v, (placeS b k).hi = v := ⟨_, rfl⟩
          obtain ⟨o0, ho0⟩ : ∃ v, (sumS [sd, placeS a k]).lo = v := ⟨_, rfl⟩
          obtain ⟨o1, ho1⟩ : ∃ v, (sumS [sd, placeS a k]).hi = v := ⟨_, rfl⟩
          obtain ⟨r0, hr0⟩ : ∃ v, (sumS [sumS [sd, placeS a k], placeS b k]).lo = v := ⟨_, rfl⟩
          obtain ⟨r1, hr1⟩ : ∃ v, (sumS [sumS [sd, placeS a k], placeS b k]).hi = v := ⟨_, rfl⟩
          rw [hp0, hp1] at K8 HU ⊢
          rw [ho0, ho1] at HU HGET
          rw [hr0, hr1] at HU HSET
          have hki : (k : Int) < N := by omega
          have hk0 : (0 : Int) ≤ k := by omega
          clear hp0 hp1 ho0 ho1 hr0 hr1 HLb hq hq2 HFAk HFA HLE HIA HIB
          gi_wp2_with fail
          have HKP := Lib.hid (Keeps1.of_below (L := g) (Below.refl W9.heap.size W9).drew)
          replace HW := Lib.hid (HW.out.call (Below.refl _ _).drew)
          replace K8 := Lib.hid K8.out.drew
          refine wpIn_region_round (S := fun W => Blk W q3 93 #[.slice (some ⟨g, 0, none⟩) N N] ∧ Blk W q8 99 #[.int .i64 p0, .int .i64 p1]) (by kernel_rfl) (by kernel_rfl) (fun ⟨_, _, h⟩ => h) ⟨HW.out.k3, K8.out⟩ (fun hH0 => ?_)
          generalize World.drew _ = V0 at *
          simp only [List.size_toArray, List.length_cons, List.length_nil, Nat.reduceAdd, Array.replicate_succ, Array.replicate_zero, List.push_toArray, List.nil_append, List.cons_append]
          refine wpAnyH_take (i := 0 ) (v := ?_) rfl (by kernel_rfl) (by kernel_rfl) (by kernel_rfl) (fun _ _ _ h => h) (Or.inl ⟨by rfl, ?_⟩) (by assumption) ?_; rotate_left; (· (intro w0 hSw; obtain ⟨k3, k8⟩ := hSw; have t0 := k3.cell 0; have t1 := k8.cell 0; have t2 := k8.cell 1; clear k3 k8; go_simp); first | done | with_reducible rfl); (try simp only [Act.put, List.getElem_toArray, List.getElem_cons_zero, List.setIfInBounds_toArray, List.set_cons_zero, List.set_cons_succ])
          refine wpAnyH_take (i := 1 ) (v := ?_) rfl (by kernel_rfl) (by kernel_rfl) (by kernel_rfl) (fun _ _ _ h => h) (Or.inl ⟨by rfl, ?_⟩) (by assumption) ?_; rotate_left; (· (intro w0 hSw; obtain ⟨k3, k8⟩ := hSw; have t0 := k3.cell 0; have t1 := k8.cell 0; have t2 := k8.cell 1; clear k3 k8; go_simp); first | done | with_reducible rfl); (try simp only [Act.put, List.getElem_toArray, List.getElem_cons_succ, List.getElem_cons_zero, List.setIfInBounds_toArray, List.set_cons_zero, List.set_cons_succ])
          refine wpAnyH_take (i := 2 ) (v := ?_) rfl (by kernel_rfl) (by kernel_rfl) (by kernel_rfl) (fun _ _ _ h => h) (Or.inl ⟨by rfl, ?_⟩) (by assumption) ?_; rotate_left; (· (intro w0 hSw; obtain ⟨k3, k8⟩ := hSw; have t0 := k3.cell 0; have t1 := k8.cell 0; have t2 := k8.cell 1; clear k3 k8; go_simp); first | done | with_reducible rfl); (try simp only [Act.put, List.getElem_toArray, List.getElem_cons_succ, List.getElem_cons_zero, List.setIfInBounds_toArray, List.set_cons_zero, List.set_cons_succ])
          refine wpAnyH_take (i := 3 ) (v := ?_) rfl (by kernel_rfl) (by kernel_rfl) (by kernel_rfl) (fun _ _ _ h => h) (Or.inl ⟨by rfl, ?_⟩) (by assumption) ?_; rotate_left; (· (intro w0 hSw; obtain ⟨k3, k8⟩ := hSw; have t0 := k3.cell 0; have t1 := k8.cell 0; have t2 := k8.cell 1; clear k3 k8; go_simp); first | done | with_reducible rfl); (try simp only [Act.put, List.getElem_toArray, List.getElem_cons_succ, List.getElem_cons_zero, List.setIfInBounds_toArray, List.set_cons_zero, List.set_cons_succ])
          refine wpAnyH_take (i := 4 ) (v := ?_) rfl (by kernel_rfl) (by kernel_rfl) (by kernel_rfl) (fun _ _ _ h => h) (Or.inl ⟨by rfl, ?_⟩) (by assumption) ?_; rotate_left; (· (intro w0 hSw; obtain ⟨k3, k8⟩ := hSw; have t0 := k3.cell 0; have t1 := k8.cell 0; have t2 := k8.cell 1; clear k3 k8; go_simp); first | done | with_reducible rfl); (try simp only [Act.put, List.getElem_toArray, List.getElem_cons_succ, List.getElem_cons_zero, List.setIfInBounds_toArray, List.set_cons_zero, List.set_cons_succ])
          refine wpAnyH_take (i := 5 ) (v := ?_) rfl (by kernel_rfl) (by kernel_rfl) (by kernel_rfl) (fun _ _ _ h => h) (Or.inl ⟨by rfl, ?_⟩) (by assumption) ?_; rotate_left; (· (intro w0 hSw; obtain ⟨k3, k8⟩ := hSw; have t0 := k3.cell 0; have t1 := k8.cell 0; have t2 := k8.cell 1; clear k3 k8; go_simp); first | done | with_reducible rfl); (try simp only [Act.put, List.getElem_toArray, List.getElem_cons_succ, List.getElem_cons_zero, List.setIfInBounds_toArray, List.set_cons_zero, List.set_cons_succ])
          refine wpAnyH_take (i := 7 ) (v := ?_) rfl (by kernel_rfl) (by kernel_rfl) (by kernel_rfl) (fun _ _ _ h => h) (Or.inl ⟨by rfl, ?_⟩) (by assumption) ?_; rotate_left; (· (intro w0 hSw; obtain ⟨k3, k8⟩ := hSw; have t0 := k3.cell 0; have t1 := k8.cell 0; have t2 := k8.cell 1; clear k3 k8; go_simp); first | done | with_reducible rfl); (try simp only [Act.put, List.getElem_toArray, List.getElem_cons_succ, List.getElem_cons_zero, List.setIfInBounds_toArray, List.set_cons_zero, List.set_cons_succ])
          refine wpAnyH_ready (rs := [6]) (by kernel_rfl) (by simp) ?_
          refine AllReadyH.cons (by simp only [List.getElem?_toArray, List.getElem?_cons_succ, List.getElem?_cons_zero]; rfl) (fun K hK => ?_) AllReadyH.nil
          obtain ⟨y0, y1⟩ := HGET.out _ HW.out
          go_simp
          clear y0 y1
          refine hK.out _ _ ⟨HW.out.k3, K8.out⟩ (fun hH1 => ?_)
          clear hK K
          try simp only [List.setIfInBounds_toArray, List.set_cons_zero, List.set_cons_succ]
          refine wpAnyH_ready (rs := [8]) (by kernel_rfl) (by simp) ?_
          refine AllReadyH.cons (by simp only [List.getElem?_toArray, List.getElem?_cons_succ, List.getElem?_cons_zero]; rfl) (fun K hK => ?_) AllReadyH.nil
          go_simp
          have hb := (Below.refl V0.heap.size V0).alloc (Nat.le_refl _) (.cells #[.int .i64 o0, .int .i64 o1, .int .i64 p0, .int .i64 p1] 99)
          replace HW := Lib.hid (HW.out.call hb)
          replace K8 := Lib.hid (K8.out.below hb K8.out.lt)
          replace HKP := Lib.hid (HKP.out.trans (.of_below hb))
          clear hb
          refine hK.out _ _ ⟨HW.out.k3, K8.out⟩ (fun hH2 => ?_)
          clear hK K
          try simp only [List.setIfInBounds_toArray, List.set_cons_zero, List.set_cons_succ]
          refine wpAnyH_ready (rs := [9]) (by kernel_rfl) (by simp) ?_
          refine AllReadyH.cons (by simp only [List.getElem?_toArray, List.getElem?_cons_succ, List.getElem?_cons_zero]; rfl) (fun K hK => ?_) AllReadyH.nil
          go_simp
          refine (HU.out _).mono ?_
          rintro e V4 ⟨rfl, hb⟩
          replace HW := Lib.hid (HW.out.call hb)
          replace K8 := Lib.hid (K8.out.below hb K8.out.lt)
          replace HKP := Lib.hid (HKP.out.trans (.of_below hb))
          clear hb
          refine hK.out _ _ ⟨HW.out.k3, K8.out⟩ (fun hH3 => ?_)
          clear hK K
          try simp only [List.setIfInBounds_toArray, List.set_cons_zero, List.set_cons_succ]
          refine wpAnyH_take (i := 10 ) (v := ?_) rfl (by kernel_rfl) (by kernel_rfl) (by kernel_rfl) (fun _ _ _ h => h) (Or.inl ⟨by rfl, ?_⟩) (by assumption) ?_; rotate_left; (· (intro w0 hSw; obtain ⟨k3, k8⟩ := hSw; have t0 := k3.cell 0; have t1 := k8.cell 0; have t2 := k8.cell 1; clear k3 k8; go_simp); first | done | with_reducible rfl); (try simp only [Act.put, List.getElem_toArray, List.getElem_cons_succ, List.getElem_cons_zero, List.setIfInBounds_toArray, List.set_cons_zero, List.set_cons_succ])
          refine wpAnyH_take (i := 11 ) (v := ?_) rfl (by kernel_rfl) (by kernel_rfl) (by kernel_rfl) (fun _ _ _ h => h) (Or.inl ⟨by rfl, ?_⟩) (by assumption) ?_; rotate_left; (· (intro w0 hSw; obtain ⟨k3, k8⟩ := hSw; have t0 := k3.cell 0; have t1 := k8.cell 0; have t2 := k8.cell 1; clear k3 k8; go_simp); first | done | with_reducible rfl); (try simp only [Act.put, List.getElem_toArray, List.getElem_cons_succ, List.getElem_cons_zero, List.setIfInBounds_toArray, List.set_cons_zero, List.set_cons_succ])
          refine wpAnyH_ready (rs := [12]) (by kernel_rfl) (by simp) ?_
          refine AllReadyH.cons (by simp only [List.getElem?_toArray, List.getElem?_cons_succ, List.getElem?_cons_zero]; rfl) (fun K hK => ?_) AllReadyH.nil
          obtain ⟨y0, y1⟩ := HGET.out _ HW.out
          have z0 := HW.out.kl.fr (k * 4)
          have z1 := HW.out.kl.fr (k * 4 + 1)
          go_simp
          replace HW := Lib.hid (HSET.out _ HW.out)
          replace K8 := Lib.hid ((K8.out.far (p := ⟨g, k * 4, none⟩) (by simp only []; omega) (.int .i64 r0)).far (p := ⟨g, k * 4 + 1, none⟩) (by simp only []; omega) (.int .i64 r1))
          replace HKP := Lib.hid ((HKP.out.trans (.set _ (k * 4) (.int .i64 r0))).trans (.set _ (k * 4 + 1) (.int .i64 r1)))
          clear y0 y1 z0 z1
          refine hK.out _ _ ⟨HW.out.k3, K8.out⟩ (fun hH4 => ?_)
          clear hK K
          try simp only [List.setIfInBounds_toArray, List.set_cons_zero, List.set_cons_succ]
          refine wpAnyH_done (by kernel_rfl) ?_ _
          gi_wp2
          exact ⟨HKP.out, HW.out, (HKP.out.block D1 hD1g.out (Array.getElem?_eq_some_iff.1 HD1.out).1).trans HD1.out⟩
        case done =>
          intro D Z4 hD hI hK
          obtain ⟨hI, hK1⟩ := hI
          rw [rowMix_all] at hI
          have HL := Lib.hid hI
          have HD2 := Lib.hid hK
          have HD3 := Lib.hid hK1
          have y3 := hI.k3.cell 0
          have hD1D : D1 < D := by have := (Array.getElem?_eq_some_iff.1 HDb.out).1; omega
          have hO := HLE.out
          rw [← hO] at HL
          clear hI hK hK1 hq hq2 HLb HN10 HD1 HDb hO
          go_wp2_with fail
          rw [rounds_succ]
          go_wp2_with fail
          have e1 : (Z4.putObj D (.deferred none)).heap[D1]? = some (.deferred (some [])) := (World.putObj_heap_other (by omega)).trans HD3.out
          refine ⟨by simp, .inl ⟨_, _, rfl, run_takeDeferred HD2.out, by simp, .inl ⟨_, _, rfl, run_takeDeferred e1, ?_⟩⟩⟩
          refine ⟨.slice (some ⟨g, 0, none⟩) N N, by simp [results, Try.results46, go_sem], g, by omega, rfl, (HL.out.kl.put D _ (by omega)).put D1 _ (by omega), ?_⟩
          exact (HL.out.hb.trans (below_put (by omega) _ _)).trans (below_put (by omega) _ _)
end Go.Proofs.Ytfpfafijockfnaa
