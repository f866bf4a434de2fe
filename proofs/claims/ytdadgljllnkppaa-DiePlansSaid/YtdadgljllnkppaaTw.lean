/- The function that tries all dies for the next draw: nothing is known of the state yet. -/
import Derived.Test.YtdadgljllnkppaaMd
namespace Go.Proofs.Ytdadgljllnkppaa
open Go.RowKit Go.Shelf
attribute [local go_sem] Oper.semAt_some

/-- Between two rounds. -/
structure RoundI (p : Press) (L : List Draw) (T : Option Addr) (ct m : Nat) (s : Sta) (W : World) (g q : Nat) (x : Draw) (l : List Draw) (n : Nat) (A : Option Addr) (c : Nat) (pre : List DieX) (U : World) : Prop where
  own : Own p L T ct (l.length + 1) m s W g (n + pre.length * cnt l.length) (scanL p x s (fun k => bestOf p l (s.after x.len k)) pre) U
  box : Blk U q 26 #[.slice A p.dies.length c, .int .i64 p.shrink.lo, .int .i64 p.shrink.hi, .int .i64 p.change]
  size : q + 1 ≤ U.heap.size
  bd : (scanL p x s (fun k => bestOf p l (s.after x.len k)) pre).bd (l.length + 1)
/-- What is held while it is asked whether a die does for a draw. -/
structure S11 (U : World) (Bx : Nat) (d0 : Die) (d : DieX) (b5 bT oT k ct : Nat) (x : Draw) (s : Sta) (j : Nat) (V : World) : Prop where
  below : Below U.heap.size U V
  m0 : V.cell? ⟨Bx, 0, none⟩ = some (.int .i64 d0.wide)
  m1 : V.cell? ⟨Bx, 1, none⟩ = some (.int .i64 d0.wear.lo)
  m2 : V.cell? ⟨Bx, 2, none⟩ = some (.int .i64 d0.wear.hi)
  m3 : V.cell? ⟨Bx, 3, none⟩ = some (.func (.func 134) #[] #[.pointer (some ⟨d.q, 0, none⟩), .pointer (some ⟨d.r, 0, none⟩), .pointer (some ⟨d.s, 0, none⟩)])
  m4 : V.cell? ⟨Bx, 4, none⟩ = some (.func (.func 98) #[] #[])
  m5 : V.cell? ⟨Bx, 5, none⟩ = some (.func (.func 134) #[] #[.pointer (some ⟨d.q2, 0, none⟩), .pointer (some ⟨d.r2, 0, none⟩), .pointer (some ⟨d.s2, 0, none⟩)])
  m6 : V.cell? ⟨Bx, 6, none⟩ = some (.func (.func 99) #[] #[])
  b6 : V.cell? ⟨b5 + 1, 0, none⟩ = some (.slice (some ⟨bT, oT, none⟩) k ct)
  t0 : V.cell? ⟨bT, oT, none⟩ = some (.int .i64 x.len)
  t1 : V.cell? ⟨bT, oT + 1, none⟩ = some (.int .i64 x.want.lo)
  t2 : V.cell? ⟨bT, oT + 2, none⟩ = some (.int .i64 x.want.hi)
  b5 : V.cell? ⟨b5, j, none⟩ = some (.int .i64 (s.get j))
theorem S11.drew {U : World} {Bx : Nat} {d0 : Die} {d : DieX} {b5 bT oT k ct : Nat} {x : Draw} {s : Sta} {j : Nat} {V : World} (h : S11 U Bx d0 d b5 bT oT k ct x s j V) : S11 U Bx d0 d b5 bT oT k ct x s j V.drew := ⟨h.below.drew, h.m0, h.m1, h.m2, h.m3, h.m4, h.m5, h.m6, h.b6, h.t0, h.t1, h.t2, h.b5⟩
theorem S11.call {U : World} {Bx : Nat} {d0 : Die} {d : DieX} {b5 bT oT k ct : Nat} {x : Draw} {s : Sta} {j : Nat} {V V' : World} (h : S11 U Bx d0 d b5 bT oT k ct x s j V) (hb : Below V.heap.size V V') : S11 U Bx d0 d b5 bT oT k ct x s j V' :=
  ⟨h.below.trans (hb.mono h.below.size), cell_call h.m0 hb, cell_call h.m1 hb, cell_call h.m2 hb, cell_call h.m3 hb, cell_call h.m4 hb, cell_call h.m5 hb, cell_call h.m6 hb, cell_call h.b6 hb, cell_call h.t0 hb, cell_call h.t1 hb, cell_call h.t2 hb, cell_call h.b5 hb⟩
theorem Blk.cell_n {V : World} {q : Nat} {s : Sta} (h : Blk V q 161 #[.int .i64 s.a, .int .i64 s.b, .int .i64 s.c, .int .i64 s.d, .int .i64 s.on]) (j : Nat) (hj : j < 4) : V.cell? ⟨q, j, none⟩ = some (.int .i64 (s.get j)) := by
  have hj4 : j = 0 ∨ j = 1 ∨ j = 2 ∨ j = 3 := by omega
  rcases hj4 with rfl | rfl | rfl | rfl
  · exact h.cell 0
  · exact h.cell 1
  · exact h.cell 2
  · exact h.cell 3
/-- No later die can cost less. -/
structure StopI (p : Press) (L : List Draw) (T : Option Addr) (ct m : Nat) (s : Sta) (W : World) (g q : Nat) (x : Draw) (l : List Draw) (n : Nat) (A : Option Addr) (c : Nat) (pre : List DieX) (U : World) : Prop where
  own : Own p L T ct (l.length + 1) m s W g (n + pre.dropLast.length * cnt l.length) (scanL p x s (fun k => bestOf p l (s.after x.len k)) pre.dropLast) U
  good : (scanL p x s (fun k => bestOf p l (s.after x.len k)) pre.dropLast).good = true
  cost : ∃ d, pre.getLast? = some d ∧ (scanL p x s (fun k => bestOf p l (s.after x.len k)) pre.dropLast).cost ≤ d.n ∧ d.n < p.dies.length
theorem WideAt.soft {U U' : World} {row : Option Nat} {q r s : Nat} {wide wear shrink : Int} (h : WideAt U U.heap.size q r s wide wear shrink) (hg : U.grownBy U' row) (hr : ∀ j, row = some j → ∃ o : Obj, U.heap[j]? = some o ∧ o.isCells = false) : WideAt U' U'.heap.size q r s wide wear shrink := by
  have := hg.size
  obtain ⟨a, b, c, d, e, f⟩ := h
  exact ⟨cell_kept a hg hr, cell_kept b hg hr, cell_kept c hg hr, by omega, by omega, by omega⟩
theorem DieFact.soft {p : Press} {d : DieX} {U U' : World} {row : Option Nat} (h : DieFact p d U) (hg : U.grownBy U' row) (hr : ∀ j, row = some j → ∃ o : Obj, U.heap[j]? = some o ∧ o.isCells = false) : DieFact p d U' := ⟨h.1, h.2.lo.soft hg hr, h.2.hi.soft hg hr⟩
theorem DieFact.call {p : Press} {d : DieX} {U U' : World} (h : DieFact p d U) (hb : Below U.heap.size U U') : DieFact p d U' := ⟨h.1, h.2.on hb (Nat.le_refl _)⟩
section
variable {p : Press} {L : List Draw} {T : Option Addr} {ct m : Nat} {s : Sta} {W : World} {g q : Nat} {x : Draw} {l : List Draw} {n : Nat} {A : Option Addr} {c : Nat} {pre : List DieX} {U U' : World} {row : Option Nat}
theorem RoundI.call (h : RoundI p L T ct m s W g q x l n A c pre U) (hb : Below U.heap.size U U') : RoundI p L T ct m s W g q x l n A c pre U' := ⟨h.own.call hb, h.box.below hb h.box.lt, Nat.le_trans h.size hb.size, h.bd⟩
theorem RoundI.soft (h : RoundI p L T ct m s W g q x l n A c pre U) (hm : m < W.heap.size) (hB : W.heap.size ≤ q + 1) (hg : U.grownBy U' row) (hr : ∀ j, row = some j → q + 1 ≤ j ∧ ∃ o : Obj, U.heap[j]? = some o ∧ o.isCells = false) : RoundI p L T ct m s W g q x l n A c pre U' :=
  ⟨h.own.soft hB hm hg hr, blk_soft h.box hg fun j e => (hr j e).2, Nat.le_trans h.size hg.size, h.bd⟩
theorem StopI.of {d : DieX} {r : Rst} (h : RoundI p L T ct m s W g q x l n A c pre U) (hr : scanL p x s (fun k => bestOf p l (s.after x.len k)) pre = r) (h1 : r.good = true) (h2 : r.cost ≤ d.n) (h3 : d.n < p.dies.length) : StopI p L T ct m s W g q x l n A c (pre ++ [d]) U := by
  refine ⟨?_, ?_, d, ?_, ?_⟩
  · rw [List.dropLast_concat]; exact h.own
  · rw [List.dropLast_concat, hr]; exact h1
  · simp
  · rw [List.dropLast_concat, hr]; exact ⟨h2, h3⟩
theorem StopI.soft (h : StopI p L T ct m s W g q x l n A c pre U) (hm : m < W.heap.size) (hB : W.heap.size ≤ q + 1) (hg : U.grownBy U' row) (hr : ∀ j, row = some j → q + 1 ≤ j ∧ ∃ o : Obj, U.heap[j]? = some o ∧ o.isCells = false) : StopI p L T ct m s W g q x l n A c pre U' :=
  ⟨h.own.soft hB hm hg hr, h.good, h.cost⟩
end
theorem fin_grown {W U U1 : World} {m g D : Nat} (h : W.grownBy U (some m)) (h1 : U.grownBy U1 (some m)) (hg : W.heap.size ≤ g) (hD : W.heap.size ≤ D) (cs : Array Value) (o : Obj) : W.grownBy ((U1.setRow g cs).putObj D o) (some m) := by
  have a := grown_trans h h1
  exact ⟨a.os, a.tape, a.output, by simpa [World.putObj] using a.size, fun i hi hne => (World.putObj_heap_other (by omega)).trans ((setRow_other _ _ _ _ (by omega)).trans (a.block i hi hne))⟩
theorem stop_len {pre : List DieX} {k : Nat} {P : DieX → Prop} (hc : ∃ d, pre.getLast? = some d ∧ P d ∧ d.n < k) (hS : List.map DieX.n pre = List.range pre.length) (hk : k ≤ 4) : pre.dropLast.length ≤ 4 := by
  obtain ⟨d, h1, -, h3⟩ := hc
  have hne : pre ≠ [] := fun e => by rw [e] at h1; cases h1
  have h4 : d.n = pre.length - 1 := by
    have h5 : (List.map DieX.n pre).getLast? = some d.n := by rw [List.getLast?_map, h1]; rfl
    rw [hS, List.getLast?_range] at h5
    have := List.length_pos_iff.2 hne
    simp at h5
    omega
  rw [List.length_dropLast]
  omega
theorem stop_eq {p : Press} {x : Draw} {l : List Draw} {s : Sta} (hp : pressOk p = true) {pre : List DieX} (hc : ∃ d, pre.getLast? = some d ∧ (scanL p x s (fun k => bestOf p l (s.after x.len k)) pre.dropLast).cost ≤ d.n ∧ d.n < p.dies.length) (hg : (scanL p x s (fun k => bestOf p l (s.after x.len k)) pre.dropLast).good = true) (hS : List.map DieX.n pre = List.range pre.length) :
    scanL p x s (fun k => bestOf p l (s.after x.len k)) pre.dropLast = bestOf p (x :: l) s := by
  obtain ⟨d, h1, h2, h3⟩ := hc
  have hne : pre ≠ [] := fun e => by rw [e] at h1; cases h1
  have hpos := List.length_pos_iff.2 hne
  have h4 : d.n = pre.length - 1 := by
    have h5 : (List.map DieX.n pre).getLast? = some d.n := by rw [List.getLast?_map, h1]; rfl
    rw [hS, List.getLast?_range] at h5
    simp at h5
    omega
  have h6 : List.map DieX.n pre.dropLast = List.range (pre.length - 1) := by
    rw [List.map_dropLast, hS, List.dropLast_eq_take, List.length_range, List.take_range]
    congr 1
    omega
  rw [scanL_range h6] at h2 hg ⊢
  obtain ⟨h7, -, -, h8, h9⟩ := press_parts hp
  have := scan_stop h8 h9 (fun n => best_bd hp l _) (x := x) (s := s) (k := pre.length - 1) hg (by omega) (p.dies.length - (pre.length - 1)) (by omega)
  rw [show pre.length - 1 + (p.dies.length - (pre.length - 1)) = p.dies.length by omega] at this
  exact this.symm
theorem stepR_bd {p : Press} {x : Draw} {s : Sta} {sub : Nat → Rst} {r : Rst} {m n : Nat} (h0 : 0 ≤ p.change) (h1 : p.change ≤ 10000) (hs : (sub n).bd m) (hn : n < 4) (hr : r.bd (m + 1)) : (stepR p x s sub r n).bd (m + 1) := by
  have hc := stepCost_bd h0 h1 s hn
  obtain ⟨a, b, c⟩ := hs
  unfold stepR
  split
  · split
    · refine ⟨?_, ?_, ?_⟩
      · simp only; omega
      · simp only; omega
      · simp only [List.length_cons]; omega
    · exact hr
  · exact hr
/-- The rest at hand has been stored into its box. -/
structure Stored (p : Press) (L : List Draw) (T : Option Addr) (ct k m : Nat) (s : Sta) (W : World) (g n : Nat) (r r1 : Rst) (U : World) (e g2 c2 : Nat) (V V3 : World) : Prop where
  mid : Mid p L T ct k m s W g n r U V3
  box : Blk V3 e 122 #[.slice (some ⟨g2, 0, none⟩) r1.plan.length c2, .int .i64 r1.cost, .bool r1.good]
  plan : PlanAt V3 (.slice (some ⟨g2, 0, none⟩) r1.plan.length c2) r1.plan
  s12 : ∀ {kb pb tb bT oT k' ct' : Nat} {x : Draw} {A : Option Addr} {c : Nat}, tb < W.heap.size ∧ bT < W.heap.size ∧ pb < W.heap.size → S12 kb pb tb W.heap.size bT oT k' ct' x s A p c V → S12 kb pb tb W.heap.size bT oT k' ct' x s A p c V3
theorem Mid.stored {p : Press} {L : List Draw} {T : Option Addr} {ct k m : Nat} {s : Sta} {W : World} {g n : Nat} {r r1 : Rst} {U : World} {e g2 c2 : Nat} {V : World} (h : Mid p L T ct k m s W g n r U V) (hn : New U g e #[.slice none 0 0, .int .i64 0, .bool false] V) (hgU : g < U.heap.size) (hg : W.heap.size + 1 + 1 < g) (hm : m < W.heap.size) (hq : PlanAt V (.slice (some ⟨g2, 0, none⟩) r1.plan.length c2) r1.plan) :
    Stored p L T ct k m s W g n r r1 U e g2 c2 V (((V.setCell ⟨e, 0, none⟩ (.slice (some ⟨g2, 0, none⟩) r1.plan.length c2)).setCell ⟨e, 1, none⟩ (.int .i64 r1.cost)).setCell ⟨e, 2, none⟩ (.bool r1.good)) := by
  obtain ⟨hb, hge, hne⟩ := hn
  have b1 := hb.set_ 0 (.slice (some ⟨g2, 0, none⟩) r1.plan.length c2)
  have b2 := b1.set_ 1 (.int .i64 r1.cost)
  have b3 := b2.set_ 2 (.bool r1.good)
  have he : W.heap.size + 1 + 1 < e := by omega
  have o1 := h.own.far e 0 (.slice (some ⟨g2, 0, none⟩) r1.plan.length c2) hb (by decide) he hne hm
  have o2 := o1.far e 1 (.int .i64 r1.cost) b1 (by decide) he hne hm
  have o3 := o2.far e 2 (.bool r1.good) b2 (by decide) he hne hm
  refine ⟨⟨o3, ((h.turn.set e 0 _ (.inl hge)).set e 1 _ (.inl hge)).set e 2 _ (.inl hge)⟩, b3, hq.keep (((KeepI.set hb (by decide) 0 _).trans (.set b1 (by decide) 1 _)).trans (.set b2 (by decide) 2 _)), fun {kb pb tb bT oT k' ct' x A c} ⟨h1, h2, h3⟩ h12 => ?_⟩
  exact ((h12.far e 0 _ (by omega) (by omega) (by omega) (by omega) (by omega)).far e 1 _ (by omega) (by omega) (by omega) (by omega) (by omega)).far e 2 _ (by omega) (by omega) (by omega) (by omega) (by omega)
set_option maxRecDepth 100000 in
set_option maxHeartbeats 4000000 in
theorem try_miss (p : Press) (L : List Draw) (A T : Option Addr) (c ct kb pb tb m b off n : Nat) (W : World) (s : Sta) (x : Draw) (l : List Draw) (hp : pressOk p = true) (hL : drawsOk L = true) (hE : Env p L A c kb pb tb m b off n W) (hT : DrawSl W W.heap.size T (x :: l)) (hl : (x :: l) <:+ L) (hs : s.ok) (hsum : s.sum + lenSum (x :: l) = lenSum L) (hct : l.length + 1 ≤ ct) (IH : ∀ (V : World) (s' : Sta) (T' : Option Addr) (ct' n' : Nat), Env p L A c kb pb tb m b off n' V → DrawSl V V.heap.size T' l → l.length ≤ ct' → s'.ok → s'.sum + lenSum l = lenSum L → n' + cnt l.length ≤ 100000 →
      Calls Try.prog 102 #[staV s', .slice T' l.length ct', .pointer (some ⟨kb, 0, none⟩), .pointer (some ⟨pb, 0, none⟩), .pointer (some ⟨tb, 0, none⟩)] V (RetTry p L m n' (bestOf p l s') l.length V))
    (hn : n + cnt (x :: l).length ≤ 100000)
    (hlook : ∀ V, V.heap[m]? = W.heap[m]? → (Instr.lookup 158 (.map (some m)) (.agg #[.int .i64 s.a, .int .i64 s.b, .int .i64 s.c, .int .i64 s.d, .int .i64 s.on]) true).run Try.prog V = .ok (.tuple #[restZ, .bool false]) V) :
    Calls Try.prog 102 #[.agg #[.int .i64 s.a, .int .i64 s.b, .int .i64 s.c, .int .i64 s.d, .int .i64 s.on], .slice T (l.length + 1) ct, .pointer (some ⟨kb, 0, none⟩), .pointer (some ⟨pb, 0, none⟩), .pointer (some ⟨tb, 0, none⟩)] W (RetTry p L m n (bestOf p (x :: l) s) (l.length + 1) W) := by
  have hk0 : (((l.length + 1 : Nat) : Int) == 0) = false := by
    rw [beq_eq_false_iff_ne]
    omega
  obtain ⟨bT, oT, rfl, hbT, hat⟩ := hT (by simp)
  have HT := Lib.hid hat
  clear hat
  have HP := Lib.hid hp
  have HDR : Hid (∀ d ∈ L, drawOk d = true) := Lib.hid fun d hd => by
    simp only [drawsOk, Bool.and_eq_true, List.all_eq_true] at hL
    exact hL.2 d hd
  have HE0 := Lib.hid hE
  have HLEN : Hid (l.length + 1 ≤ 8) := Lib.hid (by
    have h1 := (draws_parts hL).1
    have h2 := hl.length_le
    simp only [List.length_cons] at h2
    omega)
  have HBM : Hid (b ≠ m) := Lib.hid fun e => by
    obtain ⟨es, ck, hmap⟩ := hE.known.isMap
    have := (hE.dies.2.2 0 (by have := (press_parts hp).1.1; omega)).1
    subst e
    simp [World.cell?, hmap] at this
  have hm := hE.known.lt
  have HMW := Lib.hid hm
  have HLT : Hid (tb < W.heap.size ∧ bT < W.heap.size ∧ pb < W.heap.size) := Lib.hid ⟨hE.bt.lt, hbT, hE.bp.lt⟩
  have HDL := Lib.hid hL
  have HSUM := Lib.hid hsum
  have HN0 := Lib.hid hn
  have hS := TryB.start W (some ⟨bT, oT, none⟩) ct (l.length + 1) s
  have hE1 := hE.call hS.below
  have hlk := hlook _ (hS.below.block m hE.known.lt)
  have HS := Lib.hid hS
  have HE := Lib.hid hE1
  clear hE hlook hS hE1 hp hT
  refine (callsIn_wide (n := 10)).1 ?_
  refine callsIn_of_wp_marks Try.func102 rfl trivial ?_ rfl
  simp only [Try.ntmps102, List.size_toArray, List.length_cons, List.length_nil, Nat.reduceAdd, Nat.reduceSub, Array.replicate_succ, Array.replicate_zero, List.push_toArray, List.append_toArray, List.nil_append, List.cons_append]
  gi_wp2
  generalize World.alloc (World.alloc (World.alloc W _) _) _ = W0 at HS HE hlk ⊢
  have x0 : W0.cell? ⟨kb, 0, none⟩ = some (.map (some m)) := HE.out.bk.cell 0
  have y0 := HS.out.b5.cell 0
  have y1 := HS.out.b5.cell 1
  have y2 := HS.out.b5.cell 2
  have y3 := HS.out.b5.cell 3
  have y4 := HS.out.b5.cell 4
  have z0 := HS.out.b6.cell 0
  unfold restZ at hlk
  refine wpIn_wide.2 ?_
  go_step3
  go_wp2_with fail
  have hO : Own p L (some ⟨bT, oT, none⟩) ct (l.length + 1) m s W (W0.heap.size + 1) n ⟨[], 0, false⟩ ((W0.alloc (.cells #[.slice none 0 0, .int .i64 0, .bool false] 122)).alloc (.cells #[.slice none 0 0, .int .i64 0, .bool false] 122)) := by
    have hb := HS.out.below
    have hb2 : Below W0.heap.size W0 ((W0.alloc (.cells #[.slice none 0 0, .int .i64 0, .bool false] 122)).alloc (.cells #[.slice none 0 0, .int .i64 0, .bool false] 122)) := by repeat (first | exact Below.refl _ _ | assumption | refine Below.drew ?_ | refine Below.alloc ?_ (by first | omega | (simp only [World.size_alloc]; omega) | simp) _ | refine Below.setCell ?_ (by first | omega | (simp only [World.size_alloc]; omega) | simp) _)
    exact ⟨grown_below (hb.trans (hb2.mono hb.size)), (HE0.out.known.call hb).call hb2, HS.out.b5.below hb2 HS.out.b5.lt, HS.out.b6.below hb2 HS.out.b6.lt, HS.out.b7.below hb2 HS.out.b7.lt, none, 0, blk_at _ _ (by simp), World.ownsRow_nil _ _ _ _⟩
  have hg : W.heap.size + 1 + 1 < W0.heap.size + 1 := by
    have := HS.out.b7.lt
    omega
  have HO := Lib.hid hO
  have HBW := Lib.hid HE0.out.dies.2.1
  clear hO HS HE x0 y0 y1 y2 y3 y4 z0 hlk
  generalize World.alloc (World.alloc W0 _) _ = V at HO ⊢
  generalize W0.heap.size + 1 = g at hg HO ⊢
  have HWG := Lib.hid hg
  generalize W0.heap.size = g8
  have HEV := Lib.hid (HE0.out.gr HO.out.gr HO.out.known)
  have w0 := HEV.out.bp.cell 0
  have w1 := HEV.out.bp.cell 1
  have w2 := HEV.out.bp.cell 2
  have w3 := HEV.out.bp.cell 3
  go_step3
  go_wp2_with fail
  clear w0 w1 w2 w3
  refine (mkDies_any _ _ _ _).mono ?_
  rintro e w' ⟨rfl, rfl⟩
  go_wp2_with fail
  have hw3 : Below V.heap.size V (V.alloc (.cells #[.slice A p.dies.length c, .int .i64 p.shrink.lo, .int .i64 p.shrink.hi, .int .i64 p.change] 26)) := (Below.refl _ _).alloc (Nat.le_refl _) _
  have hq := Blk.new V 26 #[.slice A p.dies.length c, .int .i64 p.shrink.lo, .int .i64 p.shrink.hi, .int .i64 p.change]
  have hA3 : A = some ⟨b, off, none⟩ ∧ b < (V.alloc (.cells #[.slice A p.dies.length c, .int .i64 p.shrink.lo, .int .i64 p.shrink.hi, .int .i64 p.change] 26)).heap.size ∧ At3 dieF (V.alloc (.cells #[.slice A p.dies.length c, .int .i64 p.shrink.lo, .int .i64 p.shrink.hi, .int .i64 p.change] 26)) b off p.dies := ⟨HEV.out.dies.1, Nat.lt_of_lt_of_le HEV.out.dies.2.1 hw3.size, HEV.out.dies.2.2.below hw3 HEV.out.dies.2.1⟩
  have hp4 := (press_parts HP.out).1.2
  have hbV := HEV.out.dies.2.1
  have HO3 := Lib.hid (HO.out.call hw3)
  have HVW : Hid (W.heap.size ≤ V.heap.size ∧ g < V.heap.size ∧ b < W.heap.size) := Lib.hid ⟨HO.out.gr.size, by obtain ⟨_, _, h, _⟩ := HO.out.best; exact h.lt, HBW.out⟩
  have hz3 : (V.alloc (.cells #[.slice A p.dies.length c, .int .i64 p.shrink.lo, .int .i64 p.shrink.hi, .int .i64 p.change] 26)).heap.size = V.heap.size + 1 := World.size_alloc _ _
  clear HO hw3 HEV
  refine (wpIn_wide (n := 10)).1 ?_
  refine wpIn_rangeFunc_facts (n := 10) (by omega) (gf := 136) (lb := #[.pointer (some ⟨V.heap.size, 0, none⟩)]) rfl (enters_of Try.func136 (by kernel_rfl) rfl)
    (dies_facts 9 (by omega) V.heap.size b off c A p _ hp4 hq hA3) (fun a b => a.trans b) ?hKb (fun _ => rfl)
    (fun pre U => RoundI p L (some ⟨bT, oT, none⟩) ct m s W g V.heap.size x l n A c pre U) (fun cd pre U => cd = Code.exit 0 ∧ StopI p L (some ⟨bT, oT, none⟩) ct m s W g V.heap.size x l n A c pre U)
    ?hI ?hIx ?h0
    (fun d a' U => ∃ Bx, Blk U Bx 112 #[.int .i64 (p.die d.n).wide, .int .i64 (p.die d.n).wear.lo, .int .i64 (p.die d.n).wear.hi, .func (.func 134) #[] #[.pointer (some ⟨d.q, 0, none⟩), .pointer (some ⟨d.r, 0, none⟩), .pointer (some ⟨d.s, 0, none⟩)], .func (.func 98) #[] #[], .func (.func 134) #[] #[.pointer (some ⟨d.q2, 0, none⟩), .pointer (some ⟨d.r2, 0, none⟩), .pointer (some ⟨d.s2, 0, none⟩)], .func (.func 99) #[] #[]] ∧ DieFact p d U ∧ a' = { tmps := List.toArray (.agg #[.int .i64 s.a, .int .i64 s.b, .int .i64 s.c, .int .i64 s.d, .int .i64 s.on] :: .slice (some ⟨bT, oT, none⟩) (l.length + 1) ct :: .pointer (some ⟨kb, 0, none⟩) :: .pointer (some ⟨pb, 0, none⟩) :: .pointer (some ⟨tb, 0, none⟩) :: .pointer (some ⟨W.heap.size, 0, none⟩) :: .pointer (some ⟨W.heap.size + 1, 0, none⟩) :: .pointer (some ⟨W.heap.size + 1 + 1, 0, none⟩) :: .pointer (some ⟨g8, 0, none⟩) :: .bool false :: .pointer (some ⟨g, 0, none⟩) :: .int .i64 (d.n : Int) :: .pointer (some ⟨Bx, 0, none⟩) :: undef :: .slice (some ⟨bT, oT, none⟩) (l.length + 1) ct :: .int .i64 ((l.length : Int) + 1) :: .bool false :: undef :: .tuple #[.agg #[.slice none 0 0, .int .i64 0, .bool false], .bool false] :: .map (some m) :: .agg #[.int .i64 s.a, .int .i64 s.b, .int .i64 s.c, .int .i64 s.d, .int .i64 s.on] :: .tuple #[.agg #[.slice none 0 0, .int .i64 0, .bool false], .bool false] :: .agg #[.slice none 0 0, .int .i64 0, .bool false] :: .bool false :: .bool false :: undef :: .agg #[.slice A p.dies.length c, .int .i64 p.shrink.lo, .int .i64 p.shrink.hi, .int .i64 p.change] :: .func (.func 136) #[] #[.pointer (some ⟨V.heap.size, 0, none⟩)] :: .int .i64 (d.n : Int) :: .agg #[.int .i64 (p.die d.n).wide, .int .i64 (p.die d.n).wear.lo, .int .i64 (p.die d.n).wear.hi, .func (.func 134) #[] #[.pointer (some ⟨d.q, 0, none⟩), .pointer (some ⟨d.r, 0, none⟩), .pointer (some ⟨d.s, 0, none⟩)], .func (.func 98) #[] #[], .func (.func 134) #[] #[.pointer (some ⟨d.q2, 0, none⟩), .pointer (some ⟨d.r2, 0, none⟩), .pointer (some ⟨d.s2, 0, none⟩)], .func (.func 99) #[] #[]] :: undef :: undef :: undef :: undef :: undef :: undef :: undef :: undef :: undef :: undef :: undef :: undef :: undef :: undef :: undef :: undef :: undef :: undef :: undef :: undef :: undef :: undef :: undef :: undef :: undef :: undef :: undef :: undef :: undef :: undef :: undef :: undef :: undef :: undef :: undef :: undef :: undef :: undef :: undef :: undef :: undef :: undef :: undef :: []), defers := [] }) ?hAx ?assign ?body ?done ?stop
  case hKb =>
    intro U o'
    refine ⟨?_, ?_⟩
    · unfold SameAt World.putObj
      exact Array.getElem?_setIfInBounds_ne (by rw [hz3]; omega)
    · unfold SameAt World.putObj
      exact Array.getElem?_setIfInBounds_ne (by rw [hz3]; omega)
  case hI =>
    intro pre X Y row hX hg2 hr
    rw [hz3] at hr
    exact hX.soft hm (by have := HO3.out.gr.size; omega) hg2 hr
  case hIx =>
    rintro cd pre X Y row ⟨h1, hX⟩ hg2 hr
    rw [hz3] at hr
    exact ⟨h1, hX.soft hm (by have := HO3.out.gr.size; omega) hg2 hr⟩
  case h0 => exact ⟨by simpa [scanL] using HO3.out, hq, by omega, by simp [scanL, Rst.bd]; omega⟩
  case hAx =>
    rintro d a' _ X Y row ⟨Bx, h1, h2, h3⟩ hg2 hr
    exact ⟨Bx, blk_soft h1 hg2 fun j e => (hr j e).2, h2.soft hg2 fun j e => (hr j e).2, h3⟩
  case assign =>
    rintro l0 pre d U K hI hF hK
    have hX := hI.call ((Below.refl _ U).alloc (Nat.le_refl _) (.cells #[.int .i64 (p.die d.n).wide, .int .i64 (p.die d.n).wear.lo, .int .i64 (p.die d.n).wear.hi, .func (.func 134) #[] #[.pointer (some ⟨d.q, 0, none⟩), .pointer (some ⟨d.r, 0, none⟩), .pointer (some ⟨d.s, 0, none⟩)], .func (.func 98) #[] #[], .func (.func 134) #[] #[.pointer (some ⟨d.q2, 0, none⟩), .pointer (some ⟨d.r2, 0, none⟩), .pointer (some ⟨d.s2, 0, none⟩)], .func (.func 99) #[] #[]] 112))
    have hF2 := hF.call ((Below.refl _ U).alloc (Nat.le_refl _) (.cells #[.int .i64 (p.die d.n).wide, .int .i64 (p.die d.n).wear.lo, .int .i64 (p.die d.n).wear.hi, .func (.func 134) #[] #[.pointer (some ⟨d.q, 0, none⟩), .pointer (some ⟨d.r, 0, none⟩), .pointer (some ⟨d.s, 0, none⟩)], .func (.func 98) #[] #[], .func (.func 134) #[] #[.pointer (some ⟨d.q2, 0, none⟩), .pointer (some ⟨d.r2, 0, none⟩), .pointer (some ⟨d.s2, 0, none⟩)], .func (.func 99) #[] #[]] 112))
    have HX := Lib.hid hX
    have HF2 := Lib.hid hF2
    have HI := Lib.hid hI
    clear hX hF2 hI hF hA3 hq
    have HZ3 := Lib.hid hz3
    clear hz3
    unfold dieV
    gi_wp2
    have hbU : b < U.heap.size := Nat.lt_of_lt_of_le hbV (by have := HI.out.size; omega)
    exact hK _ _ ((KeepsOthers.alloc _ _).from _) ⟨Below.heap_alloc _ _ _ (by have := HI.out.size; omega), Below.heap_alloc _ _ _ hbU⟩ HX.out ⟨U.heap.size, Blk.new _ _ _, HF2.out, rfl⟩
  case body =>
    rintro l0 pre d a' U hI ⟨Bx, hBx, hF, rfl⟩ hlen
    obtain ⟨A2, c2, hbest, hplan⟩ := hI.own.best
    have hd4 : d.n < p.dies.length := hF.1
    have HI := Lib.hid hI
    have HF := Lib.hid hF
    have HBX := Lib.hid hBx
    have HBS := Lib.hid hbest
    have HPL := Lib.hid hplan
    have HZ3 := Lib.hid hz3
    have hbd := HI.out.bd
    have HSC : Hid (∀ pre', pre' = pre → scanL p x s (fun k => bestOf p l (s.after x.len k)) pre' = scanL p x s (fun k => bestOf p l (s.after x.len k)) pre) := Lib.hid fun _ h => by rw [h]
    obtain ⟨r0, hr0⟩ : ∃ r0, scanL p x s (fun k => bestOf p l (s.after x.len k)) pre = r0 := ⟨_, rfl⟩
    rw [hr0] at hbd hbest HBS HPL
    have HBD := Lib.hid hbd
    have HKP : Hid (∀ V', Turn m g U V' → KeepsFrom (V.alloc (.cells #[.slice A p.dies.length c, .int .i64 p.shrink.lo, .int .i64 p.shrink.hi, .int .i64 p.change] 26)).heap.size U V' ∧ Kept V.heap.size b U V') := Lib.hid fun V' hT => by
      have hs1 := HI.out.size
      have hs2 := HZ3.out
      have hs3 := HVW.out
      exact hT.keeps (by omega) HBS.out HI.out.box (by omega) (by omega) (by omega) HBM.out (by omega)
    have hbd1 : 0 ≤ r0.cost ∧ r0.cost ≤ 100000 := by
      have h1 := hbd.1
      have h2 := hbd.2.1
      have h3 := HLEN.out
      omega
    clear hbd
    have HR0 := Lib.hid hr0
    clear hI hF hBx hplan hz3 hA3 hq hr0 HSC
    have b0 : U.cell? ⟨g, 0, none⟩ = some (.slice A2 r0.plan.length c2) := hbest.cell 0
    have b1 : U.cell? ⟨g, 1, none⟩ = some (.int .i64 r0.cost) := hbest.cell 1
    have b2 : U.cell? ⟨g, 2, none⟩ = some (.bool r0.good) := hbest.cell 2
    clear hbest
    by_cases hstop : r0.good = true ∧ r0.cost ≤ d.n
    · obtain ⟨hgd, hcs⟩ := hstop
      rw [hgd] at b2
      have HGD := Lib.hid hgd
      clear hgd
      gi_wp2
      exact ⟨KeepsFrom.refl _ _, rfl, StopI.of HI.out HR0.out HGD.out hcs hd4⟩
    · have hAt := HT.out.gr HI.out.own.gr HE0.out.known.isMap.choose_spec.choose_spec
      have HNS := Lib.hid hstop
      clear hstop
      obtain ⟨t0, t1, t2⟩ := hAt 0 (by simp)
      simp only [drawF, List.getElem_cons_zero, Nat.zero_mul, Nat.add_zero] at t0 t1 t2
      have hM := HF.out.2
      have HA := Lib.hid hAt
      clear hAt
      have h11 : S11 U Bx (p.die d.n) d W.heap.size bT oT (l.length + 1) ct x s d.n U := ⟨Below.refl _ _, HBX.out.cell 0, HBX.out.cell 1, HBX.out.cell 2, HBX.out.cell 3, HBX.out.cell 4, HBX.out.cell 5, HBX.out.cell 6, HI.out.own.b6.cell 0, t0, t1, t2, HI.out.own.b5.cell_n d.n (by omega)⟩
      have H11 := Lib.hid h11
      have HTL : Hid (bT < U.heap.size) := Lib.hid (Nat.lt_of_lt_of_le hbT HI.out.own.gr.size)
      have hpp := press_parts HP.out
      have hxo : drawOk x = true := by
        have := HDR.out x (hl.subset (by simp))
        exact this
      have hsg := Sta.get_bd hs d.n
      have hs8 : s.sum ≤ 8000 := hs.2.2.2.2.1
      obtain ⟨db, hdb⟩ : ∃ db, doesB (p.die d.n) p.shrink x (s.get d.n) = db := ⟨_, rfl⟩
      have HDO : Hid (∀ V', Below U.heap.size U V' → Calls Try.prog 73 #[.agg #[.int .i64 (p.die d.n).wide, .int .i64 (p.die d.n).wear.lo, .int .i64 (p.die d.n).wear.hi, .func (.func 134) #[] #[.pointer (some ⟨d.q, 0, none⟩), .pointer (some ⟨d.r, 0, none⟩), .pointer (some ⟨d.s, 0, none⟩)], .func (.func 98) #[] #[], .func (.func 134) #[] #[.pointer (some ⟨d.q2, 0, none⟩), .pointer (some ⟨d.r2, 0, none⟩), .pointer (some ⟨d.s2, 0, none⟩)], .func (.func 99) #[] #[]], .agg #[.int .i64 x.len, .int .i64 x.want.lo, .int .i64 x.want.hi], .int .i64 (s.get d.n)] V' (Ret (.bool db) V')) := Lib.hid fun V' hV' => by
        rw [← hdb]
        exact does_any V' d.q d.r d.s d.q2 d.r2 d.s2 (p.die d.n) p.shrink x (s.get d.n) (hM.on hV' (Nat.le_refl _)) (hpp.2.1 _ (by rw [Press.die_eq p hd4]; exact List.getElem_mem _)) hpp.2.2.1 hxo hsg.1 (by omega)
      have HDB := Lib.hid hdb
      obtain ⟨s1, hs1⟩ : ∃ s1, s.after x.len d.n = s1 := ⟨_, rfl⟩
      obtain ⟨sub, hsub⟩ : ∃ sub, bestOf p l s1 = sub := ⟨_, rfl⟩
      obtain ⟨c1, hc1⟩ : ∃ c1, stepCost p.change s d.n = c1 := ⟨_, rfl⟩
      obtain ⟨r1, hr1⟩ : ∃ r1 : Rst, r1 = ⟨(d.n : Int) :: sub.plan, c1 + sub.cost, sub.good⟩ := ⟨_, rfl⟩
      have hx1 := (draws_parts HDL.out).2 x (hl.subset (by simp))
      have hsl : s.sum + x.len ≤ 8000 := by
        have h1 := lenSum_pos (l := l) fun d hd => ((draws_parts HDL.out).2 d (hl.subset (by simp [hd]))).1.1
        have h2 := lenSum_le (l := L) fun d hd => ((draws_parts HDL.out).2 d hd).1.2
        have h3 := (draws_parts HDL.out).1
        have h4 := HSUM.out
        rw [lenSum_cons] at h4
        omega
      have hs1ok : s1.ok := by
        rw [← hs1]
        exact Sta.after_ok hs (by omega) (by omega) hsl
      have HAF : Hid (∀ V', Calls Try.prog 104 #[.agg #[.int .i64 s.a, .int .i64 s.b, .int .i64 s.c, .int .i64 s.d, .int .i64 s.on], .agg #[.int .i64 x.len, .int .i64 x.want.lo, .int .i64 x.want.hi], .int .i64 (d.n : Int)] V' (Ret (staV s1) V')) := Lib.hid fun V' => by
        rw [← hs1]
        exact after0_any V' s x d.n (by omega) hs (by omega) hx1.1.2
      have hchg := (press_parts HP.out).2.2.2
      have HCO : Hid (∀ V', Calls Try.prog 106 #[.agg #[.int .i64 s.a, .int .i64 s.b, .int .i64 s.c, .int .i64 s.d, .int .i64 s.on], .agg #[.slice A p.dies.length c, .int .i64 p.shrink.lo, .int .i64 p.shrink.hi, .int .i64 p.change], .int .i64 (d.n : Int)] V' (Ret (.int .i64 c1) V')) := Lib.hid fun V' => by
        rw [← hc1]
        exact cost_any V' A c p s d.n (by omega) hchg.1 hchg.2
      have HTR : Hid (∀ V', Mid p L (some ⟨bT, oT, none⟩) ct (l.length + 1) m s W g (n + pre.length * cnt l.length) r0 U V' → Calls Try.prog 102 #[staV s1, .slice (tailAt bT oT ct) l.length (ct - 1), .pointer (some ⟨kb, 0, none⟩), .pointer (some ⟨pb, 0, none⟩), .pointer (some ⟨tb, 0, none⟩)] V' (RetTry p L m (n + pre.length * cnt l.length) sub l.length V')) := Lib.hid fun V' hM => by
        rw [← hsub]
        refine IH V' s1 _ _ _ (HE0.out.gr hM.own.gr hM.own.known) (tail_sl (x := x) (HT.out.gr hM.own.gr HE0.out.known.isMap.choose_spec.choose_spec) (Nat.lt_of_lt_of_le hbT hM.own.gr.size) hct) (by omega) hs1ok ?_ ?_
        · have h4 := HSUM.out
          rw [lenSum_cons] at h4
          rw [← hs1, Sta.after_sum]
          omega
        · have h5 : pre.length * cnt l.length ≤ 3 * cnt l.length := Nat.mul_le_mul_right _ (by omega)
          have h6 := HN0.out
          simp only [List.length_cons, cnt] at h6
          omega
      have hsbd := best_bd HP.out l s1
      rw [hsub] at hsbd
      have hcbd := stepCost_bd hchg.1 hchg.2 s (n := d.n) (by omega)
      rw [hc1] at hcbd
      have HBF : Hid (∀ V' A2 c2, PlanAt V' (.slice A2 sub.plan.length c2) sub.plan → Calls Try.prog 105 #[.agg #[.slice A2 sub.plan.length c2, .int .i64 sub.cost, .bool sub.good], .int .i64 (d.n : Int), .int .i64 c1] V' (RetRest r1 V')) := Lib.hid fun V' A2 c2 hP => by
        rw [hr1]
        have h3 := HLEN.out
        have h4 := hsbd.2.1
        have h5 := hsbd.2.2
        exact before_any V' A2 c2 sub.plan d.n c1 sub.cost sub.good hP (by omega) (by omega) (by omega) hsbd.1 (by omega)
      have HST : Hid (scanL p x s (fun k => bestOf p l (s.after x.len k)) (pre ++ [d]) = if db = true then (if betterB r1 r0 = true then r1 else r0) else r0) := Lib.hid (by
        rw [scanL_snoc, HR0.out]; unfold stepR; simp only [hs1, hsub, hc1]; rw [HDB.out, ← hr1])
      have HBD2 : Hid ((scanL p x s (fun k => bestOf p l (s.after x.len k)) (pre ++ [d])).bd (l.length + 1)) := Lib.hid (by
        rw [scanL_snoc, HR0.out]
        exact stepR_bd hchg.1 hchg.2 (best_bd HP.out l _) (by omega) HBD.out)
      obtain ⟨bb, hbb⟩ : ∃ bb, betterB r1 r0 = bb := ⟨_, rfl⟩
      have HBB := Lib.hid hbb
      have HBE : Hid (∀ V' A T (n c m d : Nat), Calls Try.prog 107 #[.agg #[.slice A n c, .int .i64 r1.cost, .bool r1.good], .agg #[.slice T m d, .int .i64 r0.cost, .bool r0.good]] V' (Ret (.bool bb) V')) := Lib.hid fun V' A T n c m d => by
        rw [← hbb]
        exact better_any V' A T n c m d _ _ _ _
      have HBU := Lib.hid HI.out.box
      have HZU := Lib.hid HI.out.size
      clear hbb
      clear hsbd hcbd hchg hs1ok hsl hx1 hs1 hsub hc1 hr1
      clear hpp hxo hsg hs8 hdb
      clear h11 t0 t1 t2 hM
      have hd0 : (0 : Int) ≤ d.n := by omega
      have hd5 : (d.n : Int) < 5 := by omega
      have hl0 : (0 : Int) < (l.length : Int) + 1 := by omega
      have hl1 : (1 : Int) ≤ (l.length : Int) + 1 := by omega
      rcases hgd : r0.good with _ | _
      all_goals rw [hgd] at b2
      all_goals have HGD := Lib.hid hgd
      all_goals clear hgd
      · gi_wp2_with fail
        clear b0 b1 b2
        refine wpIn_region_round (S := S11 U Bx (p.die d.n) d W.heap.size bT oT (l.length + 1) ct x s d.n) (by kernel_rfl) (by kernel_rfl) (fun ⟨_, _, h⟩ => h) H11.out.drew (fun hH => ?_)
        refine wpAnyH_take (i := 0 ) (v := ?_) rfl (by kernel_rfl) (by kernel_rfl) (by kernel_rfl) (fun _ _ _ h => h) (Or.inl ⟨by rfl, ?_⟩) (by assumption) ?_; rotate_left
        · (intro w hSw; obtain ⟨-, m0, m1, m2, m3, m4, m5, m6, b6, t0, t1, t2, b5⟩ := hSw; go_simp); first | done | with_reducible rfl
        try simp only [Act.put, List.getElem_toArray, List.getElem_cons_zero, List.setIfInBounds_toArray, List.set_cons_zero, List.set_cons_succ]
        refine wpAnyH_take (i := 1 ) (v := ?_) rfl (by kernel_rfl) (by kernel_rfl) (by kernel_rfl) (fun _ _ _ h => h) (Or.inl ⟨by rfl, ?_⟩) (by assumption) ?_; rotate_left
        · (intro w hSw; obtain ⟨-, m0, m1, m2, m3, m4, m5, m6, b6, t0, t1, t2, b5⟩ := hSw; go_simp); first | done | with_reducible rfl
        try simp only [Act.put, List.getElem_toArray, List.getElem_cons_succ, List.getElem_cons_zero, List.setIfInBounds_toArray, List.set_cons_zero, List.set_cons_succ]
        refine wpAnyH_take (i := 2 ) (v := ?_) rfl (by kernel_rfl) (by kernel_rfl) (by kernel_rfl) (fun _ _ _ h => h) (Or.inl ⟨by rfl, ?_⟩) (by assumption) ?_; rotate_left
        · (intro w hSw; obtain ⟨-, m0, m1, m2, m3, m4, m5, m6, b6, t0, t1, t2, b5⟩ := hSw; go_simp); first | done | with_reducible rfl
        try simp only [Act.put, List.getElem_toArray, List.getElem_cons_succ, List.getElem_cons_zero, List.setIfInBounds_toArray, List.set_cons_zero, List.set_cons_succ]
        refine wpAnyH_take (i := 3 ) (v := ?_) rfl (by kernel_rfl) (by kernel_rfl) (by kernel_rfl) (fun _ _ _ h => h) (Or.inl ⟨by rfl, ?_⟩) (by assumption) ?_; rotate_left
        · (intro w hSw; obtain ⟨-, m0, m1, m2, m3, m4, m5, m6, b6, t0, t1, t2, b5⟩ := hSw; go_simp); first | done | with_reducible rfl
        try simp only [Act.put, List.getElem_toArray, List.getElem_cons_succ, List.getElem_cons_zero, List.setIfInBounds_toArray, List.set_cons_zero, List.set_cons_succ]
        refine wpAnyH_take (i := 4 ) (v := ?_) rfl (by kernel_rfl) (by kernel_rfl) (by kernel_rfl) (fun _ _ _ h => h) (Or.inl ⟨by rfl, ?_⟩) (by assumption) ?_; rotate_left
        · (intro w hSw; obtain ⟨-, m0, m1, m2, m3, m4, m5, m6, b6, t0, t1, t2, b5⟩ := hSw; go_simp); first | done | with_reducible rfl
        try simp only [Act.put, List.getElem_toArray, List.getElem_cons_succ, List.getElem_cons_zero, List.setIfInBounds_toArray, List.set_cons_zero, List.set_cons_succ]
        refine wpAnyH_take (i := 5 ) (v := ?_) rfl (by kernel_rfl) (by kernel_rfl) (by kernel_rfl) (fun _ _ _ h => h) (Or.inl ⟨by rfl, ?_⟩) (by assumption) ?_; rotate_left
        · (intro w hSw; obtain ⟨-, m0, m1, m2, m3, m4, m5, m6, b6, t0, t1, t2, b5⟩ := hSw; go_simp); first | done | with_reducible rfl
        try simp only [Act.put, List.getElem_toArray, List.getElem_cons_succ, List.getElem_cons_zero, List.setIfInBounds_toArray, List.set_cons_zero, List.set_cons_succ]
        refine wpAnyH_take (i := 6 ) (v := ?_) rfl (by kernel_rfl) (by kernel_rfl) (by kernel_rfl) (fun _ _ _ h => h) (Or.inl ⟨by rfl, ?_⟩) (by assumption) ?_; rotate_left
        · (intro w hSw; obtain ⟨-, m0, m1, m2, m3, m4, m5, m6, b6, t0, t1, t2, b5⟩ := hSw; go_simp); first | done | with_reducible rfl
        try simp only [Act.put, List.getElem_toArray, List.getElem_cons_succ, List.getElem_cons_zero, List.setIfInBounds_toArray, List.set_cons_zero, List.set_cons_succ]
        refine wpAnyH_ready (rs := [7]) (by kernel_rfl) (by simp) ?_
        refine AllReadyH.cons rfl (fun K hK => ?_) AllReadyH.nil
        go_simp
        refine (HDO.out _ hH.below).mono ?_
        rintro e U1 ⟨rfl, hb1⟩
        refine hK.out _ _ (hH.call hb1) (fun hHeld => ?_)
        clear hK K
        try simp only [Act.put, List.getElem_toArray, List.getElem_cons_succ, List.getElem_cons_zero, List.setIfInBounds_toArray, List.set_cons_zero, List.set_cons_succ]
        refine wpAnyH_take (i := 8 ) (v := ?_) rfl (by kernel_rfl) (by kernel_rfl) (by kernel_rfl) (fun _ _ _ h => h) (Or.inl ⟨by rfl, ?_⟩) (by assumption) ?_; rotate_left
        · (intro w hSw; obtain ⟨-, m0, m1, m2, m3, m4, m5, m6, b6, t0, t1, t2, b5⟩ := hSw; go_simp); first | done | with_reducible rfl
        try simp only [Act.put, List.getElem_toArray, List.getElem_cons_succ, List.getElem_cons_zero, List.setIfInBounds_toArray, List.set_cons_zero, List.set_cons_succ]
        refine wpAnyH_take (i := 9 ) (v := ?_) rfl (by kernel_rfl) (by kernel_rfl) (by kernel_rfl) (fun _ _ _ h => h) (Or.inl ⟨by rfl, ?_⟩) (by assumption) ?_; rotate_left
        · (intro w hSw; obtain ⟨-, m0, m1, m2, m3, m4, m5, m6, b6, t0, t1, t2, b5⟩ := hSw; go_simp); first | done | with_reducible rfl
        try simp only [Act.put, List.getElem_toArray, List.getElem_cons_succ, List.getElem_cons_zero, List.setIfInBounds_toArray, List.set_cons_zero, List.set_cons_succ]
        refine wpAnyH_done (by kernel_rfl) ?_ _
        replace HI := Lib.hid (HI.out.call (hHeld.below))
        replace HF := Lib.hid (HF.out.call hHeld.below)
        replace HBX := Lib.hid (HBX.out.below hHeld.below HBX.out.lt)
        have HBS0 := HBS
        replace HBS := Lib.hid (HBS.out.below hHeld.below HBS.out.lt)
        replace HPL := Lib.hid (HPL.out.below hHeld.below)
        replace HA := Lib.hid (HA.out.below hHeld.below HTL.out)
        have HTU : Hid (Turn m g U U1) := Lib.hid (.below hHeld.below)
        clear hHeld hH hb1 HDO H11
        cases db
        · gi_wp2_with fail
          have e : scanL p x s (fun k => bestOf p l (s.after x.len k)) (pre ++ [d]) = r0 := HST.out
          obtain ⟨k1, k2⟩ := HKP.out _ HTU.out
          refine ⟨k1, k2, ?_, HI.out.box, HI.out.size, HBD2.out⟩
          have ho := HI.out.own
          rw [HR0.out] at ho
          rw [e]
          exact ho.more (by simp [Nat.add_mul])
        · have hMid : Mid p L (some ⟨bT, oT, none⟩) ct (l.length + 1) m s W g (n + pre.length * cnt l.length) r0 U U1 := ⟨by have ho := HI.out.own; rwa [HR0.out] at ho, HTU.out⟩
          have HM := Lib.hid hMid
          have hEU := HE0.out.gr hMid.own.gr hMid.own.known
          have h12 : S12 kb pb tb W.heap.size bT oT (l.length + 1) ct x s A p c U1 := by
            obtain ⟨t0, t1, t2⟩ := HA.out 0 (by simp)
            exact ⟨hEU.bt.cell 0, hMid.own.b5.cell 0, hMid.own.b5.cell 1, hMid.own.b5.cell 2, hMid.own.b5.cell 3, hMid.own.b5.cell 4, hMid.own.b6.cell 0, by simpa [drawF] using t0, by simpa [drawF] using t1, by simpa [drawF] using t2, hEU.bp.cell 0, hEU.bp.cell 1, hEU.bp.cell 2, hEU.bp.cell 3⟩
          have H12 := Lib.hid h12
          clear h12 hMid hEU
          have HGU : Hid (g < U.heap.size) := Lib.hid HBS0.out.lt
          gi_wp2_with fail
          refine wpIn_region_round (S := S12 kb pb tb W.heap.size bT oT (l.length + 1) ct x s A p c) (by kernel_rfl) (by kernel_rfl) (fun ⟨_, _, h⟩ => h) (H12.out.call (Below.refl _ _).drew) (fun hH0 => ?_)
          replace HM := Lib.hid (HM.out.call (Below.refl _ _).drew)
          generalize U1.drew = V0 at hH0 HM ⊢
          refine wpAnyH_take (i := 0 ) (v := ?_) rfl (by kernel_rfl) (by kernel_rfl) (by kernel_rfl) (fun _ _ _ h => h) (Or.inl ⟨by rfl, ?_⟩) (by assumption) ?_; rotate_left
          · (intro w hSw; obtain ⟨f4, s0, s1, s2, s3, s4, b6, t0, t1, t2, p0, p1, p2, p3⟩ := hSw; go_simp); first | done | with_reducible rfl
          try simp only [Act.put, List.getElem_toArray, List.getElem_cons_zero, List.setIfInBounds_toArray, List.set_cons_zero, List.set_cons_succ]
          refine wpAnyH_take (i := 1 ) (v := ?_) rfl (by kernel_rfl) (by kernel_rfl) (by kernel_rfl) (fun _ _ _ h => h) (Or.inl ⟨by rfl, ?_⟩) (by assumption) ?_; rotate_left
          · (intro w hSw; obtain ⟨f4, s0, s1, s2, s3, s4, b6, t0, t1, t2, p0, p1, p2, p3⟩ := hSw; go_simp); first | done | with_reducible rfl
          try simp only [Act.put, List.getElem_toArray, List.getElem_cons_succ, List.getElem_cons_zero, List.setIfInBounds_toArray, List.set_cons_zero, List.set_cons_succ]
          refine wpAnyH_take (i := 2 ) (v := ?_) rfl (by kernel_rfl) (by kernel_rfl) (by kernel_rfl) (fun _ _ _ h => h) (Or.inl ⟨by rfl, ?_⟩) (by assumption) ?_; rotate_left
          · (intro w hSw; obtain ⟨f4, s0, s1, s2, s3, s4, b6, t0, t1, t2, p0, p1, p2, p3⟩ := hSw; go_simp); first | done | with_reducible rfl
          try simp only [Act.put, List.getElem_toArray, List.getElem_cons_succ, List.getElem_cons_zero, List.setIfInBounds_toArray, List.set_cons_zero, List.set_cons_succ]
          refine wpAnyH_take (i := 3 ) (v := ?_) rfl (by kernel_rfl) (by kernel_rfl) (by kernel_rfl) (fun _ _ _ h => h) (Or.inl ⟨by rfl, ?_⟩) (by assumption) ?_; rotate_left
          · (intro w hSw; obtain ⟨f4, s0, s1, s2, s3, s4, b6, t0, t1, t2, p0, p1, p2, p3⟩ := hSw; go_simp); first | done | with_reducible rfl
          try simp only [Act.put, List.getElem_toArray, List.getElem_cons_succ, List.getElem_cons_zero, List.setIfInBounds_toArray, List.set_cons_zero, List.set_cons_succ]
          refine wpAnyH_take (i := 4 ) (v := ?_) rfl (by kernel_rfl) (by kernel_rfl) (by kernel_rfl) (fun _ _ _ h => h) (Or.inl ⟨by rfl, ?_⟩) (by assumption) ?_; rotate_left
          · (intro w hSw; obtain ⟨f4, s0, s1, s2, s3, s4, b6, t0, t1, t2, p0, p1, p2, p3⟩ := hSw; go_simp); first | done | with_reducible rfl
          try simp only [Act.put, List.getElem_toArray, List.getElem_cons_succ, List.getElem_cons_zero, List.setIfInBounds_toArray, List.set_cons_zero, List.set_cons_succ]
          refine wpAnyH_take (i := 5 ) (v := ?_) rfl (by kernel_rfl) (by kernel_rfl) (by kernel_rfl) (fun _ _ _ h => h) (Or.inl ⟨by rfl, ?_⟩) (by assumption) ?_; rotate_left
          · (intro w hSw; obtain ⟨f4, s0, s1, s2, s3, s4, b6, t0, t1, t2, p0, p1, p2, p3⟩ := hSw; go_simp); first | done | with_reducible rfl
          try simp only [Act.put, List.getElem_toArray, List.getElem_cons_succ, List.getElem_cons_zero, List.setIfInBounds_toArray, List.set_cons_zero, List.set_cons_succ]
          refine wpAnyH_take (i := 7 ) (v := ?_) rfl (by kernel_rfl) (by kernel_rfl) (by kernel_rfl) (fun _ _ _ h => h) (Or.inl ⟨by rfl, ?_⟩) (by assumption) ?_; rotate_left
          · (intro w hSw; obtain ⟨f4, s0, s1, s2, s3, s4, b6, t0, t1, t2, p0, p1, p2, p3⟩ := hSw; go_simp); first | done | with_reducible rfl
          try simp only [Act.put, List.getElem_toArray, List.getElem_cons_succ, List.getElem_cons_zero, List.setIfInBounds_toArray, List.set_cons_zero, List.set_cons_succ]
          refine wpAnyH_take (i := 8) (v := .slice (tailAt bT oT ct) l.length (ct - 1)) rfl (by kernel_rfl) (by kernel_rfl) (by kernel_rfl) (fun _ _ _ h => h) (Or.inl ⟨by rfl, ?_⟩) (by assumption) ?_
          · (intro w hSw; obtain ⟨f4, s0, s1, s2, s3, s4, b6, t0, t1, t2, p0, p1, p2, p3⟩ := hSw; go_simp); rfl
          try simp only [Act.put, List.getElem_toArray, List.getElem_cons_succ, List.getElem_cons_zero, List.setIfInBounds_toArray, List.set_cons_zero, List.set_cons_succ]
          refine wpAnyH_take (i := 10 ) (v := ?_) rfl (by kernel_rfl) (by kernel_rfl) (by kernel_rfl) (fun _ _ _ h => h) (Or.inl ⟨by rfl, ?_⟩) (by assumption) ?_; rotate_left
          · (intro w hSw; obtain ⟨f4, s0, s1, s2, s3, s4, b6, t0, t1, t2, p0, p1, p2, p3⟩ := hSw; go_simp); first | done | with_reducible rfl
          try simp only [Act.put, List.getElem_toArray, List.getElem_cons_succ, List.getElem_cons_zero, List.setIfInBounds_toArray, List.set_cons_zero, List.set_cons_succ]
          refine wpAnyH_take (i := 11 ) (v := ?_) rfl (by kernel_rfl) (by kernel_rfl) (by kernel_rfl) (fun _ _ _ h => h) (Or.inl ⟨by rfl, ?_⟩) (by assumption) ?_; rotate_left
          · (intro w hSw; obtain ⟨f4, s0, s1, s2, s3, s4, b6, t0, t1, t2, p0, p1, p2, p3⟩ := hSw; go_simp); first | done | with_reducible rfl
          try simp only [Act.put, List.getElem_toArray, List.getElem_cons_succ, List.getElem_cons_zero, List.setIfInBounds_toArray, List.set_cons_zero, List.set_cons_succ]
          refine wpAnyH_take (i := 12 ) (v := ?_) rfl (by kernel_rfl) (by kernel_rfl) (by kernel_rfl) (fun _ _ _ h => h) (Or.inl ⟨by rfl, ?_⟩) (by assumption) ?_; rotate_left
          · (intro w hSw; obtain ⟨f4, s0, s1, s2, s3, s4, b6, t0, t1, t2, p0, p1, p2, p3⟩ := hSw; go_simp); first | done | with_reducible rfl
          try simp only [Act.put, List.getElem_toArray, List.getElem_cons_succ, List.getElem_cons_zero, List.setIfInBounds_toArray, List.set_cons_zero, List.set_cons_succ]
          refine wpAnyH_take (i := 13 ) (v := ?_) rfl (by kernel_rfl) (by kernel_rfl) (by kernel_rfl) (fun _ _ _ h => h) (Or.inl ⟨by rfl, ?_⟩) (by assumption) ?_; rotate_left
          · (intro w hSw; obtain ⟨f4, s0, s1, s2, s3, s4, b6, t0, t1, t2, p0, p1, p2, p3⟩ := hSw; go_simp); first | done | with_reducible rfl
          try simp only [Act.put, List.getElem_toArray, List.getElem_cons_succ, List.getElem_cons_zero, List.setIfInBounds_toArray, List.set_cons_zero, List.set_cons_succ]
          refine wpAnyH_ready (rs := [6, 16]) (by kernel_rfl) (by simp) ?_
          refine AllReadyH.cons rfl (fun K hK => ?_) ?_
          · go_simp
            refine (HAF.out _).mono ?_
            rintro e V1 ⟨rfl, hb⟩
            refine hK.out _ _ (hH0.call hb) (fun hH1 => ?_)
            clear hK K
            replace HM := Lib.hid (HM.out.call hb)
            clear hb
            clear hH0
            try simp only [Act.put, List.getElem_toArray, List.getElem_cons_succ, List.getElem_cons_zero, List.setIfInBounds_toArray, List.set_cons_zero, List.set_cons_succ]
            refine wpAnyH_ready (rs := [9, 16]) (by kernel_rfl) (by simp) ?_
            refine AllReadyH.cons rfl (fun K hK => ?_) ?_
            · go_simp
              refine (HTR.out _ HM.out).mono ?_
              rintro e V2 ⟨A2, c2, rfl, hP, hg2, hk⟩
              obtain ⟨es, ck, hmap⟩ := HM.out.own.known.isMap
              refine hK.out _ _ (hH1.gr hg2 hmap) (fun hH2 => ?_)
              clear hK K
              have HP := Lib.hid hP
              replace HM := Lib.hid (HM.out.gr hg2 hk)
              clear hg2 hk hmap hP es ck
              clear hH1
              try simp only [Act.put, List.getElem_toArray, List.getElem_cons_succ, List.getElem_cons_zero, List.setIfInBounds_toArray, List.set_cons_zero, List.set_cons_succ]
              refine wpAnyH_ready (rs := [14, 16]) (by kernel_rfl) (by simp) ?_
              refine AllReadyH.cons rfl (fun K hK => ?_) ?_
              · go_simp
                refine (HCO.out _).mono ?_
                rintro e V3 ⟨rfl, hb⟩
                refine hK.out _ _ (hH2.call hb) (fun hH3 => ?_)
                clear hK K
                replace HM := Lib.hid (HM.out.call hb)
                replace HP := Lib.hid (HP.out.below hb)
                clear hb
                clear hH2
                try simp only [Act.put, List.getElem_toArray, List.getElem_cons_succ, List.getElem_cons_zero, List.setIfInBounds_toArray, List.set_cons_zero, List.set_cons_succ]
                refine wpAnyH_ready (rs := [15, 16]) (by kernel_rfl) (by simp) ?_
                refine AllReadyH.cons rfl (fun K hK => ?_) ?_
                · go_simp
                  refine (HBF.out _ _ _ HP.out).mono ?_
                  rintro e V4 ⟨g2, cap2, rfl, hQ, -, hb⟩
                  refine hK.out _ _ (hH3.call hb) (fun hH4 => ?_)
                  clear hK K HP
                  replace HM := Lib.hid (HM.out.call hb)
                  have HQ := Lib.hid hQ
                  clear hb hQ
                  clear hH3
                  try simp only [Act.put, List.getElem_toArray, List.getElem_cons_succ, List.getElem_cons_zero, List.setIfInBounds_toArray, List.set_cons_zero, List.set_cons_succ]
                  refine wpAnyH_ready (rs := [16]) (by kernel_rfl) (by simp) ?_
                  refine AllReadyH.cons rfl (fun K hK => ?_) ?_
                  · have hbl : Below (V4).heap.size V4 ((V4).alloc (.cells #[.slice none 0 0, .int .i64 0, .bool false] 122)) := (Below.refl _ _).alloc (Nat.le_refl _) _
                    go_simp
                    refine hK.out _ _ (hH4.call hbl) (fun hH5 => ?_)
                    clear hK K
                    have HN := Lib.hid (New.made HM.out HGU.out #[.slice none 0 0, .int .i64 0, .bool false])
                    replace HM := Lib.hid (HM.out.call hbl)
                    replace HQ := Lib.hid (HQ.out.below hbl)
                    clear hbl
                    generalize World.alloc V4 _ = V5 at hH5 HM HN HQ ⊢
                    generalize (V4).heap.size = e at HN ⊢
                    clear hH4
                    try simp only [Act.put, List.getElem_toArray, List.getElem_cons_succ, List.getElem_cons_zero, List.setIfInBounds_toArray, List.set_cons_zero, List.set_cons_succ]
                    refine wpAnyH_ready (rs := [17]) (by kernel_rfl) (by simp) ?_
                    refine AllReadyH.cons rfl (fun K hK => ?_) ?_
                    · have c0 := HN.out.blk.cell 0
                      have c1 := HN.out.blk.cell 1
                      have c2' := HN.out.blk.cell 2
                      have f0 := HN.out.blk.frozen 0
                      have f1 := HN.out.blk.frozen 1
                      have f2 := HN.out.blk.frozen 2
                      go_simp
                      have hst := HM.out.stored HN.out HGU.out HWG.out HMW.out HQ.out
                      refine hK.out _ _ (hst.s12 HLT.out hH5) (fun hH6 => ?_)
                      clear hK K c0 c1 c2' f0 f1 f2 HM HN HQ
                      try simp only [Act.put, List.getElem_toArray, List.getElem_cons_succ, List.getElem_cons_zero, List.setIfInBounds_toArray, List.set_cons_zero, List.set_cons_succ]
                      refine wpAnyH_done (by kernel_rfl) ?_ _
                      obtain ⟨hm3, hb3, hp3, -⟩ := hst
                      generalize World.setCell (World.setCell (World.setCell _ _ _) _ _) _ _ = V9 at hm3 hb3 hp3 ⊢
                      clear hH6
                      have HM := Lib.hid hm3
                      have HB3 := Lib.hid hb3
                      have HP3 := Lib.hid hp3
                      have e0 := hb3.cell 0
                      have e1 := hb3.cell 1
                      have e2 := hb3.cell 2
                      obtain ⟨A3, c3, hg3, hpl3⟩ := hm3.own.best
                      clear hpl3 hm3 hb3 hp3
                      have g0 : V9.cell? ⟨g, 0, none⟩ = some (.slice A3 r0.plan.length c3) := hg3.cell 0
                      have g1 : V9.cell? ⟨g, 1, none⟩ = some (.int .i64 r0.cost) := hg3.cell 1
                      have g2' : V9.cell? ⟨g, 2, none⟩ = some (.bool r0.good) := hg3.cell 2
                      have HG3 := Lib.hid hg3
                      clear hg3
                      gi_wp2_with fail
                      clear e0 e1 e2 g0 g1 g2'
                      refine ⟨trivial, (callsIn_wide.2 (HBE.out _ _ _ _ _ _ _)).mono ?_⟩
                      rintro e' V10 ⟨rfl, hb⟩
                      replace HM := Lib.hid (HM.out.call hb)
                      replace HB3 := Lib.hid (HB3.out.below hb HB3.out.lt)
                      replace HP3 := Lib.hid (HP3.out.below hb)
                      replace HG3 := Lib.hid (HG3.out.below hb HG3.out.lt)
                      clear hb
                      cases bb
                      · gi_wp2_with fail
                        obtain ⟨k1, k2⟩ := HKP.out _ HM.out.turn
                        refine ⟨k1, k2, ?_, Eq.trans k2.1 HBU.out, Nat.le_trans HZU.out HM.out.turn.size, HBD2.out⟩
                        rw [HST.out]
                        simp only [HBB.out, if_true, Bool.false_eq_true, if_false]
                        exact HM.out.own.more (by simp [Nat.add_mul]; omega)
                      · have e0 := HB3.out.cell 0
                        have e1 := HB3.out.cell 1
                        have e2 := HB3.out.cell 2
                        have c0 : V10.cell? ⟨g, 0, none⟩ = some (.slice A3 r0.plan.length c3) := HG3.out.cell 0
                        have c1' : V10.cell? ⟨g, 1, none⟩ = some (.int .i64 r0.cost) := HG3.out.cell 1
                        have c2' : V10.cell? ⟨g, 2, none⟩ = some (.bool r0.good) := HG3.out.cell 2
                        have f0 := HG3.out.frozen 0
                        have f1 := HG3.out.frozen 1
                        have f2 := HG3.out.frozen 2
                        gi_wp2_with fail
                        clear e0 e1 e2 c0 c1' c2' f0 f1 f2
                        have hO9 := HM.out.own.put HWG.out HMW.out _ _ HP3.out
                        have hT9 : Turn m g U (((V10.setCell ⟨g, 0, none⟩ (.slice (some ⟨g2, 0, none⟩) r1.plan.length cap2)).setCell ⟨g, 1, none⟩ (.int .i64 r1.cost)).setCell ⟨g, 2, none⟩ (.bool r1.good)) := ((HM.out.turn.set g 0 _ (.inr rfl)).set g 1 _ (.inr rfl)).set g 2 _ (.inr rfl)
                        obtain ⟨k1, k2⟩ := HKP.out _ hT9
                        refine ⟨k1, k2, ?_, Eq.trans k2.1 HBU.out, Nat.le_trans HZU.out hT9.size, HBD2.out⟩
                        rw [HST.out]
                        simp only [HBB.out, if_true]
                        exact hO9.more (by simp [Nat.add_mul]; omega)
                    exact AllReadyH.nil
                  exact AllReadyH.nil
                refine AllReadyH.cons rfl (fun K hK => ?_) ?_
                · have hbl : Below (V3).heap.size V3 ((V3).alloc (.cells #[.slice none 0 0, .int .i64 0, .bool false] 122)) := (Below.refl _ _).alloc (Nat.le_refl _) _
                  go_simp
                  refine hK.out _ _ (hH3.call hbl) (fun hH4 => ?_)
                  clear hK K
                  have HN := Lib.hid (New.made HM.out HGU.out #[.slice none 0 0, .int .i64 0, .bool false])
                  replace HM := Lib.hid (HM.out.call hbl)
                  replace HP := Lib.hid (HP.out.below hbl)
                  clear hbl
                  generalize World.alloc V3 _ = V4 at hH4 HM HN HP ⊢
                  generalize (V3).heap.size = e at HN ⊢
                  clear hH3
                  try simp only [Act.put, List.getElem_toArray, List.getElem_cons_succ, List.getElem_cons_zero, List.setIfInBounds_toArray, List.set_cons_zero, List.set_cons_succ]
                  refine wpAnyH_ready (rs := [15]) (by kernel_rfl) (by simp) ?_
                  refine AllReadyH.cons rfl (fun K hK => ?_) ?_
                  · go_simp
                    refine (HBF.out _ _ _ HP.out).mono ?_
                    rintro e V5 ⟨g2, cap2, rfl, hQ, -, hb⟩
                    refine hK.out _ _ (hH4.call hb) (fun hH5 => ?_)
                    clear hK K HP
                    replace HM := Lib.hid (HM.out.call hb)
                    replace HN := Lib.hid (HN.out.call hb)
                    have HQ := Lib.hid hQ
                    clear hb hQ
                    clear hH4
                    try simp only [Act.put, List.getElem_toArray, List.getElem_cons_succ, List.getElem_cons_zero, List.setIfInBounds_toArray, List.set_cons_zero, List.set_cons_succ]
                    refine wpAnyH_ready (rs := [17]) (by kernel_rfl) (by simp) ?_
                    refine AllReadyH.cons rfl (fun K hK => ?_) ?_
                    · have c0 := HN.out.blk.cell 0
                      have c1 := HN.out.blk.cell 1
                      have c2' := HN.out.blk.cell 2
                      have f0 := HN.out.blk.frozen 0
                      have f1 := HN.out.blk.frozen 1
                      have f2 := HN.out.blk.frozen 2
                      go_simp
                      have hst := HM.out.stored HN.out HGU.out HWG.out HMW.out HQ.out
                      refine hK.out _ _ (hst.s12 HLT.out hH5) (fun hH6 => ?_)
                      clear hK K c0 c1 c2' f0 f1 f2 HM HN HQ
                      try simp only [Act.put, List.getElem_toArray, List.getElem_cons_succ, List.getElem_cons_zero, List.setIfInBounds_toArray, List.set_cons_zero, List.set_cons_succ]
                      refine wpAnyH_done (by kernel_rfl) ?_ _
                      obtain ⟨hm3, hb3, hp3, -⟩ := hst
                      generalize World.setCell (World.setCell (World.setCell _ _ _) _ _) _ _ = V9 at hm3 hb3 hp3 ⊢
                      clear hH6
                      have HM := Lib.hid hm3
                      have HB3 := Lib.hid hb3
                      have HP3 := Lib.hid hp3
                      have e0 := hb3.cell 0
                      have e1 := hb3.cell 1
                      have e2 := hb3.cell 2
                      obtain ⟨A3, c3, hg3, hpl3⟩ := hm3.own.best
                      clear hpl3 hm3 hb3 hp3
                      have g0 : V9.cell? ⟨g, 0, none⟩ = some (.slice A3 r0.plan.length c3) := hg3.cell 0
                      have g1 : V9.cell? ⟨g, 1, none⟩ = some (.int .i64 r0.cost) := hg3.cell 1
                      have g2' : V9.cell? ⟨g, 2, none⟩ = some (.bool r0.good) := hg3.cell 2
                      have HG3 := Lib.hid hg3
                      clear hg3
                      gi_wp2_with fail
                      clear e0 e1 e2 g0 g1 g2'
                      refine ⟨trivial, (callsIn_wide.2 (HBE.out _ _ _ _ _ _ _)).mono ?_⟩
                      rintro e' V10 ⟨rfl, hb⟩
                      replace HM := Lib.hid (HM.out.call hb)
                      replace HB3 := Lib.hid (HB3.out.below hb HB3.out.lt)
                      replace HP3 := Lib.hid (HP3.out.below hb)
                      replace HG3 := Lib.hid (HG3.out.below hb HG3.out.lt)
                      clear hb
                      cases bb
                      · gi_wp2_with fail
                        obtain ⟨k1, k2⟩ := HKP.out _ HM.out.turn
                        refine ⟨k1, k2, ?_, Eq.trans k2.1 HBU.out, Nat.le_trans HZU.out HM.out.turn.size, HBD2.out⟩
                        rw [HST.out]
                        simp only [HBB.out, if_true, Bool.false_eq_true, if_false]
                        exact HM.out.own.more (by simp [Nat.add_mul]; omega)
                      · have e0 := HB3.out.cell 0
                        have e1 := HB3.out.cell 1
                        have e2 := HB3.out.cell 2
                        have c0 : V10.cell? ⟨g, 0, none⟩ = some (.slice A3 r0.plan.length c3) := HG3.out.cell 0
                        have c1' : V10.cell? ⟨g, 1, none⟩ = some (.int .i64 r0.cost) := HG3.out.cell 1
                        have c2' : V10.cell? ⟨g, 2, none⟩ = some (.bool r0.good) := HG3.out.cell 2
                        have f0 := HG3.out.frozen 0
                        have f1 := HG3.out.frozen 1
                        have f2 := HG3.out.frozen 2
                        gi_wp2_with fail
                        clear e0 e1 e2 c0 c1' c2' f0 f1 f2
                        have hO9 := HM.out.own.put HWG.out HMW.out _ _ HP3.out
                        have hT9 : Turn m g U (((V10.setCell ⟨g, 0, none⟩ (.slice (some ⟨g2, 0, none⟩) r1.plan.length cap2)).setCell ⟨g, 1, none⟩ (.int .i64 r1.cost)).setCell ⟨g, 2, none⟩ (.bool r1.good)) := ((HM.out.turn.set g 0 _ (.inr rfl)).set g 1 _ (.inr rfl)).set g 2 _ (.inr rfl)
                        obtain ⟨k1, k2⟩ := HKP.out _ hT9
                        refine ⟨k1, k2, ?_, Eq.trans k2.1 HBU.out, Nat.le_trans HZU.out hT9.size, HBD2.out⟩
                        rw [HST.out]
                        simp only [HBB.out, if_true]
                        exact hO9.more (by simp [Nat.add_mul]; omega)
                    exact AllReadyH.nil
                  exact AllReadyH.nil
                exact AllReadyH.nil
              refine AllReadyH.cons rfl (fun K hK => ?_) ?_
              · have hbl : Below (V2).heap.size V2 ((V2).alloc (.cells #[.slice none 0 0, .int .i64 0, .bool false] 122)) := (Below.refl _ _).alloc (Nat.le_refl _) _
                go_simp
                refine hK.out _ _ (hH2.call hbl) (fun hH3 => ?_)
                clear hK K
                have HN := Lib.hid (New.made HM.out HGU.out #[.slice none 0 0, .int .i64 0, .bool false])
                replace HM := Lib.hid (HM.out.call hbl)
                replace HP := Lib.hid (HP.out.below hbl)
                clear hbl
                generalize World.alloc V2 _ = V3 at hH3 HM HN HP ⊢
                generalize (V2).heap.size = e at HN ⊢
                clear hH2
                try simp only [Act.put, List.getElem_toArray, List.getElem_cons_succ, List.getElem_cons_zero, List.setIfInBounds_toArray, List.set_cons_zero, List.set_cons_succ]
                refine wpAnyH_ready (rs := [14]) (by kernel_rfl) (by simp) ?_
                refine AllReadyH.cons rfl (fun K hK => ?_) ?_
                · go_simp
                  refine (HCO.out _).mono ?_
                  rintro e V4 ⟨rfl, hb⟩
                  refine hK.out _ _ (hH3.call hb) (fun hH4 => ?_)
                  clear hK K
                  replace HM := Lib.hid (HM.out.call hb)
                  replace HN := Lib.hid (HN.out.call hb)
                  replace HP := Lib.hid (HP.out.below hb)
                  clear hb
                  clear hH3
                  try simp only [Act.put, List.getElem_toArray, List.getElem_cons_succ, List.getElem_cons_zero, List.setIfInBounds_toArray, List.set_cons_zero, List.set_cons_succ]
                  refine wpAnyH_ready (rs := [15]) (by kernel_rfl) (by simp) ?_
                  refine AllReadyH.cons rfl (fun K hK => ?_) ?_
                  · go_simp
                    refine (HBF.out _ _ _ HP.out).mono ?_
                    rintro e V5 ⟨g2, cap2, rfl, hQ, -, hb⟩
                    refine hK.out _ _ (hH4.call hb) (fun hH5 => ?_)
                    clear hK K HP
                    replace HM := Lib.hid (HM.out.call hb)
                    replace HN := Lib.hid (HN.out.call hb)
                    have HQ := Lib.hid hQ
                    clear hb hQ
                    clear hH4
                    try simp only [Act.put, List.getElem_toArray, List.getElem_cons_succ, List.getElem_cons_zero, List.setIfInBounds_toArray, List.set_cons_zero, List.set_cons_succ]
                    refine wpAnyH_ready (rs := [17]) (by kernel_rfl) (by simp) ?_
                    refine AllReadyH.cons rfl (fun K hK => ?_) ?_
                    · have c0 := HN.out.blk.cell 0
                      have c1 := HN.out.blk.cell 1
                      have c2' := HN.out.blk.cell 2
                      have f0 := HN.out.blk.frozen 0
                      have f1 := HN.out.blk.frozen 1
                      have f2 := HN.out.blk.frozen 2
                      go_simp
                      have hst := HM.out.stored HN.out HGU.out HWG.out HMW.out HQ.out
                      refine hK.out _ _ (hst.s12 HLT.out hH5) (fun hH6 => ?_)
                      clear hK K c0 c1 c2' f0 f1 f2 HM HN HQ
                      try simp only [Act.put, List.getElem_toArray, List.getElem_cons_succ, List.getElem_cons_zero, List.setIfInBounds_toArray, List.set_cons_zero, List.set_cons_succ]
                      refine wpAnyH_done (by kernel_rfl) ?_ _
                      obtain ⟨hm3, hb3, hp3, -⟩ := hst
                      generalize World.setCell (World.setCell (World.setCell _ _ _) _ _) _ _ = V9 at hm3 hb3 hp3 ⊢
                      clear hH6
                      have HM := Lib.hid hm3
                      have HB3 := Lib.hid hb3
                      have HP3 := Lib.hid hp3
                      have e0 := hb3.cell 0
                      have e1 := hb3.cell 1
                      have e2 := hb3.cell 2
                      obtain ⟨A3, c3, hg3, hpl3⟩ := hm3.own.best
                      clear hpl3 hm3 hb3 hp3
                      have g0 : V9.cell? ⟨g, 0, none⟩ = some (.slice A3 r0.plan.length c3) := hg3.cell 0
                      have g1 : V9.cell? ⟨g, 1, none⟩ = some (.int .i64 r0.cost) := hg3.cell 1
                      have g2' : V9.cell? ⟨g, 2, none⟩ = some (.bool r0.good) := hg3.cell 2
                      have HG3 := Lib.hid hg3
                      clear hg3
                      gi_wp2_with fail
                      clear e0 e1 e2 g0 g1 g2'
                      refine ⟨trivial, (callsIn_wide.2 (HBE.out _ _ _ _ _ _ _)).mono ?_⟩
                      rintro e' V10 ⟨rfl, hb⟩
                      replace HM := Lib.hid (HM.out.call hb)
                      replace HB3 := Lib.hid (HB3.out.below hb HB3.out.lt)
                      replace HP3 := Lib.hid (HP3.out.below hb)
                      replace HG3 := Lib.hid (HG3.out.below hb HG3.out.lt)
                      clear hb
                      cases bb
                      · gi_wp2_with fail
                        obtain ⟨k1, k2⟩ := HKP.out _ HM.out.turn
                        refine ⟨k1, k2, ?_, Eq.trans k2.1 HBU.out, Nat.le_trans HZU.out HM.out.turn.size, HBD2.out⟩
                        rw [HST.out]
                        simp only [HBB.out, if_true, Bool.false_eq_true, if_false]
                        exact HM.out.own.more (by simp [Nat.add_mul]; omega)
                      · have e0 := HB3.out.cell 0
                        have e1 := HB3.out.cell 1
                        have e2 := HB3.out.cell 2
                        have c0 : V10.cell? ⟨g, 0, none⟩ = some (.slice A3 r0.plan.length c3) := HG3.out.cell 0
                        have c1' : V10.cell? ⟨g, 1, none⟩ = some (.int .i64 r0.cost) := HG3.out.cell 1
                        have c2' : V10.cell? ⟨g, 2, none⟩ = some (.bool r0.good) := HG3.out.cell 2
                        have f0 := HG3.out.frozen 0
                        have f1 := HG3.out.frozen 1
                        have f2 := HG3.out.frozen 2
                        gi_wp2_with fail
                        clear e0 e1 e2 c0 c1' c2' f0 f1 f2
                        have hO9 := HM.out.own.put HWG.out HMW.out _ _ HP3.out
                        have hT9 : Turn m g U (((V10.setCell ⟨g, 0, none⟩ (.slice (some ⟨g2, 0, none⟩) r1.plan.length cap2)).setCell ⟨g, 1, none⟩ (.int .i64 r1.cost)).setCell ⟨g, 2, none⟩ (.bool r1.good)) := ((HM.out.turn.set g 0 _ (.inr rfl)).set g 1 _ (.inr rfl)).set g 2 _ (.inr rfl)
                        obtain ⟨k1, k2⟩ := HKP.out _ hT9
                        refine ⟨k1, k2, ?_, Eq.trans k2.1 HBU.out, Nat.le_trans HZU.out hT9.size, HBD2.out⟩
                        rw [HST.out]
                        simp only [HBB.out, if_true]
                        exact hO9.more (by simp [Nat.add_mul]; omega)
                    exact AllReadyH.nil
                  exact AllReadyH.nil
                exact AllReadyH.nil
              exact AllReadyH.nil
            refine AllReadyH.cons rfl (fun K hK => ?_) ?_
            · have hbl : Below (V1).heap.size V1 ((V1).alloc (.cells #[.slice none 0 0, .int .i64 0, .bool false] 122)) := (Below.refl _ _).alloc (Nat.le_refl _) _
              go_simp
              refine hK.out _ _ (hH1.call hbl) (fun hH2 => ?_)
              clear hK K
              have HN := Lib.hid (New.made HM.out HGU.out #[.slice none 0 0, .int .i64 0, .bool false])
              replace HM := Lib.hid (HM.out.call hbl)
              clear hbl
              generalize World.alloc V1 _ = V2 at hH2 HM HN ⊢
              generalize (V1).heap.size = e at HN ⊢
              clear hH1
              try simp only [Act.put, List.getElem_toArray, List.getElem_cons_succ, List.getElem_cons_zero, List.setIfInBounds_toArray, List.set_cons_zero, List.set_cons_succ]
              refine wpAnyH_ready (rs := [9]) (by kernel_rfl) (by simp) ?_
              refine AllReadyH.cons rfl (fun K hK => ?_) ?_
              · go_simp
                refine (HTR.out _ HM.out).mono ?_
                rintro e V3 ⟨A2, c2, rfl, hP, hg2, hk⟩
                obtain ⟨es, ck, hmap⟩ := HM.out.own.known.isMap
                refine hK.out _ _ (hH2.gr hg2 hmap) (fun hH3 => ?_)
                clear hK K
                have HP := Lib.hid hP
                replace HN := Lib.hid (HN.out.gr hg2 hmap)
                replace HM := Lib.hid (HM.out.gr hg2 hk)
                clear hg2 hk hmap hP es ck
                clear hH2
                try simp only [Act.put, List.getElem_toArray, List.getElem_cons_succ, List.getElem_cons_zero, List.setIfInBounds_toArray, List.set_cons_zero, List.set_cons_succ]
                refine wpAnyH_ready (rs := [14]) (by kernel_rfl) (by simp) ?_
                refine AllReadyH.cons rfl (fun K hK => ?_) ?_
                · go_simp
                  refine (HCO.out _).mono ?_
                  rintro e V4 ⟨rfl, hb⟩
                  refine hK.out _ _ (hH3.call hb) (fun hH4 => ?_)
                  clear hK K
                  replace HM := Lib.hid (HM.out.call hb)
                  replace HN := Lib.hid (HN.out.call hb)
                  replace HP := Lib.hid (HP.out.below hb)
                  clear hb
                  clear hH3
                  try simp only [Act.put, List.getElem_toArray, List.getElem_cons_succ, List.getElem_cons_zero, List.setIfInBounds_toArray, List.set_cons_zero, List.set_cons_succ]
                  refine wpAnyH_ready (rs := [15]) (by kernel_rfl) (by simp) ?_
                  refine AllReadyH.cons rfl (fun K hK => ?_) ?_
                  · go_simp
                    refine (HBF.out _ _ _ HP.out).mono ?_
                    rintro e V5 ⟨g2, cap2, rfl, hQ, -, hb⟩
                    refine hK.out _ _ (hH4.call hb) (fun hH5 => ?_)
                    clear hK K HP
                    replace HM := Lib.hid (HM.out.call hb)
                    replace HN := Lib.hid (HN.out.call hb)
                    have HQ := Lib.hid hQ
                    clear hb hQ
                    clear hH4
                    try simp only [Act.put, List.getElem_toArray, List.getElem_cons_succ, List.getElem_cons_zero, List.setIfInBounds_toArray, List.set_cons_zero, List.set_cons_succ]
                    refine wpAnyH_ready (rs := [17]) (by kernel_rfl) (by simp) ?_
                    refine AllReadyH.cons rfl (fun K hK => ?_) ?_
                    · have c0 := HN.out.blk.cell 0
                      have c1 := HN.out.blk.cell 1
                      have c2' := HN.out.blk.cell 2
                      have f0 := HN.out.blk.frozen 0
                      have f1 := HN.out.blk.frozen 1
                      have f2 := HN.out.blk.frozen 2
                      go_simp
                      have hst := HM.out.stored HN.out HGU.out HWG.out HMW.out HQ.out
                      refine hK.out _ _ (hst.s12 HLT.out hH5) (fun hH6 => ?_)
                      clear hK K c0 c1 c2' f0 f1 f2 HM HN HQ
                      try simp only [Act.put, List.getElem_toArray, List.getElem_cons_succ, List.getElem_cons_zero, List.setIfInBounds_toArray, List.set_cons_zero, List.set_cons_succ]
                      refine wpAnyH_done (by kernel_rfl) ?_ _
                      obtain ⟨hm3, hb3, hp3, -⟩ := hst
                      generalize World.setCell (World.setCell (World.setCell _ _ _) _ _) _ _ = V9 at hm3 hb3 hp3 ⊢
                      clear hH6
                      have HM := Lib.hid hm3
                      have HB3 := Lib.hid hb3
                      have HP3 := Lib.hid hp3
                      have e0 := hb3.cell 0
                      have e1 := hb3.cell 1
                      have e2 := hb3.cell 2
                      obtain ⟨A3, c3, hg3, hpl3⟩ := hm3.own.best
                      clear hpl3 hm3 hb3 hp3
                      have g0 : V9.cell? ⟨g, 0, none⟩ = some (.slice A3 r0.plan.length c3) := hg3.cell 0
                      have g1 : V9.cell? ⟨g, 1, none⟩ = some (.int .i64 r0.cost) := hg3.cell 1
                      have g2' : V9.cell? ⟨g, 2, none⟩ = some (.bool r0.good) := hg3.cell 2
                      have HG3 := Lib.hid hg3
                      clear hg3
                      gi_wp2_with fail
                      clear e0 e1 e2 g0 g1 g2'
                      refine ⟨trivial, (callsIn_wide.2 (HBE.out _ _ _ _ _ _ _)).mono ?_⟩
                      rintro e' V10 ⟨rfl, hb⟩
                      replace HM := Lib.hid (HM.out.call hb)
                      replace HB3 := Lib.hid (HB3.out.below hb HB3.out.lt)
                      replace HP3 := Lib.hid (HP3.out.below hb)
                      replace HG3 := Lib.hid (HG3.out.below hb HG3.out.lt)
                      clear hb
                      cases bb
                      · gi_wp2_with fail
                        obtain ⟨k1, k2⟩ := HKP.out _ HM.out.turn
                        refine ⟨k1, k2, ?_, Eq.trans k2.1 HBU.out, Nat.le_trans HZU.out HM.out.turn.size, HBD2.out⟩
                        rw [HST.out]
                        simp only [HBB.out, if_true, Bool.false_eq_true, if_false]
                        exact HM.out.own.more (by simp [Nat.add_mul]; omega)
                      · have e0 := HB3.out.cell 0
                        have e1 := HB3.out.cell 1
                        have e2 := HB3.out.cell 2
                        have c0 : V10.cell? ⟨g, 0, none⟩ = some (.slice A3 r0.plan.length c3) := HG3.out.cell 0
                        have c1' : V10.cell? ⟨g, 1, none⟩ = some (.int .i64 r0.cost) := HG3.out.cell 1
                        have c2' : V10.cell? ⟨g, 2, none⟩ = some (.bool r0.good) := HG3.out.cell 2
                        have f0 := HG3.out.frozen 0
                        have f1 := HG3.out.frozen 1
                        have f2 := HG3.out.frozen 2
                        gi_wp2_with fail
                        clear e0 e1 e2 c0 c1' c2' f0 f1 f2
                        have hO9 := HM.out.own.put HWG.out HMW.out _ _ HP3.out
                        have hT9 : Turn m g U (((V10.setCell ⟨g, 0, none⟩ (.slice (some ⟨g2, 0, none⟩) r1.plan.length cap2)).setCell ⟨g, 1, none⟩ (.int .i64 r1.cost)).setCell ⟨g, 2, none⟩ (.bool r1.good)) := ((HM.out.turn.set g 0 _ (.inr rfl)).set g 1 _ (.inr rfl)).set g 2 _ (.inr rfl)
                        obtain ⟨k1, k2⟩ := HKP.out _ hT9
                        refine ⟨k1, k2, ?_, Eq.trans k2.1 HBU.out, Nat.le_trans HZU.out hT9.size, HBD2.out⟩
                        rw [HST.out]
                        simp only [HBB.out, if_true]
                        exact hO9.more (by simp [Nat.add_mul]; omega)
                    exact AllReadyH.nil
                  exact AllReadyH.nil
                exact AllReadyH.nil
              exact AllReadyH.nil
            exact AllReadyH.nil
          refine AllReadyH.cons rfl (fun K hK => ?_) ?_
          · have hbl : Below (V0).heap.size V0 ((V0).alloc (.cells #[.slice none 0 0, .int .i64 0, .bool false] 122)) := (Below.refl _ _).alloc (Nat.le_refl _) _
            go_simp
            refine hK.out _ _ (hH0.call hbl) (fun hH1 => ?_)
            clear hK K
            have HN := Lib.hid (New.made HM.out HGU.out #[.slice none 0 0, .int .i64 0, .bool false])
            replace HM := Lib.hid (HM.out.call hbl)
            clear hbl
            generalize World.alloc V0 _ = V1 at hH1 HM HN ⊢
            generalize (V0).heap.size = e at HN ⊢
            clear hH0
            try simp only [Act.put, List.getElem_toArray, List.getElem_cons_succ, List.getElem_cons_zero, List.setIfInBounds_toArray, List.set_cons_zero, List.set_cons_succ]
            refine wpAnyH_ready (rs := [6]) (by kernel_rfl) (by simp) ?_
            refine AllReadyH.cons rfl (fun K hK => ?_) ?_
            · go_simp
              refine (HAF.out _).mono ?_
              rintro e V2 ⟨rfl, hb⟩
              refine hK.out _ _ (hH1.call hb) (fun hH2 => ?_)
              clear hK K
              replace HM := Lib.hid (HM.out.call hb)
              replace HN := Lib.hid (HN.out.call hb)
              clear hb
              clear hH1
              try simp only [Act.put, List.getElem_toArray, List.getElem_cons_succ, List.getElem_cons_zero, List.setIfInBounds_toArray, List.set_cons_zero, List.set_cons_succ]
              refine wpAnyH_ready (rs := [9]) (by kernel_rfl) (by simp) ?_
              refine AllReadyH.cons rfl (fun K hK => ?_) ?_
              · go_simp
                refine (HTR.out _ HM.out).mono ?_
                rintro e V3 ⟨A2, c2, rfl, hP, hg2, hk⟩
                obtain ⟨es, ck, hmap⟩ := HM.out.own.known.isMap
                refine hK.out _ _ (hH2.gr hg2 hmap) (fun hH3 => ?_)
                clear hK K
                have HP := Lib.hid hP
                replace HN := Lib.hid (HN.out.gr hg2 hmap)
                replace HM := Lib.hid (HM.out.gr hg2 hk)
                clear hg2 hk hmap hP es ck
                clear hH2
                try simp only [Act.put, List.getElem_toArray, List.getElem_cons_succ, List.getElem_cons_zero, List.setIfInBounds_toArray, List.set_cons_zero, List.set_cons_succ]
                refine wpAnyH_ready (rs := [14]) (by kernel_rfl) (by simp) ?_
                refine AllReadyH.cons rfl (fun K hK => ?_) ?_
                · go_simp
                  refine (HCO.out _).mono ?_
                  rintro e V4 ⟨rfl, hb⟩
                  refine hK.out _ _ (hH3.call hb) (fun hH4 => ?_)
                  clear hK K
                  replace HM := Lib.hid (HM.out.call hb)
                  replace HN := Lib.hid (HN.out.call hb)
                  replace HP := Lib.hid (HP.out.below hb)
                  clear hb
                  clear hH3
                  try simp only [Act.put, List.getElem_toArray, List.getElem_cons_succ, List.getElem_cons_zero, List.setIfInBounds_toArray, List.set_cons_zero, List.set_cons_succ]
                  refine wpAnyH_ready (rs := [15]) (by kernel_rfl) (by simp) ?_
                  refine AllReadyH.cons rfl (fun K hK => ?_) ?_
                  · go_simp
                    refine (HBF.out _ _ _ HP.out).mono ?_
                    rintro e V5 ⟨g2, cap2, rfl, hQ, -, hb⟩
                    refine hK.out _ _ (hH4.call hb) (fun hH5 => ?_)
                    clear hK K HP
                    replace HM := Lib.hid (HM.out.call hb)
                    replace HN := Lib.hid (HN.out.call hb)
                    have HQ := Lib.hid hQ
                    clear hb hQ
                    clear hH4
                    try simp only [Act.put, List.getElem_toArray, List.getElem_cons_succ, List.getElem_cons_zero, List.setIfInBounds_toArray, List.set_cons_zero, List.set_cons_succ]
                    refine wpAnyH_ready (rs := [17]) (by kernel_rfl) (by simp) ?_
                    refine AllReadyH.cons rfl (fun K hK => ?_) ?_
                    · have c0 := HN.out.blk.cell 0
                      have c1 := HN.out.blk.cell 1
                      have c2' := HN.out.blk.cell 2
                      have f0 := HN.out.blk.frozen 0
                      have f1 := HN.out.blk.frozen 1
                      have f2 := HN.out.blk.frozen 2
                      go_simp
                      have hst := HM.out.stored HN.out HGU.out HWG.out HMW.out HQ.out
                      refine hK.out _ _ (hst.s12 HLT.out hH5) (fun hH6 => ?_)
                      clear hK K c0 c1 c2' f0 f1 f2 HM HN HQ
                      try simp only [Act.put, List.getElem_toArray, List.getElem_cons_succ, List.getElem_cons_zero, List.setIfInBounds_toArray, List.set_cons_zero, List.set_cons_succ]
                      refine wpAnyH_done (by kernel_rfl) ?_ _
                      obtain ⟨hm3, hb3, hp3, -⟩ := hst
                      generalize World.setCell (World.setCell (World.setCell _ _ _) _ _) _ _ = V9 at hm3 hb3 hp3 ⊢
                      clear hH6
                      have HM := Lib.hid hm3
                      have HB3 := Lib.hid hb3
                      have HP3 := Lib.hid hp3
                      have e0 := hb3.cell 0
                      have e1 := hb3.cell 1
                      have e2 := hb3.cell 2
                      obtain ⟨A3, c3, hg3, hpl3⟩ := hm3.own.best
                      clear hpl3 hm3 hb3 hp3
                      have g0 : V9.cell? ⟨g, 0, none⟩ = some (.slice A3 r0.plan.length c3) := hg3.cell 0
                      have g1 : V9.cell? ⟨g, 1, none⟩ = some (.int .i64 r0.cost) := hg3.cell 1
                      have g2' : V9.cell? ⟨g, 2, none⟩ = some (.bool r0.good) := hg3.cell 2
                      have HG3 := Lib.hid hg3
                      clear hg3
                      gi_wp2_with fail
                      clear e0 e1 e2 g0 g1 g2'
                      refine ⟨trivial, (callsIn_wide.2 (HBE.out _ _ _ _ _ _ _)).mono ?_⟩
                      rintro e' V10 ⟨rfl, hb⟩
                      replace HM := Lib.hid (HM.out.call hb)
                      replace HB3 := Lib.hid (HB3.out.below hb HB3.out.lt)
                      replace HP3 := Lib.hid (HP3.out.below hb)
                      replace HG3 := Lib.hid (HG3.out.below hb HG3.out.lt)
                      clear hb
                      cases bb
                      · gi_wp2_with fail
                        obtain ⟨k1, k2⟩ := HKP.out _ HM.out.turn
                        refine ⟨k1, k2, ?_, Eq.trans k2.1 HBU.out, Nat.le_trans HZU.out HM.out.turn.size, HBD2.out⟩
                        rw [HST.out]
                        simp only [HBB.out, if_true, Bool.false_eq_true, if_false]
                        exact HM.out.own.more (by simp [Nat.add_mul]; omega)
                      · have e0 := HB3.out.cell 0
                        have e1 := HB3.out.cell 1
                        have e2 := HB3.out.cell 2
                        have c0 : V10.cell? ⟨g, 0, none⟩ = some (.slice A3 r0.plan.length c3) := HG3.out.cell 0
                        have c1' : V10.cell? ⟨g, 1, none⟩ = some (.int .i64 r0.cost) := HG3.out.cell 1
                        have c2' : V10.cell? ⟨g, 2, none⟩ = some (.bool r0.good) := HG3.out.cell 2
                        have f0 := HG3.out.frozen 0
                        have f1 := HG3.out.frozen 1
                        have f2 := HG3.out.frozen 2
                        gi_wp2_with fail
                        clear e0 e1 e2 c0 c1' c2' f0 f1 f2
                        have hO9 := HM.out.own.put HWG.out HMW.out _ _ HP3.out
                        have hT9 : Turn m g U (((V10.setCell ⟨g, 0, none⟩ (.slice (some ⟨g2, 0, none⟩) r1.plan.length cap2)).setCell ⟨g, 1, none⟩ (.int .i64 r1.cost)).setCell ⟨g, 2, none⟩ (.bool r1.good)) := ((HM.out.turn.set g 0 _ (.inr rfl)).set g 1 _ (.inr rfl)).set g 2 _ (.inr rfl)
                        obtain ⟨k1, k2⟩ := HKP.out _ hT9
                        refine ⟨k1, k2, ?_, Eq.trans k2.1 HBU.out, Nat.le_trans HZU.out hT9.size, HBD2.out⟩
                        rw [HST.out]
                        simp only [HBB.out, if_true]
                        exact hO9.more (by simp [Nat.add_mul]; omega)
                    exact AllReadyH.nil
                  exact AllReadyH.nil
                exact AllReadyH.nil
              exact AllReadyH.nil
            exact AllReadyH.nil
          exact AllReadyH.nil
      · have hnc : ¬ r0.cost ≤ (d.n : Int) := fun h => HNS.out ⟨HGD.out, h⟩
        gi_wp2_with fail
        clear b0 b1 b2 hnc
        refine wpIn_region_round (S := S11 U Bx (p.die d.n) d W.heap.size bT oT (l.length + 1) ct x s d.n) (by kernel_rfl) (by kernel_rfl) (fun ⟨_, _, h⟩ => h) H11.out.drew (fun hH => ?_)
        refine wpAnyH_take (i := 0 ) (v := ?_) rfl (by kernel_rfl) (by kernel_rfl) (by kernel_rfl) (fun _ _ _ h => h) (Or.inl ⟨by rfl, ?_⟩) (by assumption) ?_; rotate_left
        · (intro w hSw; obtain ⟨-, m0, m1, m2, m3, m4, m5, m6, b6, t0, t1, t2, b5⟩ := hSw; go_simp); first | done | with_reducible rfl
        try simp only [Act.put, List.getElem_toArray, List.getElem_cons_zero, List.setIfInBounds_toArray, List.set_cons_zero, List.set_cons_succ]
        refine wpAnyH_take (i := 1 ) (v := ?_) rfl (by kernel_rfl) (by kernel_rfl) (by kernel_rfl) (fun _ _ _ h => h) (Or.inl ⟨by rfl, ?_⟩) (by assumption) ?_; rotate_left
        · (intro w hSw; obtain ⟨-, m0, m1, m2, m3, m4, m5, m6, b6, t0, t1, t2, b5⟩ := hSw; go_simp); first | done | with_reducible rfl
        try simp only [Act.put, List.getElem_toArray, List.getElem_cons_succ, List.getElem_cons_zero, List.setIfInBounds_toArray, List.set_cons_zero, List.set_cons_succ]
        refine wpAnyH_take (i := 2 ) (v := ?_) rfl (by kernel_rfl) (by kernel_rfl) (by kernel_rfl) (fun _ _ _ h => h) (Or.inl ⟨by rfl, ?_⟩) (by assumption) ?_; rotate_left
        · (intro w hSw; obtain ⟨-, m0, m1, m2, m3, m4, m5, m6, b6, t0, t1, t2, b5⟩ := hSw; go_simp); first | done | with_reducible rfl
        try simp only [Act.put, List.getElem_toArray, List.getElem_cons_succ, List.getElem_cons_zero, List.setIfInBounds_toArray, List.set_cons_zero, List.set_cons_succ]
        refine wpAnyH_take (i := 3 ) (v := ?_) rfl (by kernel_rfl) (by kernel_rfl) (by kernel_rfl) (fun _ _ _ h => h) (Or.inl ⟨by rfl, ?_⟩) (by assumption) ?_; rotate_left
        · (intro w hSw; obtain ⟨-, m0, m1, m2, m3, m4, m5, m6, b6, t0, t1, t2, b5⟩ := hSw; go_simp); first | done | with_reducible rfl
        try simp only [Act.put, List.getElem_toArray, List.getElem_cons_succ, List.getElem_cons_zero, List.setIfInBounds_toArray, List.set_cons_zero, List.set_cons_succ]
        refine wpAnyH_take (i := 4 ) (v := ?_) rfl (by kernel_rfl) (by kernel_rfl) (by kernel_rfl) (fun _ _ _ h => h) (Or.inl ⟨by rfl, ?_⟩) (by assumption) ?_; rotate_left
        · (intro w hSw; obtain ⟨-, m0, m1, m2, m3, m4, m5, m6, b6, t0, t1, t2, b5⟩ := hSw; go_simp); first | done | with_reducible rfl
        try simp only [Act.put, List.getElem_toArray, List.getElem_cons_succ, List.getElem_cons_zero, List.setIfInBounds_toArray, List.set_cons_zero, List.set_cons_succ]
        refine wpAnyH_take (i := 5 ) (v := ?_) rfl (by kernel_rfl) (by kernel_rfl) (by kernel_rfl) (fun _ _ _ h => h) (Or.inl ⟨by rfl, ?_⟩) (by assumption) ?_; rotate_left
        · (intro w hSw; obtain ⟨-, m0, m1, m2, m3, m4, m5, m6, b6, t0, t1, t2, b5⟩ := hSw; go_simp); first | done | with_reducible rfl
        try simp only [Act.put, List.getElem_toArray, List.getElem_cons_succ, List.getElem_cons_zero, List.setIfInBounds_toArray, List.set_cons_zero, List.set_cons_succ]
        refine wpAnyH_take (i := 6 ) (v := ?_) rfl (by kernel_rfl) (by kernel_rfl) (by kernel_rfl) (fun _ _ _ h => h) (Or.inl ⟨by rfl, ?_⟩) (by assumption) ?_; rotate_left
        · (intro w hSw; obtain ⟨-, m0, m1, m2, m3, m4, m5, m6, b6, t0, t1, t2, b5⟩ := hSw; go_simp); first | done | with_reducible rfl
        try simp only [Act.put, List.getElem_toArray, List.getElem_cons_succ, List.getElem_cons_zero, List.setIfInBounds_toArray, List.set_cons_zero, List.set_cons_succ]
        refine wpAnyH_ready (rs := [7]) (by kernel_rfl) (by simp) ?_
        refine AllReadyH.cons rfl (fun K hK => ?_) AllReadyH.nil
        go_simp
        refine (HDO.out _ hH.below).mono ?_
        rintro e U1 ⟨rfl, hb1⟩
        refine hK.out _ _ (hH.call hb1) (fun hHeld => ?_)
        clear hK K
        try simp only [Act.put, List.getElem_toArray, List.getElem_cons_succ, List.getElem_cons_zero, List.setIfInBounds_toArray, List.set_cons_zero, List.set_cons_succ]
        refine wpAnyH_take (i := 8 ) (v := ?_) rfl (by kernel_rfl) (by kernel_rfl) (by kernel_rfl) (fun _ _ _ h => h) (Or.inl ⟨by rfl, ?_⟩) (by assumption) ?_; rotate_left
        · (intro w hSw; obtain ⟨-, m0, m1, m2, m3, m4, m5, m6, b6, t0, t1, t2, b5⟩ := hSw; go_simp); first | done | with_reducible rfl
        try simp only [Act.put, List.getElem_toArray, List.getElem_cons_succ, List.getElem_cons_zero, List.setIfInBounds_toArray, List.set_cons_zero, List.set_cons_succ]
        refine wpAnyH_take (i := 9 ) (v := ?_) rfl (by kernel_rfl) (by kernel_rfl) (by kernel_rfl) (fun _ _ _ h => h) (Or.inl ⟨by rfl, ?_⟩) (by assumption) ?_; rotate_left
        · (intro w hSw; obtain ⟨-, m0, m1, m2, m3, m4, m5, m6, b6, t0, t1, t2, b5⟩ := hSw; go_simp); first | done | with_reducible rfl
        try simp only [Act.put, List.getElem_toArray, List.getElem_cons_succ, List.getElem_cons_zero, List.setIfInBounds_toArray, List.set_cons_zero, List.set_cons_succ]
        refine wpAnyH_done (by kernel_rfl) ?_ _
        replace HI := Lib.hid (HI.out.call (hHeld.below))
        replace HF := Lib.hid (HF.out.call hHeld.below)
        replace HBX := Lib.hid (HBX.out.below hHeld.below HBX.out.lt)
        have HBS0 := HBS
        replace HBS := Lib.hid (HBS.out.below hHeld.below HBS.out.lt)
        replace HPL := Lib.hid (HPL.out.below hHeld.below)
        replace HA := Lib.hid (HA.out.below hHeld.below HTL.out)
        have HTU : Hid (Turn m g U U1) := Lib.hid (.below hHeld.below)
        clear hHeld hH hb1 HDO H11
        cases db
        · gi_wp2_with fail
          have e : scanL p x s (fun k => bestOf p l (s.after x.len k)) (pre ++ [d]) = r0 := HST.out
          obtain ⟨k1, k2⟩ := HKP.out _ HTU.out
          refine ⟨k1, k2, ?_, HI.out.box, HI.out.size, HBD2.out⟩
          have ho := HI.out.own
          rw [HR0.out] at ho
          rw [e]
          exact ho.more (by simp [Nat.add_mul])
        · have hMid : Mid p L (some ⟨bT, oT, none⟩) ct (l.length + 1) m s W g (n + pre.length * cnt l.length) r0 U U1 := ⟨by have ho := HI.out.own; rwa [HR0.out] at ho, HTU.out⟩
          have HM := Lib.hid hMid
          have hEU := HE0.out.gr hMid.own.gr hMid.own.known
          have h12 : S12 kb pb tb W.heap.size bT oT (l.length + 1) ct x s A p c U1 := by
            obtain ⟨t0, t1, t2⟩ := HA.out 0 (by simp)
            exact ⟨hEU.bt.cell 0, hMid.own.b5.cell 0, hMid.own.b5.cell 1, hMid.own.b5.cell 2, hMid.own.b5.cell 3, hMid.own.b5.cell 4, hMid.own.b6.cell 0, by simpa [drawF] using t0, by simpa [drawF] using t1, by simpa [drawF] using t2, hEU.bp.cell 0, hEU.bp.cell 1, hEU.bp.cell 2, hEU.bp.cell 3⟩
          have H12 := Lib.hid h12
          clear h12 hMid hEU
          have HGU : Hid (g < U.heap.size) := Lib.hid HBS0.out.lt
          gi_wp2_with fail
          refine wpIn_region_round (S := S12 kb pb tb W.heap.size bT oT (l.length + 1) ct x s A p c) (by kernel_rfl) (by kernel_rfl) (fun ⟨_, _, h⟩ => h) (H12.out.call (Below.refl _ _).drew) (fun hH0 => ?_)
          replace HM := Lib.hid (HM.out.call (Below.refl _ _).drew)
          generalize U1.drew = V0 at hH0 HM ⊢
          refine wpAnyH_take (i := 0 ) (v := ?_) rfl (by kernel_rfl) (by kernel_rfl) (by kernel_rfl) (fun _ _ _ h => h) (Or.inl ⟨by rfl, ?_⟩) (by assumption) ?_; rotate_left
          · (intro w hSw; obtain ⟨f4, s0, s1, s2, s3, s4, b6, t0, t1, t2, p0, p1, p2, p3⟩ := hSw; go_simp); first | done | with_reducible rfl
          try simp only [Act.put, List.getElem_toArray, List.getElem_cons_zero, List.setIfInBounds_toArray, List.set_cons_zero, List.set_cons_succ]
          refine wpAnyH_take (i := 1 ) (v := ?_) rfl (by kernel_rfl) (by kernel_rfl) (by kernel_rfl) (fun _ _ _ h => h) (Or.inl ⟨by rfl, ?_⟩) (by assumption) ?_; rotate_left
          · (intro w hSw; obtain ⟨f4, s0, s1, s2, s3, s4, b6, t0, t1, t2, p0, p1, p2, p3⟩ := hSw; go_simp); first | done | with_reducible rfl
          try simp only [Act.put, List.getElem_toArray, List.getElem_cons_succ, List.getElem_cons_zero, List.setIfInBounds_toArray, List.set_cons_zero, List.set_cons_succ]
          refine wpAnyH_take (i := 2 ) (v := ?_) rfl (by kernel_rfl) (by kernel_rfl) (by kernel_rfl) (fun _ _ _ h => h) (Or.inl ⟨by rfl, ?_⟩) (by assumption) ?_; rotate_left
          · (intro w hSw; obtain ⟨f4, s0, s1, s2, s3, s4, b6, t0, t1, t2, p0, p1, p2, p3⟩ := hSw; go_simp); first | done | with_reducible rfl
          try simp only [Act.put, List.getElem_toArray, List.getElem_cons_succ, List.getElem_cons_zero, List.setIfInBounds_toArray, List.set_cons_zero, List.set_cons_succ]
          refine wpAnyH_take (i := 3 ) (v := ?_) rfl (by kernel_rfl) (by kernel_rfl) (by kernel_rfl) (fun _ _ _ h => h) (Or.inl ⟨by rfl, ?_⟩) (by assumption) ?_; rotate_left
          · (intro w hSw; obtain ⟨f4, s0, s1, s2, s3, s4, b6, t0, t1, t2, p0, p1, p2, p3⟩ := hSw; go_simp); first | done | with_reducible rfl
          try simp only [Act.put, List.getElem_toArray, List.getElem_cons_succ, List.getElem_cons_zero, List.setIfInBounds_toArray, List.set_cons_zero, List.set_cons_succ]
          refine wpAnyH_take (i := 4 ) (v := ?_) rfl (by kernel_rfl) (by kernel_rfl) (by kernel_rfl) (fun _ _ _ h => h) (Or.inl ⟨by rfl, ?_⟩) (by assumption) ?_; rotate_left
          · (intro w hSw; obtain ⟨f4, s0, s1, s2, s3, s4, b6, t0, t1, t2, p0, p1, p2, p3⟩ := hSw; go_simp); first | done | with_reducible rfl
          try simp only [Act.put, List.getElem_toArray, List.getElem_cons_succ, List.getElem_cons_zero, List.setIfInBounds_toArray, List.set_cons_zero, List.set_cons_succ]
          refine wpAnyH_take (i := 5 ) (v := ?_) rfl (by kernel_rfl) (by kernel_rfl) (by kernel_rfl) (fun _ _ _ h => h) (Or.inl ⟨by rfl, ?_⟩) (by assumption) ?_; rotate_left
          · (intro w hSw; obtain ⟨f4, s0, s1, s2, s3, s4, b6, t0, t1, t2, p0, p1, p2, p3⟩ := hSw; go_simp); first | done | with_reducible rfl
          try simp only [Act.put, List.getElem_toArray, List.getElem_cons_succ, List.getElem_cons_zero, List.setIfInBounds_toArray, List.set_cons_zero, List.set_cons_succ]
          refine wpAnyH_take (i := 7 ) (v := ?_) rfl (by kernel_rfl) (by kernel_rfl) (by kernel_rfl) (fun _ _ _ h => h) (Or.inl ⟨by rfl, ?_⟩) (by assumption) ?_; rotate_left
          · (intro w hSw; obtain ⟨f4, s0, s1, s2, s3, s4, b6, t0, t1, t2, p0, p1, p2, p3⟩ := hSw; go_simp); first | done | with_reducible rfl
          try simp only [Act.put, List.getElem_toArray, List.getElem_cons_succ, List.getElem_cons_zero, List.setIfInBounds_toArray, List.set_cons_zero, List.set_cons_succ]
          refine wpAnyH_take (i := 8) (v := .slice (tailAt bT oT ct) l.length (ct - 1)) rfl (by kernel_rfl) (by kernel_rfl) (by kernel_rfl) (fun _ _ _ h => h) (Or.inl ⟨by rfl, ?_⟩) (by assumption) ?_
          · (intro w hSw; obtain ⟨f4, s0, s1, s2, s3, s4, b6, t0, t1, t2, p0, p1, p2, p3⟩ := hSw; go_simp); rfl
          try simp only [Act.put, List.getElem_toArray, List.getElem_cons_succ, List.getElem_cons_zero, List.setIfInBounds_toArray, List.set_cons_zero, List.set_cons_succ]
          refine wpAnyH_take (i := 10 ) (v := ?_) rfl (by kernel_rfl) (by kernel_rfl) (by kernel_rfl) (fun _ _ _ h => h) (Or.inl ⟨by rfl, ?_⟩) (by assumption) ?_; rotate_left
          · (intro w hSw; obtain ⟨f4, s0, s1, s2, s3, s4, b6, t0, t1, t2, p0, p1, p2, p3⟩ := hSw; go_simp); first | done | with_reducible rfl
          try simp only [Act.put, List.getElem_toArray, List.getElem_cons_succ, List.getElem_cons_zero, List.setIfInBounds_toArray, List.set_cons_zero, List.set_cons_succ]
          refine wpAnyH_take (i := 11 ) (v := ?_) rfl (by kernel_rfl) (by kernel_rfl) (by kernel_rfl) (fun _ _ _ h => h) (Or.inl ⟨by rfl, ?_⟩) (by assumption) ?_; rotate_left
          · (intro w hSw; obtain ⟨f4, s0, s1, s2, s3, s4, b6, t0, t1, t2, p0, p1, p2, p3⟩ := hSw; go_simp); first | done | with_reducible rfl
          try simp only [Act.put, List.getElem_toArray, List.getElem_cons_succ, List.getElem_cons_zero, List.setIfInBounds_toArray, List.set_cons_zero, List.set_cons_succ]
          refine wpAnyH_take (i := 12 ) (v := ?_) rfl (by kernel_rfl) (by kernel_rfl) (by kernel_rfl) (fun _ _ _ h => h) (Or.inl ⟨by rfl, ?_⟩) (by assumption) ?_; rotate_left
          · (intro w hSw; obtain ⟨f4, s0, s1, s2, s3, s4, b6, t0, t1, t2, p0, p1, p2, p3⟩ := hSw; go_simp); first | done | with_reducible rfl
          try simp only [Act.put, List.getElem_toArray, List.getElem_cons_succ, List.getElem_cons_zero, List.setIfInBounds_toArray, List.set_cons_zero, List.set_cons_succ]
          refine wpAnyH_take (i := 13 ) (v := ?_) rfl (by kernel_rfl) (by kernel_rfl) (by kernel_rfl) (fun _ _ _ h => h) (Or.inl ⟨by rfl, ?_⟩) (by assumption) ?_; rotate_left
          · (intro w hSw; obtain ⟨f4, s0, s1, s2, s3, s4, b6, t0, t1, t2, p0, p1, p2, p3⟩ := hSw; go_simp); first | done | with_reducible rfl
          try simp only [Act.put, List.getElem_toArray, List.getElem_cons_succ, List.getElem_cons_zero, List.setIfInBounds_toArray, List.set_cons_zero, List.set_cons_succ]
          refine wpAnyH_ready (rs := [6, 16]) (by kernel_rfl) (by simp) ?_
          refine AllReadyH.cons rfl (fun K hK => ?_) ?_
          · go_simp
            refine (HAF.out _).mono ?_
            rintro e V1 ⟨rfl, hb⟩
            refine hK.out _ _ (hH0.call hb) (fun hH1 => ?_)
            clear hK K
            replace HM := Lib.hid (HM.out.call hb)
            clear hb
            clear hH0
            try simp only [Act.put, List.getElem_toArray, List.getElem_cons_succ, List.getElem_cons_zero, List.setIfInBounds_toArray, List.set_cons_zero, List.set_cons_succ]
            refine wpAnyH_ready (rs := [9, 16]) (by kernel_rfl) (by simp) ?_
            refine AllReadyH.cons rfl (fun K hK => ?_) ?_
            · go_simp
              refine (HTR.out _ HM.out).mono ?_
              rintro e V2 ⟨A2, c2, rfl, hP, hg2, hk⟩
              obtain ⟨es, ck, hmap⟩ := HM.out.own.known.isMap
              refine hK.out _ _ (hH1.gr hg2 hmap) (fun hH2 => ?_)
              clear hK K
              have HP := Lib.hid hP
              replace HM := Lib.hid (HM.out.gr hg2 hk)
              clear hg2 hk hmap hP es ck
              clear hH1
              try simp only [Act.put, List.getElem_toArray, List.getElem_cons_succ, List.getElem_cons_zero, List.setIfInBounds_toArray, List.set_cons_zero, List.set_cons_succ]
              refine wpAnyH_ready (rs := [14, 16]) (by kernel_rfl) (by simp) ?_
              refine AllReadyH.cons rfl (fun K hK => ?_) ?_
              · go_simp
                refine (HCO.out _).mono ?_
                rintro e V3 ⟨rfl, hb⟩
                refine hK.out _ _ (hH2.call hb) (fun hH3 => ?_)
                clear hK K
                replace HM := Lib.hid (HM.out.call hb)
                replace HP := Lib.hid (HP.out.below hb)
                clear hb
                clear hH2
                try simp only [Act.put, List.getElem_toArray, List.getElem_cons_succ, List.getElem_cons_zero, List.setIfInBounds_toArray, List.set_cons_zero, List.set_cons_succ]
                refine wpAnyH_ready (rs := [15, 16]) (by kernel_rfl) (by simp) ?_
                refine AllReadyH.cons rfl (fun K hK => ?_) ?_
                · go_simp
                  refine (HBF.out _ _ _ HP.out).mono ?_
                  rintro e V4 ⟨g2, cap2, rfl, hQ, -, hb⟩
                  refine hK.out _ _ (hH3.call hb) (fun hH4 => ?_)
                  clear hK K HP
                  replace HM := Lib.hid (HM.out.call hb)
                  have HQ := Lib.hid hQ
                  clear hb hQ
                  clear hH3
                  try simp only [Act.put, List.getElem_toArray, List.getElem_cons_succ, List.getElem_cons_zero, List.setIfInBounds_toArray, List.set_cons_zero, List.set_cons_succ]
                  refine wpAnyH_ready (rs := [16]) (by kernel_rfl) (by simp) ?_
                  refine AllReadyH.cons rfl (fun K hK => ?_) ?_
                  · have hbl : Below (V4).heap.size V4 ((V4).alloc (.cells #[.slice none 0 0, .int .i64 0, .bool false] 122)) := (Below.refl _ _).alloc (Nat.le_refl _) _
                    go_simp
                    refine hK.out _ _ (hH4.call hbl) (fun hH5 => ?_)
                    clear hK K
                    have HN := Lib.hid (New.made HM.out HGU.out #[.slice none 0 0, .int .i64 0, .bool false])
                    replace HM := Lib.hid (HM.out.call hbl)
                    replace HQ := Lib.hid (HQ.out.below hbl)
                    clear hbl
                    generalize World.alloc V4 _ = V5 at hH5 HM HN HQ ⊢
                    generalize (V4).heap.size = e at HN ⊢
                    clear hH4
                    try simp only [Act.put, List.getElem_toArray, List.getElem_cons_succ, List.getElem_cons_zero, List.setIfInBounds_toArray, List.set_cons_zero, List.set_cons_succ]
                    refine wpAnyH_ready (rs := [17]) (by kernel_rfl) (by simp) ?_
                    refine AllReadyH.cons rfl (fun K hK => ?_) ?_
                    · have c0 := HN.out.blk.cell 0
                      have c1 := HN.out.blk.cell 1
                      have c2' := HN.out.blk.cell 2
                      have f0 := HN.out.blk.frozen 0
                      have f1 := HN.out.blk.frozen 1
                      have f2 := HN.out.blk.frozen 2
                      go_simp
                      have hst := HM.out.stored HN.out HGU.out HWG.out HMW.out HQ.out
                      refine hK.out _ _ (hst.s12 HLT.out hH5) (fun hH6 => ?_)
                      clear hK K c0 c1 c2' f0 f1 f2 HM HN HQ
                      try simp only [Act.put, List.getElem_toArray, List.getElem_cons_succ, List.getElem_cons_zero, List.setIfInBounds_toArray, List.set_cons_zero, List.set_cons_succ]
                      refine wpAnyH_done (by kernel_rfl) ?_ _
                      obtain ⟨hm3, hb3, hp3, -⟩ := hst
                      generalize World.setCell (World.setCell (World.setCell _ _ _) _ _) _ _ = V9 at hm3 hb3 hp3 ⊢
                      clear hH6
                      have HM := Lib.hid hm3
                      have HB3 := Lib.hid hb3
                      have HP3 := Lib.hid hp3
                      have e0 := hb3.cell 0
                      have e1 := hb3.cell 1
                      have e2 := hb3.cell 2
                      obtain ⟨A3, c3, hg3, hpl3⟩ := hm3.own.best
                      clear hpl3 hm3 hb3 hp3
                      have g0 : V9.cell? ⟨g, 0, none⟩ = some (.slice A3 r0.plan.length c3) := hg3.cell 0
                      have g1 : V9.cell? ⟨g, 1, none⟩ = some (.int .i64 r0.cost) := hg3.cell 1
                      have g2' : V9.cell? ⟨g, 2, none⟩ = some (.bool r0.good) := hg3.cell 2
                      have HG3 := Lib.hid hg3
                      clear hg3
                      gi_wp2_with fail
                      clear e0 e1 e2 g0 g1 g2'
                      refine ⟨trivial, (callsIn_wide.2 (HBE.out _ _ _ _ _ _ _)).mono ?_⟩
                      rintro e' V10 ⟨rfl, hb⟩
                      replace HM := Lib.hid (HM.out.call hb)
                      replace HB3 := Lib.hid (HB3.out.below hb HB3.out.lt)
                      replace HP3 := Lib.hid (HP3.out.below hb)
                      replace HG3 := Lib.hid (HG3.out.below hb HG3.out.lt)
                      clear hb
                      cases bb
                      · gi_wp2_with fail
                        obtain ⟨k1, k2⟩ := HKP.out _ HM.out.turn
                        refine ⟨k1, k2, ?_, Eq.trans k2.1 HBU.out, Nat.le_trans HZU.out HM.out.turn.size, HBD2.out⟩
                        rw [HST.out]
                        simp only [HBB.out, if_true, Bool.false_eq_true, if_false]
                        exact HM.out.own.more (by simp [Nat.add_mul]; omega)
                      · have e0 := HB3.out.cell 0
                        have e1 := HB3.out.cell 1
                        have e2 := HB3.out.cell 2
                        have c0 : V10.cell? ⟨g, 0, none⟩ = some (.slice A3 r0.plan.length c3) := HG3.out.cell 0
                        have c1' : V10.cell? ⟨g, 1, none⟩ = some (.int .i64 r0.cost) := HG3.out.cell 1
                        have c2' : V10.cell? ⟨g, 2, none⟩ = some (.bool r0.good) := HG3.out.cell 2
                        have f0 := HG3.out.frozen 0
                        have f1 := HG3.out.frozen 1
                        have f2 := HG3.out.frozen 2
                        gi_wp2_with fail
                        clear e0 e1 e2 c0 c1' c2' f0 f1 f2
                        have hO9 := HM.out.own.put HWG.out HMW.out _ _ HP3.out
                        have hT9 : Turn m g U (((V10.setCell ⟨g, 0, none⟩ (.slice (some ⟨g2, 0, none⟩) r1.plan.length cap2)).setCell ⟨g, 1, none⟩ (.int .i64 r1.cost)).setCell ⟨g, 2, none⟩ (.bool r1.good)) := ((HM.out.turn.set g 0 _ (.inr rfl)).set g 1 _ (.inr rfl)).set g 2 _ (.inr rfl)
                        obtain ⟨k1, k2⟩ := HKP.out _ hT9
                        refine ⟨k1, k2, ?_, Eq.trans k2.1 HBU.out, Nat.le_trans HZU.out hT9.size, HBD2.out⟩
                        rw [HST.out]
                        simp only [HBB.out, if_true]
                        exact hO9.more (by simp [Nat.add_mul]; omega)
                    exact AllReadyH.nil
                  exact AllReadyH.nil
                refine AllReadyH.cons rfl (fun K hK => ?_) ?_
                · have hbl : Below (V3).heap.size V3 ((V3).alloc (.cells #[.slice none 0 0, .int .i64 0, .bool false] 122)) := (Below.refl _ _).alloc (Nat.le_refl _) _
                  go_simp
                  refine hK.out _ _ (hH3.call hbl) (fun hH4 => ?_)
                  clear hK K
                  have HN := Lib.hid (New.made HM.out HGU.out #[.slice none 0 0, .int .i64 0, .bool false])
                  replace HM := Lib.hid (HM.out.call hbl)
                  replace HP := Lib.hid (HP.out.below hbl)
                  clear hbl
                  generalize World.alloc V3 _ = V4 at hH4 HM HN HP ⊢
                  generalize (V3).heap.size = e at HN ⊢
                  clear hH3
                  try simp only [Act.put, List.getElem_toArray, List.getElem_cons_succ, List.getElem_cons_zero, List.setIfInBounds_toArray, List.set_cons_zero, List.set_cons_succ]
                  refine wpAnyH_ready (rs := [15]) (by kernel_rfl) (by simp) ?_
                  refine AllReadyH.cons rfl (fun K hK => ?_) ?_
                  · go_simp
                    refine (HBF.out _ _ _ HP.out).mono ?_
                    rintro e V5 ⟨g2, cap2, rfl, hQ, -, hb⟩
                    refine hK.out _ _ (hH4.call hb) (fun hH5 => ?_)
                    clear hK K HP
                    replace HM := Lib.hid (HM.out.call hb)
                    replace HN := Lib.hid (HN.out.call hb)
                    have HQ := Lib.hid hQ
                    clear hb hQ
                    clear hH4
                    try simp only [Act.put, List.getElem_toArray, List.getElem_cons_succ, List.getElem_cons_zero, List.setIfInBounds_toArray, List.set_cons_zero, List.set_cons_succ]
                    refine wpAnyH_ready (rs := [17]) (by kernel_rfl) (by simp) ?_
                    refine AllReadyH.cons rfl (fun K hK => ?_) ?_
                    · have c0 := HN.out.blk.cell 0
                      have c1 := HN.out.blk.cell 1
                      have c2' := HN.out.blk.cell 2
                      have f0 := HN.out.blk.frozen 0
                      have f1 := HN.out.blk.frozen 1
                      have f2 := HN.out.blk.frozen 2
                      go_simp
                      have hst := HM.out.stored HN.out HGU.out HWG.out HMW.out HQ.out
                      refine hK.out _ _ (hst.s12 HLT.out hH5) (fun hH6 => ?_)
                      clear hK K c0 c1 c2' f0 f1 f2 HM HN HQ
                      try simp only [Act.put, List.getElem_toArray, List.getElem_cons_succ, List.getElem_cons_zero, List.setIfInBounds_toArray, List.set_cons_zero, List.set_cons_succ]
                      refine wpAnyH_done (by kernel_rfl) ?_ _
                      obtain ⟨hm3, hb3, hp3, -⟩ := hst
                      generalize World.setCell (World.setCell (World.setCell _ _ _) _ _) _ _ = V9 at hm3 hb3 hp3 ⊢
                      clear hH6
                      have HM := Lib.hid hm3
                      have HB3 := Lib.hid hb3
                      have HP3 := Lib.hid hp3
                      have e0 := hb3.cell 0
                      have e1 := hb3.cell 1
                      have e2 := hb3.cell 2
                      obtain ⟨A3, c3, hg3, hpl3⟩ := hm3.own.best
                      clear hpl3 hm3 hb3 hp3
                      have g0 : V9.cell? ⟨g, 0, none⟩ = some (.slice A3 r0.plan.length c3) := hg3.cell 0
                      have g1 : V9.cell? ⟨g, 1, none⟩ = some (.int .i64 r0.cost) := hg3.cell 1
                      have g2' : V9.cell? ⟨g, 2, none⟩ = some (.bool r0.good) := hg3.cell 2
                      have HG3 := Lib.hid hg3
                      clear hg3
                      gi_wp2_with fail
                      clear e0 e1 e2 g0 g1 g2'
                      refine ⟨trivial, (callsIn_wide.2 (HBE.out _ _ _ _ _ _ _)).mono ?_⟩
                      rintro e' V10 ⟨rfl, hb⟩
                      replace HM := Lib.hid (HM.out.call hb)
                      replace HB3 := Lib.hid (HB3.out.below hb HB3.out.lt)
                      replace HP3 := Lib.hid (HP3.out.below hb)
                      replace HG3 := Lib.hid (HG3.out.below hb HG3.out.lt)
                      clear hb
                      cases bb
                      · gi_wp2_with fail
                        obtain ⟨k1, k2⟩ := HKP.out _ HM.out.turn
                        refine ⟨k1, k2, ?_, Eq.trans k2.1 HBU.out, Nat.le_trans HZU.out HM.out.turn.size, HBD2.out⟩
                        rw [HST.out]
                        simp only [HBB.out, if_true, Bool.false_eq_true, if_false]
                        exact HM.out.own.more (by simp [Nat.add_mul]; omega)
                      · have e0 := HB3.out.cell 0
                        have e1 := HB3.out.cell 1
                        have e2 := HB3.out.cell 2
                        have c0 : V10.cell? ⟨g, 0, none⟩ = some (.slice A3 r0.plan.length c3) := HG3.out.cell 0
                        have c1' : V10.cell? ⟨g, 1, none⟩ = some (.int .i64 r0.cost) := HG3.out.cell 1
                        have c2' : V10.cell? ⟨g, 2, none⟩ = some (.bool r0.good) := HG3.out.cell 2
                        have f0 := HG3.out.frozen 0
                        have f1 := HG3.out.frozen 1
                        have f2 := HG3.out.frozen 2
                        gi_wp2_with fail
                        clear e0 e1 e2 c0 c1' c2' f0 f1 f2
                        have hO9 := HM.out.own.put HWG.out HMW.out _ _ HP3.out
                        have hT9 : Turn m g U (((V10.setCell ⟨g, 0, none⟩ (.slice (some ⟨g2, 0, none⟩) r1.plan.length cap2)).setCell ⟨g, 1, none⟩ (.int .i64 r1.cost)).setCell ⟨g, 2, none⟩ (.bool r1.good)) := ((HM.out.turn.set g 0 _ (.inr rfl)).set g 1 _ (.inr rfl)).set g 2 _ (.inr rfl)
                        obtain ⟨k1, k2⟩ := HKP.out _ hT9
                        refine ⟨k1, k2, ?_, Eq.trans k2.1 HBU.out, Nat.le_trans HZU.out hT9.size, HBD2.out⟩
                        rw [HST.out]
                        simp only [HBB.out, if_true]
                        exact hO9.more (by simp [Nat.add_mul]; omega)
                    exact AllReadyH.nil
                  exact AllReadyH.nil
                exact AllReadyH.nil
              refine AllReadyH.cons rfl (fun K hK => ?_) ?_
              · have hbl : Below (V2).heap.size V2 ((V2).alloc (.cells #[.slice none 0 0, .int .i64 0, .bool false] 122)) := (Below.refl _ _).alloc (Nat.le_refl _) _
                go_simp
                refine hK.out _ _ (hH2.call hbl) (fun hH3 => ?_)
                clear hK K
                have HN := Lib.hid (New.made HM.out HGU.out #[.slice none 0 0, .int .i64 0, .bool false])
                replace HM := Lib.hid (HM.out.call hbl)
                replace HP := Lib.hid (HP.out.below hbl)
                clear hbl
                generalize World.alloc V2 _ = V3 at hH3 HM HN HP ⊢
                generalize (V2).heap.size = e at HN ⊢
                clear hH2
                try simp only [Act.put, List.getElem_toArray, List.getElem_cons_succ, List.getElem_cons_zero, List.setIfInBounds_toArray, List.set_cons_zero, List.set_cons_succ]
                refine wpAnyH_ready (rs := [14]) (by kernel_rfl) (by simp) ?_
                refine AllReadyH.cons rfl (fun K hK => ?_) ?_
                · go_simp
                  refine (HCO.out _).mono ?_
                  rintro e V4 ⟨rfl, hb⟩
                  refine hK.out _ _ (hH3.call hb) (fun hH4 => ?_)
                  clear hK K
                  replace HM := Lib.hid (HM.out.call hb)
                  replace HN := Lib.hid (HN.out.call hb)
                  replace HP := Lib.hid (HP.out.below hb)
                  clear hb
                  clear hH3
                  try simp only [Act.put, List.getElem_toArray, List.getElem_cons_succ, List.getElem_cons_zero, List.setIfInBounds_toArray, List.set_cons_zero, List.set_cons_succ]
                  refine wpAnyH_ready (rs := [15]) (by kernel_rfl) (by simp) ?_
                  refine AllReadyH.cons rfl (fun K hK => ?_) ?_
                  · go_simp
                    refine (HBF.out _ _ _ HP.out).mono ?_
                    rintro e V5 ⟨g2, cap2, rfl, hQ, -, hb⟩
                    refine hK.out _ _ (hH4.call hb) (fun hH5 => ?_)
                    clear hK K HP
                    replace HM := Lib.hid (HM.out.call hb)
                    replace HN := Lib.hid (HN.out.call hb)
                    have HQ := Lib.hid hQ
                    clear hb hQ
                    clear hH4
                    try simp only [Act.put, List.getElem_toArray, List.getElem_cons_succ, List.getElem_cons_zero, List.setIfInBounds_toArray, List.set_cons_zero, List.set_cons_succ]
                    refine wpAnyH_ready (rs := [17]) (by kernel_rfl) (by simp) ?_
                    refine AllReadyH.cons rfl (fun K hK => ?_) ?_
                    · have c0 := HN.out.blk.cell 0
                      have c1 := HN.out.blk.cell 1
                      have c2' := HN.out.blk.cell 2
                      have f0 := HN.out.blk.frozen 0
                      have f1 := HN.out.blk.frozen 1
                      have f2 := HN.out.blk.frozen 2
                      go_simp
                      have hst := HM.out.stored HN.out HGU.out HWG.out HMW.out HQ.out
                      refine hK.out _ _ (hst.s12 HLT.out hH5) (fun hH6 => ?_)
                      clear hK K c0 c1 c2' f0 f1 f2 HM HN HQ
                      try simp only [Act.put, List.getElem_toArray, List.getElem_cons_succ, List.getElem_cons_zero, List.setIfInBounds_toArray, List.set_cons_zero, List.set_cons_succ]
                      refine wpAnyH_done (by kernel_rfl) ?_ _
                      obtain ⟨hm3, hb3, hp3, -⟩ := hst
                      generalize World.setCell (World.setCell (World.setCell _ _ _) _ _) _ _ = V9 at hm3 hb3 hp3 ⊢
                      clear hH6
                      have HM := Lib.hid hm3
                      have HB3 := Lib.hid hb3
                      have HP3 := Lib.hid hp3
                      have e0 := hb3.cell 0
                      have e1 := hb3.cell 1
                      have e2 := hb3.cell 2
                      obtain ⟨A3, c3, hg3, hpl3⟩ := hm3.own.best
                      clear hpl3 hm3 hb3 hp3
                      have g0 : V9.cell? ⟨g, 0, none⟩ = some (.slice A3 r0.plan.length c3) := hg3.cell 0
                      have g1 : V9.cell? ⟨g, 1, none⟩ = some (.int .i64 r0.cost) := hg3.cell 1
                      have g2' : V9.cell? ⟨g, 2, none⟩ = some (.bool r0.good) := hg3.cell 2
                      have HG3 := Lib.hid hg3
                      clear hg3
                      gi_wp2_with fail
                      clear e0 e1 e2 g0 g1 g2'
                      refine ⟨trivial, (callsIn_wide.2 (HBE.out _ _ _ _ _ _ _)).mono ?_⟩
                      rintro e' V10 ⟨rfl, hb⟩
                      replace HM := Lib.hid (HM.out.call hb)
                      replace HB3 := Lib.hid (HB3.out.below hb HB3.out.lt)
                      replace HP3 := Lib.hid (HP3.out.below hb)
                      replace HG3 := Lib.hid (HG3.out.below hb HG3.out.lt)
                      clear hb
                      cases bb
                      · gi_wp2_with fail
                        obtain ⟨k1, k2⟩ := HKP.out _ HM.out.turn
                        refine ⟨k1, k2, ?_, Eq.trans k2.1 HBU.out, Nat.le_trans HZU.out HM.out.turn.size, HBD2.out⟩
                        rw [HST.out]
                        simp only [HBB.out, if_true, Bool.false_eq_true, if_false]
                        exact HM.out.own.more (by simp [Nat.add_mul]; omega)
                      · have e0 := HB3.out.cell 0
                        have e1 := HB3.out.cell 1
                        have e2 := HB3.out.cell 2
                        have c0 : V10.cell? ⟨g, 0, none⟩ = some (.slice A3 r0.plan.length c3) := HG3.out.cell 0
                        have c1' : V10.cell? ⟨g, 1, none⟩ = some (.int .i64 r0.cost) := HG3.out.cell 1
                        have c2' : V10.cell? ⟨g, 2, none⟩ = some (.bool r0.good) := HG3.out.cell 2
                        have f0 := HG3.out.frozen 0
                        have f1 := HG3.out.frozen 1
                        have f2 := HG3.out.frozen 2
                        gi_wp2_with fail
                        clear e0 e1 e2 c0 c1' c2' f0 f1 f2
                        have hO9 := HM.out.own.put HWG.out HMW.out _ _ HP3.out
                        have hT9 : Turn m g U (((V10.setCell ⟨g, 0, none⟩ (.slice (some ⟨g2, 0, none⟩) r1.plan.length cap2)).setCell ⟨g, 1, none⟩ (.int .i64 r1.cost)).setCell ⟨g, 2, none⟩ (.bool r1.good)) := ((HM.out.turn.set g 0 _ (.inr rfl)).set g 1 _ (.inr rfl)).set g 2 _ (.inr rfl)
                        obtain ⟨k1, k2⟩ := HKP.out _ hT9
                        refine ⟨k1, k2, ?_, Eq.trans k2.1 HBU.out, Nat.le_trans HZU.out hT9.size, HBD2.out⟩
                        rw [HST.out]
                        simp only [HBB.out, if_true]
                        exact hO9.more (by simp [Nat.add_mul]; omega)
                    exact AllReadyH.nil
                  exact AllReadyH.nil
                exact AllReadyH.nil
              exact AllReadyH.nil
            refine AllReadyH.cons rfl (fun K hK => ?_) ?_
            · have hbl : Below (V1).heap.size V1 ((V1).alloc (.cells #[.slice none 0 0, .int .i64 0, .bool false] 122)) := (Below.refl _ _).alloc (Nat.le_refl _) _
              go_simp
              refine hK.out _ _ (hH1.call hbl) (fun hH2 => ?_)
              clear hK K
              have HN := Lib.hid (New.made HM.out HGU.out #[.slice none 0 0, .int .i64 0, .bool false])
              replace HM := Lib.hid (HM.out.call hbl)
              clear hbl
              generalize World.alloc V1 _ = V2 at hH2 HM HN ⊢
              generalize (V1).heap.size = e at HN ⊢
              clear hH1
              try simp only [Act.put, List.getElem_toArray, List.getElem_cons_succ, List.getElem_cons_zero, List.setIfInBounds_toArray, List.set_cons_zero, List.set_cons_succ]
              refine wpAnyH_ready (rs := [9]) (by kernel_rfl) (by simp) ?_
              refine AllReadyH.cons rfl (fun K hK => ?_) ?_
              · go_simp
                refine (HTR.out _ HM.out).mono ?_
                rintro e V3 ⟨A2, c2, rfl, hP, hg2, hk⟩
                obtain ⟨es, ck, hmap⟩ := HM.out.own.known.isMap
                refine hK.out _ _ (hH2.gr hg2 hmap) (fun hH3 => ?_)
                clear hK K
                have HP := Lib.hid hP
                replace HN := Lib.hid (HN.out.gr hg2 hmap)
                replace HM := Lib.hid (HM.out.gr hg2 hk)
                clear hg2 hk hmap hP es ck
                clear hH2
                try simp only [Act.put, List.getElem_toArray, List.getElem_cons_succ, List.getElem_cons_zero, List.setIfInBounds_toArray, List.set_cons_zero, List.set_cons_succ]
                refine wpAnyH_ready (rs := [14]) (by kernel_rfl) (by simp) ?_
                refine AllReadyH.cons rfl (fun K hK => ?_) ?_
                · go_simp
                  refine (HCO.out _).mono ?_
                  rintro e V4 ⟨rfl, hb⟩
                  refine hK.out _ _ (hH3.call hb) (fun hH4 => ?_)
                  clear hK K
                  replace HM := Lib.hid (HM.out.call hb)
                  replace HN := Lib.hid (HN.out.call hb)
                  replace HP := Lib.hid (HP.out.below hb)
                  clear hb
                  clear hH3
                  try simp only [Act.put, List.getElem_toArray, List.getElem_cons_succ, List.getElem_cons_zero, List.setIfInBounds_toArray, List.set_cons_zero, List.set_cons_succ]
                  refine wpAnyH_ready (rs := [15]) (by kernel_rfl) (by simp) ?_
                  refine AllReadyH.cons rfl (fun K hK => ?_) ?_
                  · go_simp
                    refine (HBF.out _ _ _ HP.out).mono ?_
                    rintro e V5 ⟨g2, cap2, rfl, hQ, -, hb⟩
                    refine hK.out _ _ (hH4.call hb) (fun hH5 => ?_)
                    clear hK K HP
                    replace HM := Lib.hid (HM.out.call hb)
                    replace HN := Lib.hid (HN.out.call hb)
                    have HQ := Lib.hid hQ
                    clear hb hQ
                    clear hH4
                    try simp only [Act.put, List.getElem_toArray, List.getElem_cons_succ, List.getElem_cons_zero, List.setIfInBounds_toArray, List.set_cons_zero, List.set_cons_succ]
                    refine wpAnyH_ready (rs := [17]) (by kernel_rfl) (by simp) ?_
                    refine AllReadyH.cons rfl (fun K hK => ?_) ?_
                    · have c0 := HN.out.blk.cell 0
                      have c1 := HN.out.blk.cell 1
                      have c2' := HN.out.blk.cell 2
                      have f0 := HN.out.blk.frozen 0
                      have f1 := HN.out.blk.frozen 1
                      have f2 := HN.out.blk.frozen 2
                      go_simp
                      have hst := HM.out.stored HN.out HGU.out HWG.out HMW.out HQ.out
                      refine hK.out _ _ (hst.s12 HLT.out hH5) (fun hH6 => ?_)
                      clear hK K c0 c1 c2' f0 f1 f2 HM HN HQ
                      try simp only [Act.put, List.getElem_toArray, List.getElem_cons_succ, List.getElem_cons_zero, List.setIfInBounds_toArray, List.set_cons_zero, List.set_cons_succ]
                      refine wpAnyH_done (by kernel_rfl) ?_ _
                      obtain ⟨hm3, hb3, hp3, -⟩ := hst
                      generalize World.setCell (World.setCell (World.setCell _ _ _) _ _) _ _ = V9 at hm3 hb3 hp3 ⊢
                      clear hH6
                      have HM := Lib.hid hm3
                      have HB3 := Lib.hid hb3
                      have HP3 := Lib.hid hp3
                      have e0 := hb3.cell 0
                      have e1 := hb3.cell 1
                      have e2 := hb3.cell 2
                      obtain ⟨A3, c3, hg3, hpl3⟩ := hm3.own.best
                      clear hpl3 hm3 hb3 hp3
                      have g0 : V9.cell? ⟨g, 0, none⟩ = some (.slice A3 r0.plan.length c3) := hg3.cell 0
                      have g1 : V9.cell? ⟨g, 1, none⟩ = some (.int .i64 r0.cost) := hg3.cell 1
                      have g2' : V9.cell? ⟨g, 2, none⟩ = some (.bool r0.good) := hg3.cell 2
                      have HG3 := Lib.hid hg3
                      clear hg3
                      gi_wp2_with fail
                      clear e0 e1 e2 g0 g1 g2'
                      refine ⟨trivial, (callsIn_wide.2 (HBE.out _ _ _ _ _ _ _)).mono ?_⟩
                      rintro e' V10 ⟨rfl, hb⟩
                      replace HM := Lib.hid (HM.out.call hb)
                      replace HB3 := Lib.hid (HB3.out.below hb HB3.out.lt)
                      replace HP3 := Lib.hid (HP3.out.below hb)
                      replace HG3 := Lib.hid (HG3.out.below hb HG3.out.lt)
                      clear hb
                      cases bb
                      · gi_wp2_with fail
                        obtain ⟨k1, k2⟩ := HKP.out _ HM.out.turn
                        refine ⟨k1, k2, ?_, Eq.trans k2.1 HBU.out, Nat.le_trans HZU.out HM.out.turn.size, HBD2.out⟩
                        rw [HST.out]
                        simp only [HBB.out, if_true, Bool.false_eq_true, if_false]
                        exact HM.out.own.more (by simp [Nat.add_mul]; omega)
                      · have e0 := HB3.out.cell 0
                        have e1 := HB3.out.cell 1
                        have e2 := HB3.out.cell 2
                        have c0 : V10.cell? ⟨g, 0, none⟩ = some (.slice A3 r0.plan.length c3) := HG3.out.cell 0
                        have c1' : V10.cell? ⟨g, 1, none⟩ = some (.int .i64 r0.cost) := HG3.out.cell 1
                        have c2' : V10.cell? ⟨g, 2, none⟩ = some (.bool r0.good) := HG3.out.cell 2
                        have f0 := HG3.out.frozen 0
                        have f1 := HG3.out.frozen 1
                        have f2 := HG3.out.frozen 2
                        gi_wp2_with fail
                        clear e0 e1 e2 c0 c1' c2' f0 f1 f2
                        have hO9 := HM.out.own.put HWG.out HMW.out _ _ HP3.out
                        have hT9 : Turn m g U (((V10.setCell ⟨g, 0, none⟩ (.slice (some ⟨g2, 0, none⟩) r1.plan.length cap2)).setCell ⟨g, 1, none⟩ (.int .i64 r1.cost)).setCell ⟨g, 2, none⟩ (.bool r1.good)) := ((HM.out.turn.set g 0 _ (.inr rfl)).set g 1 _ (.inr rfl)).set g 2 _ (.inr rfl)
                        obtain ⟨k1, k2⟩ := HKP.out _ hT9
                        refine ⟨k1, k2, ?_, Eq.trans k2.1 HBU.out, Nat.le_trans HZU.out hT9.size, HBD2.out⟩
                        rw [HST.out]
                        simp only [HBB.out, if_true]
                        exact hO9.more (by simp [Nat.add_mul]; omega)
                    exact AllReadyH.nil
                  exact AllReadyH.nil
                exact AllReadyH.nil
              exact AllReadyH.nil
            exact AllReadyH.nil
          refine AllReadyH.cons rfl (fun K hK => ?_) ?_
          · have hbl : Below (V0).heap.size V0 ((V0).alloc (.cells #[.slice none 0 0, .int .i64 0, .bool false] 122)) := (Below.refl _ _).alloc (Nat.le_refl _) _
            go_simp
            refine hK.out _ _ (hH0.call hbl) (fun hH1 => ?_)
            clear hK K
            have HN := Lib.hid (New.made HM.out HGU.out #[.slice none 0 0, .int .i64 0, .bool false])
            replace HM := Lib.hid (HM.out.call hbl)
            clear hbl
            generalize World.alloc V0 _ = V1 at hH1 HM HN ⊢
            generalize (V0).heap.size = e at HN ⊢
            clear hH0
            try simp only [Act.put, List.getElem_toArray, List.getElem_cons_succ, List.getElem_cons_zero, List.setIfInBounds_toArray, List.set_cons_zero, List.set_cons_succ]
            refine wpAnyH_ready (rs := [6]) (by kernel_rfl) (by simp) ?_
            refine AllReadyH.cons rfl (fun K hK => ?_) ?_
            · go_simp
              refine (HAF.out _).mono ?_
              rintro e V2 ⟨rfl, hb⟩
              refine hK.out _ _ (hH1.call hb) (fun hH2 => ?_)
              clear hK K
              replace HM := Lib.hid (HM.out.call hb)
              replace HN := Lib.hid (HN.out.call hb)
              clear hb
              clear hH1
              try simp only [Act.put, List.getElem_toArray, List.getElem_cons_succ, List.getElem_cons_zero, List.setIfInBounds_toArray, List.set_cons_zero, List.set_cons_succ]
              refine wpAnyH_ready (rs := [9]) (by kernel_rfl) (by simp) ?_
              refine AllReadyH.cons rfl (fun K hK => ?_) ?_
              · go_simp
                refine (HTR.out _ HM.out).mono ?_
                rintro e V3 ⟨A2, c2, rfl, hP, hg2, hk⟩
                obtain ⟨es, ck, hmap⟩ := HM.out.own.known.isMap
                refine hK.out _ _ (hH2.gr hg2 hmap) (fun hH3 => ?_)
                clear hK K
                have HP := Lib.hid hP
                replace HN := Lib.hid (HN.out.gr hg2 hmap)
                replace HM := Lib.hid (HM.out.gr hg2 hk)
                clear hg2 hk hmap hP es ck
                clear hH2
                try simp only [Act.put, List.getElem_toArray, List.getElem_cons_succ, List.getElem_cons_zero, List.setIfInBounds_toArray, List.set_cons_zero, List.set_cons_succ]
                refine wpAnyH_ready (rs := [14]) (by kernel_rfl) (by simp) ?_
                refine AllReadyH.cons rfl (fun K hK => ?_) ?_
                · go_simp
                  refine (HCO.out _).mono ?_
                  rintro e V4 ⟨rfl, hb⟩
                  refine hK.out _ _ (hH3.call hb) (fun hH4 => ?_)
                  clear hK K
                  replace HM := Lib.hid (HM.out.call hb)
                  replace HN := Lib.hid (HN.out.call hb)
                  replace HP := Lib.hid (HP.out.below hb)
                  clear hb
                  clear hH3
                  try simp only [Act.put, List.getElem_toArray, List.getElem_cons_succ, List.getElem_cons_zero, List.setIfInBounds_toArray, List.set_cons_zero, List.set_cons_succ]
                  refine wpAnyH_ready (rs := [15]) (by kernel_rfl) (by simp) ?_
                  refine AllReadyH.cons rfl (fun K hK => ?_) ?_
                  · go_simp
                    refine (HBF.out _ _ _ HP.out).mono ?_
                    rintro e V5 ⟨g2, cap2, rfl, hQ, -, hb⟩
                    refine hK.out _ _ (hH4.call hb) (fun hH5 => ?_)
                    clear hK K HP
                    replace HM := Lib.hid (HM.out.call hb)
                    replace HN := Lib.hid (HN.out.call hb)
                    have HQ := Lib.hid hQ
                    clear hb hQ
                    clear hH4
                    try simp only [Act.put, List.getElem_toArray, List.getElem_cons_succ, List.getElem_cons_zero, List.setIfInBounds_toArray, List.set_cons_zero, List.set_cons_succ]
                    refine wpAnyH_ready (rs := [17]) (by kernel_rfl) (by simp) ?_
                    refine AllReadyH.cons rfl (fun K hK => ?_) ?_
                    · have c0 := HN.out.blk.cell 0
                      have c1 := HN.out.blk.cell 1
                      have c2' := HN.out.blk.cell 2
                      have f0 := HN.out.blk.frozen 0
                      have f1 := HN.out.blk.frozen 1
                      have f2 := HN.out.blk.frozen 2
                      go_simp
                      have hst := HM.out.stored HN.out HGU.out HWG.out HMW.out HQ.out
                      refine hK.out _ _ (hst.s12 HLT.out hH5) (fun hH6 => ?_)
                      clear hK K c0 c1 c2' f0 f1 f2 HM HN HQ
                      try simp only [Act.put, List.getElem_toArray, List.getElem_cons_succ, List.getElem_cons_zero, List.setIfInBounds_toArray, List.set_cons_zero, List.set_cons_succ]
                      refine wpAnyH_done (by kernel_rfl) ?_ _
                      obtain ⟨hm3, hb3, hp3, -⟩ := hst
                      generalize World.setCell (World.setCell (World.setCell _ _ _) _ _) _ _ = V9 at hm3 hb3 hp3 ⊢
                      clear hH6
                      have HM := Lib.hid hm3
                      have HB3 := Lib.hid hb3
                      have HP3 := Lib.hid hp3
                      have e0 := hb3.cell 0
                      have e1 := hb3.cell 1
                      have e2 := hb3.cell 2
                      obtain ⟨A3, c3, hg3, hpl3⟩ := hm3.own.best
                      clear hpl3 hm3 hb3 hp3
                      have g0 : V9.cell? ⟨g, 0, none⟩ = some (.slice A3 r0.plan.length c3) := hg3.cell 0
                      have g1 : V9.cell? ⟨g, 1, none⟩ = some (.int .i64 r0.cost) := hg3.cell 1
                      have g2' : V9.cell? ⟨g, 2, none⟩ = some (.bool r0.good) := hg3.cell 2
                      have HG3 := Lib.hid hg3
                      clear hg3
                      gi_wp2_with fail
                      clear e0 e1 e2 g0 g1 g2'
                      refine ⟨trivial, (callsIn_wide.2 (HBE.out _ _ _ _ _ _ _)).mono ?_⟩
                      rintro e' V10 ⟨rfl, hb⟩
                      replace HM := Lib.hid (HM.out.call hb)
                      replace HB3 := Lib.hid (HB3.out.below hb HB3.out.lt)
                      replace HP3 := Lib.hid (HP3.out.below hb)
                      replace HG3 := Lib.hid (HG3.out.below hb HG3.out.lt)
                      clear hb
                      cases bb
                      · gi_wp2_with fail
                        obtain ⟨k1, k2⟩ := HKP.out _ HM.out.turn
                        refine ⟨k1, k2, ?_, Eq.trans k2.1 HBU.out, Nat.le_trans HZU.out HM.out.turn.size, HBD2.out⟩
                        rw [HST.out]
                        simp only [HBB.out, if_true, Bool.false_eq_true, if_false]
                        exact HM.out.own.more (by simp [Nat.add_mul]; omega)
                      · have e0 := HB3.out.cell 0
                        have e1 := HB3.out.cell 1
                        have e2 := HB3.out.cell 2
                        have c0 : V10.cell? ⟨g, 0, none⟩ = some (.slice A3 r0.plan.length c3) := HG3.out.cell 0
                        have c1' : V10.cell? ⟨g, 1, none⟩ = some (.int .i64 r0.cost) := HG3.out.cell 1
                        have c2' : V10.cell? ⟨g, 2, none⟩ = some (.bool r0.good) := HG3.out.cell 2
                        have f0 := HG3.out.frozen 0
                        have f1 := HG3.out.frozen 1
                        have f2 := HG3.out.frozen 2
                        gi_wp2_with fail
                        clear e0 e1 e2 c0 c1' c2' f0 f1 f2
                        have hO9 := HM.out.own.put HWG.out HMW.out _ _ HP3.out
                        have hT9 : Turn m g U (((V10.setCell ⟨g, 0, none⟩ (.slice (some ⟨g2, 0, none⟩) r1.plan.length cap2)).setCell ⟨g, 1, none⟩ (.int .i64 r1.cost)).setCell ⟨g, 2, none⟩ (.bool r1.good)) := ((HM.out.turn.set g 0 _ (.inr rfl)).set g 1 _ (.inr rfl)).set g 2 _ (.inr rfl)
                        obtain ⟨k1, k2⟩ := HKP.out _ hT9
                        refine ⟨k1, k2, ?_, Eq.trans k2.1 HBU.out, Nat.le_trans HZU.out hT9.size, HBD2.out⟩
                        rw [HST.out]
                        simp only [HBB.out, if_true]
                        exact hO9.more (by simp [Nat.add_mul]; omega)
                    exact AllReadyH.nil
                  exact AllReadyH.nil
                exact AllReadyH.nil
              exact AllReadyH.nil
            exact AllReadyH.nil
          exact AllReadyH.nil
  case done =>
    rintro D ys U hD hS hI hK
    have hys : scanL p x s (fun k => bestOf p l (s.after x.len k)) ys = bestOf p (x :: l) s := by rw [scanL_range hS]; rfl
    have hyl : ys.length = p.dies.length := by have := congrArg List.length hS; simpa using this
    have hO := hI.own
    rw [hys] at hO
    have HOW := Lib.hid (hO.more (n' := n + 4 * cnt l.length) (Nat.add_le_add_left (Nat.mul_le_mul_right _ (by omega)) _))
    have HUZ : Hid (V.heap.size + 1 ≤ U.heap.size) := Lib.hid hI.size
    clear hys hO hI hS
    obtain ⟨R, hR⟩ : ∃ R, bestOf p (x :: l) s = R := ⟨_, rfl⟩
    have HRB : Hid (bestOf p (x :: l) s = R) := Lib.hid hR
    rw [hR] at HOW ⊢
    clear hR
    obtain ⟨A2, c2, hbest, hplan⟩ := HOW.out.best
    have hV := HE0.out.gr HOW.out.gr HOW.out.known
    have x0 := hV.bk.cell 0
    have y0 := HOW.out.b5.cell 0
    have y1 := HOW.out.b5.cell 1
    have y2 := HOW.out.b5.cell 2
    have y3 := HOW.out.b5.cell 3
    have y4 := HOW.out.b5.cell 4
    have b0 : U.cell? ⟨g, 0, none⟩ = some (.slice A2 R.plan.length c2) := hbest.cell 0
    have b1 : U.cell? ⟨g, 1, none⟩ = some (.int .i64 R.cost) := hbest.cell 1
    have b2 : U.cell? ⟨g, 2, none⟩ = some (.bool R.good) := hbest.cell 2
    have hgood : Good p L U s (.agg #[.slice A2 R.plan.length c2, .int .i64 R.cost, .bool R.good]) := good_mk (fun d hd => ((draws_parts HDL.out).2 d hd).1.1) hl HSUM.out (by rw [HRB.out]; exact ⟨A2, c2, rfl, hplan⟩)
    obtain ⟨U1, hst, hk1, hg1, hz1⟩ := HOW.out.known.store (Sta.ok_fit hs) (by have h6 := HN0.out; simp only [List.length_cons, cnt] at h6; omega) _ hgood
    obtain ⟨es, ck, hmap⟩ := HOW.out.known.isMap
    have c0 := cell_gr b0 hg1 hmap
    have c1 := cell_gr b1 hg1 hmap
    have c2' := cell_gr b2 hg1 hmap
    have h7 := HOW.out.b7.gr hg1 hmap
    have hD1 : U1.heap[D]? = some (Obj.deferred (some [])) := (hg1.block D (Array.getElem?_eq_some_iff.1 hK).1 (fun e => by have h := Option.some.inj e; have h8 := HO3.out.gr.size; omega)).trans hK
    have HH := Lib.hid (And.intro hk1 (And.intro hg1 (And.intro hmap (And.intro h7 hplan))))
    have HD := Lib.hid hD1
    clear hbest hV hgood hk1 hg1 hz1 hplan hK hD1 hq hA3 h7 hmap
    unfold staV at hst
    gi_wp2_with fail
    go_wp2_with (refine wpList_store_row rfl 122 (.tmp 7) (.tmp 72) rfl (W.heap.size + 1 + 1) #[_, _, _] rfl rfl 122 _ (HH.out.2.2.2.1) (by kernel_rfl) rfl (by kernel_rfl) ?_)
    rw [Exit.noGoto_ret]
    obtain ⟨hk1, hg1, hmap, h7, hplan⟩ := HH.out
    have hVW := HO3.out.gr.size
    have hD9 : V.heap.size + 1 ≤ D := by rw [← hz3]; exact hD
    have hmm : m < W.heap.size := HMW.out
    have hWV : W.heap.size + 1 + 1 < V.heap.size := by have h1 := HVW.out.2.1; have h2 := HWG.out; omega
    have eK : (U1.setRow (W.heap.size + 1 + 1) #[Value.slice A2 R.plan.length c2, Value.int IntKind.i64 R.cost, Value.bool R.good]).heap[D]? = some (Obj.deferred (some [])) := (setRow_other U1 _ D _ (by omega)).trans HD.out
    refine ⟨by simp, .inl ⟨_, _, rfl, run_takeDeferred eK, ?_⟩⟩
    refine ⟨.agg #[Value.slice A2 R.plan.length c2, Value.int IntKind.i64 R.cost, Value.bool R.good], results_blk rfl _ rfl ((h7.row _).kept (grownBy_putObj' _ D _) (fun e => by have h := Option.some.inj e; omega)) (by kernel_rfl) (by kernel_rfl), ?_⟩
    rw [HRB.out]
    refine ⟨A2, c2, rfl, hplan.keep (((KeepI.grown hg1 hmap).trans (.row h7 (by decide) _)).trans (keep_soft (grownBy_putObj' _ D _) (fun j e => by cases e; exact ⟨_, eK, rfl⟩))), fin_grown HOW.out.gr hg1 (by omega) (by omega) _ _, ?_⟩
    refine ((hk1.kept ((World.putObj_heap_other (by omega)).trans (setRow_other _ _ _ _ (by omega)))).imp fun _ _ hG => hG.keep ?_).more (by simp only [cnt]; omega)
    exact ((KeepI.grown hg1 hmap).trans (.row h7 (by decide) _)).trans (keep_soft (grownBy_putObj' _ D _) (fun j e => by cases e; exact ⟨_, eK, rfl⟩))
  case stop =>
    rintro D cd pre U hD hS ⟨rfl, hX⟩ hK
    have hys : scanL p x s (fun k => bestOf p l (s.after x.len k)) pre.dropLast = bestOf p (x :: l) s := stop_eq HP.out (by obtain ⟨dl, h1, h2, h3⟩ := hX.cost; exact ⟨dl, h1, h2, h3⟩) hX.good hS
    have hO := hX.own
    rw [hys] at hO
    have hyl : pre.dropLast.length ≤ 4 := stop_len hX.cost hS hp4
    have HOW := Lib.hid (hO.more (n' := n + 4 * cnt l.length) (Nat.add_le_add_left (Nat.mul_le_mul_right _ (by omega)) _))
    clear hys hO hX hS
    obtain ⟨R, hR⟩ : ∃ R, bestOf p (x :: l) s = R := ⟨_, rfl⟩
    have HRB : Hid (bestOf p (x :: l) s = R) := Lib.hid hR
    rw [hR] at HOW ⊢
    clear hR
    obtain ⟨A2, c2, hbest, hplan⟩ := HOW.out.best
    have hV := HE0.out.gr HOW.out.gr HOW.out.known
    have x0 := hV.bk.cell 0
    have y0 := HOW.out.b5.cell 0
    have y1 := HOW.out.b5.cell 1
    have y2 := HOW.out.b5.cell 2
    have y3 := HOW.out.b5.cell 3
    have y4 := HOW.out.b5.cell 4
    have b0 : U.cell? ⟨g, 0, none⟩ = some (.slice A2 R.plan.length c2) := hbest.cell 0
    have b1 : U.cell? ⟨g, 1, none⟩ = some (.int .i64 R.cost) := hbest.cell 1
    have b2 : U.cell? ⟨g, 2, none⟩ = some (.bool R.good) := hbest.cell 2
    have hgood : Good p L U s (.agg #[.slice A2 R.plan.length c2, .int .i64 R.cost, .bool R.good]) := good_mk (fun d hd => ((draws_parts HDL.out).2 d hd).1.1) hl HSUM.out (by rw [HRB.out]; exact ⟨A2, c2, rfl, hplan⟩)
    obtain ⟨U1, hst, hk1, hg1, hz1⟩ := HOW.out.known.store (Sta.ok_fit hs) (by have h6 := HN0.out; simp only [List.length_cons, cnt] at h6; omega) _ hgood
    obtain ⟨es, ck, hmap⟩ := HOW.out.known.isMap
    have c0 := cell_gr b0 hg1 hmap
    have c1 := cell_gr b1 hg1 hmap
    have c2' := cell_gr b2 hg1 hmap
    have h7 := HOW.out.b7.gr hg1 hmap
    have hD1 : U1.heap[D]? = some (Obj.deferred (some [])) := (hg1.block D (Array.getElem?_eq_some_iff.1 hK).1 (fun e => by have h := Option.some.inj e; have h8 := HO3.out.gr.size; omega)).trans hK
    have HH := Lib.hid (And.intro hk1 (And.intro hg1 (And.intro hmap (And.intro h7 hplan))))
    have HD := Lib.hid hD1
    clear hbest hV hgood hk1 hg1 hz1 hplan hK hD1 hq hA3 h7 hmap
    unfold staV at hst
    gi_wp2_with fail
    go_wp2_with (refine wpList_store_row rfl 122 (.tmp 7) (.tmp 72) rfl (W.heap.size + 1 + 1) #[_, _, _] rfl rfl 122 _ (HH.out.2.2.2.1) (by kernel_rfl) rfl (by kernel_rfl) ?_)
    rw [Exit.noGoto_ret]
    obtain ⟨hk1, hg1, hmap, h7, hplan⟩ := HH.out
    have hVW := HO3.out.gr.size
    have hD9 : V.heap.size + 1 ≤ D := by rw [← hz3]; exact hD
    have hmm : m < W.heap.size := HMW.out
    have hWV : W.heap.size + 1 + 1 < V.heap.size := by have h1 := HVW.out.2.1; have h2 := HWG.out; omega
    have eK : (U1.setRow (W.heap.size + 1 + 1) #[Value.slice A2 R.plan.length c2, Value.int IntKind.i64 R.cost, Value.bool R.good]).heap[D]? = some (Obj.deferred (some [])) := (setRow_other U1 _ D _ (by omega)).trans HD.out
    refine ⟨by simp, .inl ⟨_, _, rfl, run_takeDeferred eK, ?_⟩⟩
    refine ⟨.agg #[Value.slice A2 R.plan.length c2, Value.int IntKind.i64 R.cost, Value.bool R.good], results_blk rfl _ rfl ((h7.row _).kept (grownBy_putObj' _ D _) (fun e => by have h := Option.some.inj e; omega)) (by kernel_rfl) (by kernel_rfl), ?_⟩
    rw [HRB.out]
    refine ⟨A2, c2, rfl, hplan.keep (((KeepI.grown hg1 hmap).trans (.row h7 (by decide) _)).trans (keep_soft (grownBy_putObj' _ D _) (fun j e => by cases e; exact ⟨_, eK, rfl⟩))), fin_grown HOW.out.gr hg1 (by omega) (by omega) _ _, ?_⟩
    refine ((hk1.kept ((World.putObj_heap_other (by omega)).trans (setRow_other _ _ _ _ (by omega)))).imp fun _ _ hG => hG.keep ?_).more (by simp only [cnt]; omega)
    exact ((KeepI.grown hg1 hmap).trans (.row h7 (by decide) _)).trans (keep_soft (grownBy_putObj' _ D _) (fun j e => by cases e; exact ⟨_, eK, rfl⟩))
end Go.Proofs.Ytdadgljllnkppaa
