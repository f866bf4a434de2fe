/- Walks: Off. -/
import Derived.Test.YtfpfafijockfnaaSq
namespace Go.Proofs.Ytfpfafijockfnaa
open Go.RowKit Go.Shelf

theorem results_two_tmp {P : Program} {fn : Func} {p q u : Tmp} {t1 t2 : TypeId} (h : fn.results = #[.cell p t1, .cell q t2, .tmp u]) (tmps : Array Value) {w : World} {g1 g2 : Nat} {s1 s2 : TypeId} {c1 c2 : Array Value}
    (hp : tmps.getD p undef = .pointer (some ⟨g1, 0, none⟩)) (hq : tmps.getD q undef = .pointer (some ⟨g2, 0, none⟩)) (h1 : Blk w g1 s1 c1) (h2 : Blk w g2 s2 c2) (hd1 : rowType P t1 = true) (hi1 : (P.info? t1).map (·.size) = some c1.size) (hd2 : rowType P t2 = true) (hi2 : (P.info? t2).map (·.size) = some c2.size) :
    (results fn tmps).run P w = .ok (.tuple #[.agg c1, .agg c2, tmps.getD u undef]) w := by
  have hp' : tmps[p]?.getD undef = .pointer (some ⟨g1, 0, none⟩) := by simpa using hp
  have hq' : tmps[q]?.getD undef = .pointer (some ⟨g2, 0, none⟩) := by simpa using hq
  simp [results, h, hp', hq', asAddr, run_load_blk h1 hd1 hi1, run_load_blk h2 hd2 hi2, Sem.run_bind, Result.andThen]
theorem one_slat {W : World} {g : Nat} {s : Slat} (h : Blk W g 37 #[.int .i64 s.thick.lo, .int .i64 s.thick.hi, .int .i64 s.depth.lo, .int .i64 s.depth.hi, .int .i64 s.shift.lo, .int .i64 s.shift.hi, .int .i64 s.pitch.lo, .int .i64 s.pitch.hi]) : SlatsAt W g 0 [s] := fun i hi => by
  obtain rfl : i = 0 := by simp at hi; omega
  exact ⟨h.cell 0, h.cell 1, h.cell 2, h.cell 3, h.cell 4, h.cell 5, h.cell 6, h.cell 7⟩
theorem nil_ints (w : World) (A : Option Addr) (B : Nat) : IntSl w B A [] := fun h => (h rfl).elim
/-- Off's error, and what it returns. -/
def offE (j : Jig) (a b : Slat) (i : Int) : Int := slErr j [a] [b] [] (fromB i 0 (j.grooves - 1))
def offS (j : Jig) (a b : Slat) (i : Int) : Span := if offE j a b i = 0 then sideS j a b i else ⟨0, 0⟩
def offH (j : Jig) (a b : Slat) (i : Int) : Span := if offE j a b i = 0 then heightS j a b else ⟨0, 0⟩
theorem slErr_bad {j : Jig} {l u : List Slat} {x : List Int} {o o' : Bool} (h : jigOk j = false) : slErr j l u x o = slErr j l u x o' := by unfold slErr; rw [h]; rfl
theorem slErr_0 {j : Jig} {l u : List Slat} {x : List Int} {o : Bool} (h : slErr j l u x o = 0) : jigOk j = true ∧ (l.all slatOk = true ∧ u.all slatOk = true) ∧ (l.length ≤ 7 ∧ u.length ≤ 7 ∧ x.length ≤ 8) ∧ limsOk x = true ∧ o = true := by
  unfold slErr at h
  split at h
  · cases h
  · rename_i h1
    split at h
    · cases h
    · rename_i h2
      split at h
      · cases h
      · rename_i h3
        simp only [Bool.not_eq_false, Bool.and_eq_true] at h1 h3
        exact ⟨h1.1.1, ⟨h1.1.2, h1.2⟩, by omega, h3⟩
theorem offE_eq (j : Jig) (a b : Slat) (i : Int) : slErr j [a] [b] [] (fromB i 0 (IntKind.i64.wrap (j.grooves - 1))) = offE j a b i := by
  cases h : jigOk j with
  | false => exact slErr_bad h
  | true =>
    have hj := jigIn_of h
    rw [show IntKind.i64.wrap (j.grooves - 1) = j.grooves - 1 from IntWalk.i64_in _ ⟨by have := hj.n0; omega, by have := hj.n1; omega⟩]
    rfl
theorem off_ok {j : Jig} {a b : Slat} {i : Int} (h : offE j a b i = 0) : JigIn j ∧ SlatIn a ∧ SlatIn b ∧ 0 ≤ i ∧ i < j.grooves := by
  obtain ⟨h1, ⟨h2, h3⟩, -, -, h4⟩ := slErr_0 h
  simp only [List.all_cons, List.all_nil, Bool.and_true] at h2 h3
  rw [fromB_iff] at h4
  exact ⟨jigIn_of h1, slatIn_of h2, slatIn_of h3, h4.1, by omega⟩



/-- What lies in boxes of the call. -/
structure OffS (w : World) (j : Jig) (a b : Slat) (W : World) : Prop where
  kj : Blk W w.heap.size 25 #[.int .i64 j.glue.lo, .int .i64 j.glue.hi, .int .i64 j.lead.lo, .int .i64 j.lead.hi, .int .i64 j.side.lo, .int .i64 j.side.hi, .int .i64 j.height.lo, .int .i64 j.height.hi, .int .i64 j.play, .int .i64 j.grooves]
  ka : Blk W (w.heap.size + 1) 37 #[.int .i64 a.thick.lo, .int .i64 a.thick.hi, .int .i64 a.depth.lo, .int .i64 a.depth.hi, .int .i64 a.shift.lo, .int .i64 a.shift.hi, .int .i64 a.pitch.lo, .int .i64 a.pitch.hi]
  kb : Blk W (w.heap.size + 1 + 1) 37 #[.int .i64 b.thick.lo, .int .i64 b.thick.hi, .int .i64 b.depth.lo, .int .i64 b.depth.hi, .int .i64 b.shift.lo, .int .i64 b.shift.hi, .int .i64 b.pitch.lo, .int .i64 b.pitch.hi]
  hb : Below w.heap.size w W
/-- .. and its results' boxes. -/
structure OffZ (w : World) (j : Jig) (a b : Slat) (W : World) : Prop where
  of : OffS w j a b W
  z1 : Blk W (w.heap.size + 1 + 1 + 1) 23 #[.int .i64 0, .int .i64 0]
  z2 : Blk W (w.heap.size + 1 + 1 + 1 + 1) 23 #[.int .i64 0, .int .i64 0]
theorem OffS.call {w : World} {j : Jig} {a b : Slat} {W W' : World} (x : OffS w j a b W) (hb : Below W.heap.size W W') : OffS w j a b W' :=
  ⟨x.kj.below hb x.kj.lt, x.ka.below hb x.ka.lt, x.kb.below hb x.kb.lt, x.hb.trans (hb.mono x.hb.size)⟩
theorem OffS.far {w : World} {j : Jig} {a b : Slat} {W : World} (x : OffS w j a b W) {g : Nat} (hg : w.heap.size + 1 + 1 < g) (o : Nat) (v : Value) : OffS w j a b (W.setCell ⟨g, o, none⟩ v) :=
  ⟨x.kj.far (by simp only []; omega) _, x.ka.far (by simp only []; omega) _, x.kb.far (by simp only []; omega) _, x.hb.setCell (by simp only []; omega) _⟩
theorem OffZ.call {w : World} {j : Jig} {a b : Slat} {W W' : World} (x : OffZ w j a b W) (hb : Below W.heap.size W W') : OffZ w j a b W' := ⟨x.of.call hb, x.z1.below hb x.z1.lt, x.z2.below hb x.z2.lt⟩
set_option maxRecDepth 100000 in
set_option maxHeartbeats 4000000 in
theorem off5_any (j : Jig) (a b : Slat) (i : Int) (w : World) : Calls Try.prog 19 #[.agg #[.int .i64 j.glue.lo, .int .i64 j.glue.hi, .int .i64 j.lead.lo, .int .i64 j.lead.hi, .int .i64 j.side.lo, .int .i64 j.side.hi, .int .i64 j.height.lo, .int .i64 j.height.hi, .int .i64 j.play, .int .i64 j.grooves], .agg #[.int .i64 a.thick.lo, .int .i64 a.thick.hi, .int .i64 a.depth.lo, .int .i64 a.depth.hi, .int .i64 a.shift.lo, .int .i64 a.shift.hi, .int .i64 a.pitch.lo, .int .i64 a.pitch.hi], .agg #[.int .i64 b.thick.lo, .int .i64 b.thick.hi, .int .i64 b.depth.lo, .int .i64 b.depth.hi, .int .i64 b.shift.lo, .int .i64 b.shift.hi, .int .i64 b.pitch.lo, .int .i64 b.pitch.hi], .int .i64 i] w (Ret (.tuple #[.agg #[.int .i64 (offS j a b i).lo, .int .i64 (offS j a b i).hi], .agg #[.int .i64 (offH j a b i).lo, .int .i64 (offH j a b i).hi], .int .i64 (offE j a b i)]) w) := by
  have HOE := Lib.hid (offE_eq j a b i)
  have HOK : Hid (offE j a b i = 0 → JigIn j ∧ SlatIn a ∧ SlatIn b ∧ 0 ≤ i ∧ i < j.grooves) := Lib.hid off_ok
  have HOS : Hid (offS j a b i = if offE j a b i = 0 then sideS j a b i else ⟨0, 0⟩) := Lib.hid rfl
  have HOH : Hid (offH j a b i = if offE j a b i = 0 then heightS j a b else ⟨0, 0⟩) := Lib.hid rfl
  generalize offS j a b i = s1 at *
  generalize offH j a b i = s2 at *
  generalize offE j a b i = er at *
  obtain ⟨gw, hgw⟩ : ∃ v, IntKind.i64.wrap (j.grooves - 1) = v := ⟨_, rfl⟩
  rw [hgw] at HOE
  obtain ⟨ok, hok⟩ : ∃ v, fromB i 0 gw = v := ⟨_, rfl⟩
  rw [hok] at HOE
  have HOKE := Lib.hid hok
  have HS : Hid (OffZ w j a b (((((w.alloc (.cells #[.int .i64 j.glue.lo, .int .i64 j.glue.hi, .int .i64 j.lead.lo, .int .i64 j.lead.hi, .int .i64 j.side.lo, .int .i64 j.side.hi, .int .i64 j.height.lo, .int .i64 j.height.hi, .int .i64 j.play, .int .i64 j.grooves] 25)).alloc (.cells #[.int .i64 a.thick.lo, .int .i64 a.thick.hi, .int .i64 a.depth.lo, .int .i64 a.depth.hi, .int .i64 a.shift.lo, .int .i64 a.shift.hi, .int .i64 a.pitch.lo, .int .i64 a.pitch.hi] 37)).alloc (.cells #[.int .i64 b.thick.lo, .int .i64 b.thick.hi, .int .i64 b.depth.lo, .int .i64 b.depth.hi, .int .i64 b.shift.lo, .int .i64 b.shift.hi, .int .i64 b.pitch.lo, .int .i64 b.pitch.hi] 37)).alloc (.cells #[.int .i64 0, .int .i64 0] 23)).alloc (.cells #[.int .i64 0, .int .i64 0] 23))) := Lib.hid ⟨⟨((((Blk.new _ _ _).alloc _).alloc _).alloc _).alloc _, (((blk5 _ _ (by simp) rfl : Blk ((w.alloc (.cells #[.int .i64 j.glue.lo, .int .i64 j.glue.hi, .int .i64 j.lead.lo, .int .i64 j.lead.hi, .int .i64 j.side.lo, .int .i64 j.side.hi, .int .i64 j.height.lo, .int .i64 j.height.hi, .int .i64 j.play, .int .i64 j.grooves] 25)).alloc (.cells #[.int .i64 a.thick.lo, .int .i64 a.thick.hi, .int .i64 a.depth.lo, .int .i64 a.depth.hi, .int .i64 a.shift.lo, .int .i64 a.shift.hi, .int .i64 a.pitch.lo, .int .i64 a.pitch.hi] 37)) (w.heap.size + 1) _ _).alloc _).alloc _).alloc _, ((blk5 _ _ (by simp) rfl : Blk (((w.alloc (.cells #[.int .i64 j.glue.lo, .int .i64 j.glue.hi, .int .i64 j.lead.lo, .int .i64 j.lead.hi, .int .i64 j.side.lo, .int .i64 j.side.hi, .int .i64 j.height.lo, .int .i64 j.height.hi, .int .i64 j.play, .int .i64 j.grooves] 25)).alloc (.cells #[.int .i64 a.thick.lo, .int .i64 a.thick.hi, .int .i64 a.depth.lo, .int .i64 a.depth.hi, .int .i64 a.shift.lo, .int .i64 a.shift.hi, .int .i64 a.pitch.lo, .int .i64 a.pitch.hi] 37)).alloc (.cells #[.int .i64 b.thick.lo, .int .i64 b.thick.hi, .int .i64 b.depth.lo, .int .i64 b.depth.hi, .int .i64 b.shift.lo, .int .i64 b.shift.hi, .int .i64 b.pitch.lo, .int .i64 b.pitch.hi] 37)) (w.heap.size + 1 + 1) _ _).alloc _).alloc _, by repeat (first | exact Below.refl _ _ | assumption | refine Below.drew ?_ | refine Below.alloc ?_ (by first | omega | (simp only [World.size_alloc]; omega) | simp) _ | refine Below.setCell ?_ (by first | omega | (simp only [World.size_alloc]; omega) | simp) _)⟩, (blk5 _ _ (by simp) rfl : Blk ((((w.alloc (.cells #[.int .i64 j.glue.lo, .int .i64 j.glue.hi, .int .i64 j.lead.lo, .int .i64 j.lead.hi, .int .i64 j.side.lo, .int .i64 j.side.hi, .int .i64 j.height.lo, .int .i64 j.height.hi, .int .i64 j.play, .int .i64 j.grooves] 25)).alloc (.cells #[.int .i64 a.thick.lo, .int .i64 a.thick.hi, .int .i64 a.depth.lo, .int .i64 a.depth.hi, .int .i64 a.shift.lo, .int .i64 a.shift.hi, .int .i64 a.pitch.lo, .int .i64 a.pitch.hi] 37)).alloc (.cells #[.int .i64 b.thick.lo, .int .i64 b.thick.hi, .int .i64 b.depth.lo, .int .i64 b.depth.hi, .int .i64 b.shift.lo, .int .i64 b.shift.hi, .int .i64 b.pitch.lo, .int .i64 b.pitch.hi] 37)).alloc (.cells #[.int .i64 0, .int .i64 0] 23)) (w.heap.size + 1 + 1 + 1) _ _).alloc _, blk5 _ _ (by simp) rfl⟩
  have HFE : Hid (∀ (W : World) (gA gB : Nat), gA < W.heap.size → gB < W.heap.size → Blk W gA 37 #[.int .i64 a.thick.lo, .int .i64 a.thick.hi, .int .i64 a.depth.lo, .int .i64 a.depth.hi, .int .i64 a.shift.lo, .int .i64 a.shift.hi, .int .i64 a.pitch.lo, .int .i64 a.pitch.hi] → Blk W gB 37 #[.int .i64 b.thick.lo, .int .i64 b.thick.hi, .int .i64 b.depth.lo, .int .i64 b.depth.hi, .int .i64 b.shift.lo, .int .i64 b.shift.hi, .int .i64 b.pitch.lo, .int .i64 b.pitch.hi] → Calls Try.prog 36 #[.agg #[.int .i64 j.glue.lo, .int .i64 j.glue.hi, .int .i64 j.lead.lo, .int .i64 j.lead.hi, .int .i64 j.side.lo, .int .i64 j.side.hi, .int .i64 j.height.lo, .int .i64 j.height.hi, .int .i64 j.play, .int .i64 j.grooves], .slice (some ⟨gA, 0, none⟩) 1 1, .slice (some ⟨gB, 0, none⟩) 1 1, .slice none 0 0, .bool ok] W (Ret (.int .i64 er) W)) := Lib.hid fun W gA gB h1 h2 h3 h4 => by
    have h9 := slErr_any W (some ⟨gA, 0, none⟩) (some ⟨gB, 0, none⟩) none 1 1 0 j [a] [b] [] ok (by simp) (by simp) (by simp) (fun _ => ⟨gA, 0, rfl, h1, one_slat h3⟩) (fun _ => ⟨gB, 0, rfl, h2, one_slat h4⟩) (nil_ints _ _ _)
    rw [HOE.out] at h9
    exact h9
  clear hok
  go_enter Try.func19, Try.ntmps19
  go_wp2_with fail
  generalize World.alloc (World.alloc (World.alloc (World.alloc (World.alloc w _) _) _) _) _ = V at HS ⊢
  go_cut [11] (fun s11 wx => s11 = .int .i64 er ∧ Hid (OffZ w j a b wx))
  case first =>
    replace HS := Lib.hid (HS.out.call (Below.refl _ _).drew)
    refine wp_region_held_drew (S := fun W => Blk W w.heap.size 25 #[.int .i64 j.glue.lo, .int .i64 j.glue.hi, .int .i64 j.lead.lo, .int .i64 j.lead.hi, .int .i64 j.side.lo, .int .i64 j.side.hi, .int .i64 j.height.lo, .int .i64 j.height.hi, .int .i64 j.play, .int .i64 j.grooves] ∧ Blk W (w.heap.size + 1) 37 #[.int .i64 a.thick.lo, .int .i64 a.thick.hi, .int .i64 a.depth.lo, .int .i64 a.depth.hi, .int .i64 a.shift.lo, .int .i64 a.shift.hi, .int .i64 a.pitch.lo, .int .i64 a.pitch.hi] ∧ Blk W (w.heap.size + 1 + 1) 37 #[.int .i64 b.thick.lo, .int .i64 b.thick.hi, .int .i64 b.depth.lo, .int .i64 b.depth.hi, .int .i64 b.shift.lo, .int .i64 b.shift.hi, .int .i64 b.pitch.lo, .int .i64 b.pitch.hi]) (by kernel_rfl) ⟨HS.out.of.kj, HS.out.of.ka, HS.out.of.kb⟩ (fun hH0 => ?_)
    generalize World.drew _ = V0 at *
    simp only [List.size_toArray, List.length_cons, List.length_nil, Nat.reduceAdd, Array.replicate_succ, Array.replicate_zero, List.push_toArray, List.nil_append, List.cons_append]
    refine wpAnyH_take (i := 0) (v := _) rfl (by kernel_rfl) (by kernel_rfl) (by kernel_rfl) (fun _ _ _ h => h) (yieldsIf_load_mid (by rfl) _ _ rfl _ _ rfl [.int .i64 j.glue.lo, .int .i64 j.glue.hi, .int .i64 j.lead.lo, .int .i64 j.lead.hi, .int .i64 j.side.lo, .int .i64 j.side.hi, .int .i64 j.height.lo, .int .i64 j.height.hi, .int .i64 j.play, .int .i64 j.grooves] _ (fun w0 h0 => h0.1.range) (by rfl) (by rfl) (by kernel_rfl)) (by assumption) ?_
    (try simp only [Act.put, List.getElem_toArray, List.getElem_cons_zero, List.setIfInBounds_toArray, List.set_cons_zero, List.set_cons_succ])
    refine wpAnyH_take (i := 1) (v := _) rfl (by kernel_rfl) (by kernel_rfl) (by kernel_rfl) (fun _ _ _ h => h) (yieldsIf_load_mid (by rfl) _ _ rfl _ _ rfl [.int .i64 a.thick.lo, .int .i64 a.thick.hi, .int .i64 a.depth.lo, .int .i64 a.depth.hi, .int .i64 a.shift.lo, .int .i64 a.shift.hi, .int .i64 a.pitch.lo, .int .i64 a.pitch.hi] _ (fun w0 h0 => h0.2.1.range) (by rfl) (by rfl) (by kernel_rfl)) (by assumption) ?_
    (try simp only [Act.put, List.getElem_toArray, List.getElem_cons_succ, List.getElem_cons_zero, List.setIfInBounds_toArray, List.set_cons_zero, List.set_cons_succ])
    refine wpAnyH_take (i := 3) (v := _) rfl (by kernel_rfl) (by kernel_rfl) (by kernel_rfl) (fun _ _ _ h => h) (yieldsIf_load_mid (by rfl) _ _ rfl _ _ rfl [.int .i64 b.thick.lo, .int .i64 b.thick.hi, .int .i64 b.depth.lo, .int .i64 b.depth.hi, .int .i64 b.shift.lo, .int .i64 b.shift.hi, .int .i64 b.pitch.lo, .int .i64 b.pitch.hi] _ (fun w0 h0 => h0.2.2.range) (by rfl) (by rfl) (by kernel_rfl)) (by assumption) ?_
    (try simp only [Act.put, List.getElem_toArray, List.getElem_cons_succ, List.getElem_cons_zero, List.setIfInBounds_toArray, List.set_cons_zero, List.set_cons_succ])
    refine wpAnyH_take (i := 5 ) (v := ?_) rfl (by kernel_rfl) (by kernel_rfl) (by kernel_rfl) (fun _ _ _ h => h) (Or.inl ⟨by rfl, ?_⟩) (by assumption) ?_; rotate_left; (· (intro w0 hSw; obtain ⟨k0, -, -⟩ := hSw; have s9 := k0.cell 9; clear k0; go_simp); first | done | with_reducible rfl); (try simp only [Act.put, List.getElem_toArray, List.getElem_cons_succ, List.getElem_cons_zero, List.setIfInBounds_toArray, List.set_cons_zero, List.set_cons_succ])
    refine wpAnyH_take (i := 6 ) (v := ?_) rfl (by kernel_rfl) (by kernel_rfl) (by kernel_rfl) (fun _ _ _ h => h) (Or.inl ⟨by rfl, ?_⟩) (by assumption) ?_; rotate_left; (· (intro w0 hSw; obtain ⟨k0, -, -⟩ := hSw; have s9 := k0.cell 9; clear k0; go_simp); first | done | with_reducible rfl); (try simp only [Act.put, List.getElem_toArray, List.getElem_cons_succ, List.getElem_cons_zero, List.setIfInBounds_toArray, List.set_cons_zero, List.set_cons_succ])
    refine wpAnyH_take (i := 7 ) (v := ?_) rfl (by kernel_rfl) (by kernel_rfl) (by kernel_rfl) (fun _ _ _ h => h) (Or.inl ⟨by rfl, ?_⟩) (by assumption) ?_; rotate_left; (· (intro w0 hSw; obtain ⟨k0, -, -⟩ := hSw; have s9 := k0.cell 9; clear k0; go_simp); first | done | with_reducible rfl); (try simp only [Act.put, List.getElem_toArray, List.getElem_cons_succ, List.getElem_cons_zero, List.setIfInBounds_toArray, List.set_cons_zero, List.set_cons_succ])
    refine wpAnyH_take (i := 8 ) (v := ?_) rfl (by kernel_rfl) (by kernel_rfl) (by kernel_rfl) (fun _ _ _ h => h) (Or.inl ⟨by rfl, ?_⟩) (by assumption) ?_; rotate_left; (· (intro w0 hSw; obtain ⟨k0, -, -⟩ := hSw; have s9 := k0.cell 9; clear k0; go_simp); first | done | with_reducible rfl); (try simp only [Act.put, List.getElem_toArray, List.getElem_cons_succ, List.getElem_cons_zero, List.setIfInBounds_toArray, List.set_cons_zero, List.set_cons_succ])
    refine wpAnyH_ready (rs := [2, 4, 9]) (by kernel_rfl) (by simp) ?_
    refine AllReadyH.cons (by simp only [List.getElem?_toArray, List.getElem?_cons_succ, List.getElem?_cons_zero]; rfl) (fun K hK => ?_) ?_
    · go_simp
      have hb := (Below.refl V0.heap.size V0).alloc (Nat.le_refl _) (.cells #[.int .i64 a.thick.lo, .int .i64 a.thick.hi, .int .i64 a.depth.lo, .int .i64 a.depth.hi, .int .i64 a.shift.lo, .int .i64 a.shift.hi, .int .i64 a.pitch.lo, .int .i64 a.pitch.hi] 37)
      replace HS := Lib.hid (HS.out.call hb)
      clear hb
      have A2 := Lib.hid (Blk.new V0 37 #[.int .i64 a.thick.lo, .int .i64 a.thick.hi, .int .i64 a.depth.lo, .int .i64 a.depth.hi, .int .i64 a.shift.lo, .int .i64 a.shift.hi, .int .i64 a.pitch.lo, .int .i64 a.pitch.hi])
      refine hK.out _ _ ⟨HS.out.of.kj, HS.out.of.ka, HS.out.of.kb⟩ (fun hH1 => ?_)
      clear hK K
      try simp only [List.setIfInBounds_toArray, List.set_cons_zero, List.set_cons_succ]
      generalize World.alloc V0 _ = V1 at *
      generalize V0.heap.size = gA at *
      refine wpAnyH_ready (rs := [4, 9]) (by kernel_rfl) (by simp) ?_
      refine AllReadyH.cons (by simp only [List.getElem?_toArray, List.getElem?_cons_succ, List.getElem?_cons_zero]; rfl) (fun K hK => ?_) ?_
      · go_simp
        have hb := (Below.refl V1.heap.size V1).alloc (Nat.le_refl _) (.cells #[.int .i64 b.thick.lo, .int .i64 b.thick.hi, .int .i64 b.depth.lo, .int .i64 b.depth.hi, .int .i64 b.shift.lo, .int .i64 b.shift.hi, .int .i64 b.pitch.lo, .int .i64 b.pitch.hi] 37)
        replace HS := Lib.hid (HS.out.call hb)
        replace A2 := Lib.hid (A2.out.below hb A2.out.lt)
        clear hb
        have B4 := Lib.hid (Blk.new V1 37 #[.int .i64 b.thick.lo, .int .i64 b.thick.hi, .int .i64 b.depth.lo, .int .i64 b.depth.hi, .int .i64 b.shift.lo, .int .i64 b.shift.hi, .int .i64 b.pitch.lo, .int .i64 b.pitch.hi])
        refine hK.out _ _ ⟨HS.out.of.kj, HS.out.of.ka, HS.out.of.kb⟩ (fun hH2 => ?_)
        clear hK K
        try simp only [List.setIfInBounds_toArray, List.set_cons_zero, List.set_cons_succ]
        generalize World.alloc V1 _ = V2 at *
        generalize V1.heap.size = gB at *
        refine wpAnyH_ready (rs := [9]) (by kernel_rfl) (by simp) ?_
        refine AllReadyH.cons (by simp only [List.getElem?_toArray, List.getElem?_cons_succ, List.getElem?_cons_zero]; rfl) (fun K hK => ?_) ?_
        · go_simp
          refine (isFrom_any _ _ _ _).mono ?_
          rintro e W' ⟨he, rfl⟩
          rw [HOKE.out] at he
          subst he
          refine hK.out _ _ ⟨HS.out.of.kj, HS.out.of.ka, HS.out.of.kb⟩ (fun hH3 => ?_)
          clear hK K
          try simp only [List.setIfInBounds_toArray, List.set_cons_zero, List.set_cons_succ]
          skip
          refine wpAnyH_ready (rs := [10]) (by kernel_rfl) (by simp) ?_
          refine AllReadyH.cons (by simp only [List.getElem?_toArray, List.getElem?_cons_succ, List.getElem?_cons_zero]; rfl) (fun K hK => ?_) ?_
          · go_simp
            refine (HFE.out _ _ _ A2.out.lt B4.out.lt A2.out B4.out).mono ?_
            rintro e V9 ⟨rfl, hb⟩
            replace HS := Lib.hid (HS.out.call hb)
            replace A2 := Lib.hid (A2.out.below hb A2.out.lt)
            replace B4 := Lib.hid (B4.out.below hb B4.out.lt)
            clear hb
            refine hK.out _ _ ⟨HS.out.of.kj, HS.out.of.ka, HS.out.of.kb⟩ (fun hH4 => ?_)
            clear hK K
            try simp only [List.setIfInBounds_toArray, List.set_cons_zero, List.set_cons_succ]
            skip
            refine wpAnyH_take (i := 11 ) (v := ?_) rfl (by kernel_rfl) (by kernel_rfl) (by kernel_rfl) (fun _ _ _ h => h) (Or.inl ⟨by rfl, ?_⟩) (by assumption) ?_; rotate_left; (· (intro w0 hSw; obtain ⟨k0, -, -⟩ := hSw; have s9 := k0.cell 9; clear k0; go_simp); first | done | with_reducible rfl); (try simp only [Act.put, List.getElem_toArray, List.getElem_cons_succ, List.getElem_cons_zero, List.setIfInBounds_toArray, List.set_cons_zero, List.set_cons_succ])
            refine wpAnyH_done (by kernel_rfl) ?_ _
            go_wp2_with fail
            go_meet
            exact ⟨rfl, HS⟩
          exact AllReadyH.nil
        exact AllReadyH.nil
      refine AllReadyH.cons (by simp only [List.getElem?_toArray, List.getElem?_cons_succ, List.getElem?_cons_zero]; rfl) (fun K hK => ?_) ?_
      · go_simp
        refine (isFrom_any _ _ _ _).mono ?_
        rintro e W' ⟨he, rfl⟩
        rw [HOKE.out] at he
        subst he
        refine hK.out _ _ ⟨HS.out.of.kj, HS.out.of.ka, HS.out.of.kb⟩ (fun hH2 => ?_)
        clear hK K
        try simp only [List.setIfInBounds_toArray, List.set_cons_zero, List.set_cons_succ]
        skip
        refine wpAnyH_ready (rs := [4]) (by kernel_rfl) (by simp) ?_
        refine AllReadyH.cons (by simp only [List.getElem?_toArray, List.getElem?_cons_succ, List.getElem?_cons_zero]; rfl) (fun K hK => ?_) ?_
        · go_simp
          have hb := (Below.refl V1.heap.size V1).alloc (Nat.le_refl _) (.cells #[.int .i64 b.thick.lo, .int .i64 b.thick.hi, .int .i64 b.depth.lo, .int .i64 b.depth.hi, .int .i64 b.shift.lo, .int .i64 b.shift.hi, .int .i64 b.pitch.lo, .int .i64 b.pitch.hi] 37)
          replace HS := Lib.hid (HS.out.call hb)
          replace A2 := Lib.hid (A2.out.below hb A2.out.lt)
          clear hb
          have B4 := Lib.hid (Blk.new V1 37 #[.int .i64 b.thick.lo, .int .i64 b.thick.hi, .int .i64 b.depth.lo, .int .i64 b.depth.hi, .int .i64 b.shift.lo, .int .i64 b.shift.hi, .int .i64 b.pitch.lo, .int .i64 b.pitch.hi])
          refine hK.out _ _ ⟨HS.out.of.kj, HS.out.of.ka, HS.out.of.kb⟩ (fun hH3 => ?_)
          clear hK K
          try simp only [List.setIfInBounds_toArray, List.set_cons_zero, List.set_cons_succ]
          generalize World.alloc V1 _ = V2 at *
          generalize V1.heap.size = gB at *
          refine wpAnyH_ready (rs := [10]) (by kernel_rfl) (by simp) ?_
          refine AllReadyH.cons (by simp only [List.getElem?_toArray, List.getElem?_cons_succ, List.getElem?_cons_zero]; rfl) (fun K hK => ?_) ?_
          · go_simp
            refine (HFE.out _ _ _ A2.out.lt B4.out.lt A2.out B4.out).mono ?_
            rintro e V9 ⟨rfl, hb⟩
            replace HS := Lib.hid (HS.out.call hb)
            replace A2 := Lib.hid (A2.out.below hb A2.out.lt)
            replace B4 := Lib.hid (B4.out.below hb B4.out.lt)
            clear hb
            refine hK.out _ _ ⟨HS.out.of.kj, HS.out.of.ka, HS.out.of.kb⟩ (fun hH4 => ?_)
            clear hK K
            try simp only [List.setIfInBounds_toArray, List.set_cons_zero, List.set_cons_succ]
            skip
            refine wpAnyH_take (i := 11 ) (v := ?_) rfl (by kernel_rfl) (by kernel_rfl) (by kernel_rfl) (fun _ _ _ h => h) (Or.inl ⟨by rfl, ?_⟩) (by assumption) ?_; rotate_left; (· (intro w0 hSw; obtain ⟨k0, -, -⟩ := hSw; have s9 := k0.cell 9; clear k0; go_simp); first | done | with_reducible rfl); (try simp only [Act.put, List.getElem_toArray, List.getElem_cons_succ, List.getElem_cons_zero, List.setIfInBounds_toArray, List.set_cons_zero, List.set_cons_succ])
            refine wpAnyH_done (by kernel_rfl) ?_ _
            go_wp2_with fail
            go_meet
            exact ⟨rfl, HS⟩
          exact AllReadyH.nil
        exact AllReadyH.nil
      exact AllReadyH.nil
    refine AllReadyH.cons (by simp only [List.getElem?_toArray, List.getElem?_cons_succ, List.getElem?_cons_zero]; rfl) (fun K hK => ?_) ?_
    · go_simp
      have hb := (Below.refl V0.heap.size V0).alloc (Nat.le_refl _) (.cells #[.int .i64 b.thick.lo, .int .i64 b.thick.hi, .int .i64 b.depth.lo, .int .i64 b.depth.hi, .int .i64 b.shift.lo, .int .i64 b.shift.hi, .int .i64 b.pitch.lo, .int .i64 b.pitch.hi] 37)
      replace HS := Lib.hid (HS.out.call hb)
      clear hb
      have B4 := Lib.hid (Blk.new V0 37 #[.int .i64 b.thick.lo, .int .i64 b.thick.hi, .int .i64 b.depth.lo, .int .i64 b.depth.hi, .int .i64 b.shift.lo, .int .i64 b.shift.hi, .int .i64 b.pitch.lo, .int .i64 b.pitch.hi])
      refine hK.out _ _ ⟨HS.out.of.kj, HS.out.of.ka, HS.out.of.kb⟩ (fun hH1 => ?_)
      clear hK K
      try simp only [List.setIfInBounds_toArray, List.set_cons_zero, List.set_cons_succ]
      generalize World.alloc V0 _ = V1 at *
      generalize V0.heap.size = gB at *
      refine wpAnyH_ready (rs := [2, 9]) (by kernel_rfl) (by simp) ?_
      refine AllReadyH.cons (by simp only [List.getElem?_toArray, List.getElem?_cons_succ, List.getElem?_cons_zero]; rfl) (fun K hK => ?_) ?_
      · go_simp
        have hb := (Below.refl V1.heap.size V1).alloc (Nat.le_refl _) (.cells #[.int .i64 a.thick.lo, .int .i64 a.thick.hi, .int .i64 a.depth.lo, .int .i64 a.depth.hi, .int .i64 a.shift.lo, .int .i64 a.shift.hi, .int .i64 a.pitch.lo, .int .i64 a.pitch.hi] 37)
        replace HS := Lib.hid (HS.out.call hb)
        replace B4 := Lib.hid (B4.out.below hb B4.out.lt)
        clear hb
        have A2 := Lib.hid (Blk.new V1 37 #[.int .i64 a.thick.lo, .int .i64 a.thick.hi, .int .i64 a.depth.lo, .int .i64 a.depth.hi, .int .i64 a.shift.lo, .int .i64 a.shift.hi, .int .i64 a.pitch.lo, .int .i64 a.pitch.hi])
        refine hK.out _ _ ⟨HS.out.of.kj, HS.out.of.ka, HS.out.of.kb⟩ (fun hH2 => ?_)
        clear hK K
        try simp only [List.setIfInBounds_toArray, List.set_cons_zero, List.set_cons_succ]
        generalize World.alloc V1 _ = V2 at *
        generalize V1.heap.size = gA at *
        refine wpAnyH_ready (rs := [9]) (by kernel_rfl) (by simp) ?_
        refine AllReadyH.cons (by simp only [List.getElem?_toArray, List.getElem?_cons_succ, List.getElem?_cons_zero]; rfl) (fun K hK => ?_) ?_
        · go_simp
          refine (isFrom_any _ _ _ _).mono ?_
          rintro e W' ⟨he, rfl⟩
          rw [HOKE.out] at he
          subst he
          refine hK.out _ _ ⟨HS.out.of.kj, HS.out.of.ka, HS.out.of.kb⟩ (fun hH3 => ?_)
          clear hK K
          try simp only [List.setIfInBounds_toArray, List.set_cons_zero, List.set_cons_succ]
          skip
          refine wpAnyH_ready (rs := [10]) (by kernel_rfl) (by simp) ?_
          refine AllReadyH.cons (by simp only [List.getElem?_toArray, List.getElem?_cons_succ, List.getElem?_cons_zero]; rfl) (fun K hK => ?_) ?_
          · go_simp
            refine (HFE.out _ _ _ A2.out.lt B4.out.lt A2.out B4.out).mono ?_
            rintro e V9 ⟨rfl, hb⟩
            replace HS := Lib.hid (HS.out.call hb)
            replace A2 := Lib.hid (A2.out.below hb A2.out.lt)
            replace B4 := Lib.hid (B4.out.below hb B4.out.lt)
            clear hb
            refine hK.out _ _ ⟨HS.out.of.kj, HS.out.of.ka, HS.out.of.kb⟩ (fun hH4 => ?_)
            clear hK K
            try simp only [List.setIfInBounds_toArray, List.set_cons_zero, List.set_cons_succ]
            skip
            refine wpAnyH_take (i := 11 ) (v := ?_) rfl (by kernel_rfl) (by kernel_rfl) (by kernel_rfl) (fun _ _ _ h => h) (Or.inl ⟨by rfl, ?_⟩) (by assumption) ?_; rotate_left; (· (intro w0 hSw; obtain ⟨k0, -, -⟩ := hSw; have s9 := k0.cell 9; clear k0; go_simp); first | done | with_reducible rfl); (try simp only [Act.put, List.getElem_toArray, List.getElem_cons_succ, List.getElem_cons_zero, List.setIfInBounds_toArray, List.set_cons_zero, List.set_cons_succ])
            refine wpAnyH_done (by kernel_rfl) ?_ _
            go_wp2_with fail
            go_meet
            exact ⟨rfl, HS⟩
          exact AllReadyH.nil
        exact AllReadyH.nil
      refine AllReadyH.cons (by simp only [List.getElem?_toArray, List.getElem?_cons_succ, List.getElem?_cons_zero]; rfl) (fun K hK => ?_) ?_
      · go_simp
        refine (isFrom_any _ _ _ _).mono ?_
        rintro e W' ⟨he, rfl⟩
        rw [HOKE.out] at he
        subst he
        refine hK.out _ _ ⟨HS.out.of.kj, HS.out.of.ka, HS.out.of.kb⟩ (fun hH2 => ?_)
        clear hK K
        try simp only [List.setIfInBounds_toArray, List.set_cons_zero, List.set_cons_succ]
        skip
        refine wpAnyH_ready (rs := [2]) (by kernel_rfl) (by simp) ?_
        refine AllReadyH.cons (by simp only [List.getElem?_toArray, List.getElem?_cons_succ, List.getElem?_cons_zero]; rfl) (fun K hK => ?_) ?_
        · go_simp
          have hb := (Below.refl V1.heap.size V1).alloc (Nat.le_refl _) (.cells #[.int .i64 a.thick.lo, .int .i64 a.thick.hi, .int .i64 a.depth.lo, .int .i64 a.depth.hi, .int .i64 a.shift.lo, .int .i64 a.shift.hi, .int .i64 a.pitch.lo, .int .i64 a.pitch.hi] 37)
          replace HS := Lib.hid (HS.out.call hb)
          replace B4 := Lib.hid (B4.out.below hb B4.out.lt)
          clear hb
          have A2 := Lib.hid (Blk.new V1 37 #[.int .i64 a.thick.lo, .int .i64 a.thick.hi, .int .i64 a.depth.lo, .int .i64 a.depth.hi, .int .i64 a.shift.lo, .int .i64 a.shift.hi, .int .i64 a.pitch.lo, .int .i64 a.pitch.hi])
          refine hK.out _ _ ⟨HS.out.of.kj, HS.out.of.ka, HS.out.of.kb⟩ (fun hH3 => ?_)
          clear hK K
          try simp only [List.setIfInBounds_toArray, List.set_cons_zero, List.set_cons_succ]
          generalize World.alloc V1 _ = V2 at *
          generalize V1.heap.size = gA at *
          refine wpAnyH_ready (rs := [10]) (by kernel_rfl) (by simp) ?_
          refine AllReadyH.cons (by simp only [List.getElem?_toArray, List.getElem?_cons_succ, List.getElem?_cons_zero]; rfl) (fun K hK => ?_) ?_
          · go_simp
            refine (HFE.out _ _ _ A2.out.lt B4.out.lt A2.out B4.out).mono ?_
            rintro e V9 ⟨rfl, hb⟩
            replace HS := Lib.hid (HS.out.call hb)
            replace A2 := Lib.hid (A2.out.below hb A2.out.lt)
            replace B4 := Lib.hid (B4.out.below hb B4.out.lt)
            clear hb
            refine hK.out _ _ ⟨HS.out.of.kj, HS.out.of.ka, HS.out.of.kb⟩ (fun hH4 => ?_)
            clear hK K
            try simp only [List.setIfInBounds_toArray, List.set_cons_zero, List.set_cons_succ]
            skip
            refine wpAnyH_take (i := 11 ) (v := ?_) rfl (by kernel_rfl) (by kernel_rfl) (by kernel_rfl) (fun _ _ _ h => h) (Or.inl ⟨by rfl, ?_⟩) (by assumption) ?_; rotate_left; (· (intro w0 hSw; obtain ⟨k0, -, -⟩ := hSw; have s9 := k0.cell 9; clear k0; go_simp); first | done | with_reducible rfl); (try simp only [Act.put, List.getElem_toArray, List.getElem_cons_succ, List.getElem_cons_zero, List.setIfInBounds_toArray, List.set_cons_zero, List.set_cons_succ])
            refine wpAnyH_done (by kernel_rfl) ?_ _
            go_wp2_with fail
            go_meet
            exact ⟨rfl, HS⟩
          exact AllReadyH.nil
        exact AllReadyH.nil
      exact AllReadyH.nil
    refine AllReadyH.cons (by simp only [List.getElem?_toArray, List.getElem?_cons_succ, List.getElem?_cons_zero]; rfl) (fun K hK => ?_) ?_
    · go_simp
      refine (isFrom_any _ _ _ _).mono ?_
      rintro e W' ⟨he, rfl⟩
      rw [HOKE.out] at he
      subst he
      refine hK.out _ _ ⟨HS.out.of.kj, HS.out.of.ka, HS.out.of.kb⟩ (fun hH1 => ?_)
      clear hK K
      try simp only [List.setIfInBounds_toArray, List.set_cons_zero, List.set_cons_succ]
      skip
      refine wpAnyH_ready (rs := [2, 4]) (by kernel_rfl) (by simp) ?_
      refine AllReadyH.cons (by simp only [List.getElem?_toArray, List.getElem?_cons_succ, List.getElem?_cons_zero]; rfl) (fun K hK => ?_) ?_
      · go_simp
        have hb := (Below.refl V0.heap.size V0).alloc (Nat.le_refl _) (.cells #[.int .i64 a.thick.lo, .int .i64 a.thick.hi, .int .i64 a.depth.lo, .int .i64 a.depth.hi, .int .i64 a.shift.lo, .int .i64 a.shift.hi, .int .i64 a.pitch.lo, .int .i64 a.pitch.hi] 37)
        replace HS := Lib.hid (HS.out.call hb)
        clear hb
        have A2 := Lib.hid (Blk.new V0 37 #[.int .i64 a.thick.lo, .int .i64 a.thick.hi, .int .i64 a.depth.lo, .int .i64 a.depth.hi, .int .i64 a.shift.lo, .int .i64 a.shift.hi, .int .i64 a.pitch.lo, .int .i64 a.pitch.hi])
        refine hK.out _ _ ⟨HS.out.of.kj, HS.out.of.ka, HS.out.of.kb⟩ (fun hH2 => ?_)
        clear hK K
        try simp only [List.setIfInBounds_toArray, List.set_cons_zero, List.set_cons_succ]
        generalize World.alloc V0 _ = V1 at *
        generalize V0.heap.size = gA at *
        refine wpAnyH_ready (rs := [4]) (by kernel_rfl) (by simp) ?_
        refine AllReadyH.cons (by simp only [List.getElem?_toArray, List.getElem?_cons_succ, List.getElem?_cons_zero]; rfl) (fun K hK => ?_) ?_
        · go_simp
          have hb := (Below.refl V1.heap.size V1).alloc (Nat.le_refl _) (.cells #[.int .i64 b.thick.lo, .int .i64 b.thick.hi, .int .i64 b.depth.lo, .int .i64 b.depth.hi, .int .i64 b.shift.lo, .int .i64 b.shift.hi, .int .i64 b.pitch.lo, .int .i64 b.pitch.hi] 37)
          replace HS := Lib.hid (HS.out.call hb)
          replace A2 := Lib.hid (A2.out.below hb A2.out.lt)
          clear hb
          have B4 := Lib.hid (Blk.new V1 37 #[.int .i64 b.thick.lo, .int .i64 b.thick.hi, .int .i64 b.depth.lo, .int .i64 b.depth.hi, .int .i64 b.shift.lo, .int .i64 b.shift.hi, .int .i64 b.pitch.lo, .int .i64 b.pitch.hi])
          refine hK.out _ _ ⟨HS.out.of.kj, HS.out.of.ka, HS.out.of.kb⟩ (fun hH3 => ?_)
          clear hK K
          try simp only [List.setIfInBounds_toArray, List.set_cons_zero, List.set_cons_succ]
          generalize World.alloc V1 _ = V2 at *
          generalize V1.heap.size = gB at *
          refine wpAnyH_ready (rs := [10]) (by kernel_rfl) (by simp) ?_
          refine AllReadyH.cons (by simp only [List.getElem?_toArray, List.getElem?_cons_succ, List.getElem?_cons_zero]; rfl) (fun K hK => ?_) ?_
          · go_simp
            refine (HFE.out _ _ _ A2.out.lt B4.out.lt A2.out B4.out).mono ?_
            rintro e V9 ⟨rfl, hb⟩
            replace HS := Lib.hid (HS.out.call hb)
            replace A2 := Lib.hid (A2.out.below hb A2.out.lt)
            replace B4 := Lib.hid (B4.out.below hb B4.out.lt)
            clear hb
            refine hK.out _ _ ⟨HS.out.of.kj, HS.out.of.ka, HS.out.of.kb⟩ (fun hH4 => ?_)
            clear hK K
            try simp only [List.setIfInBounds_toArray, List.set_cons_zero, List.set_cons_succ]
            skip
            refine wpAnyH_take (i := 11 ) (v := ?_) rfl (by kernel_rfl) (by kernel_rfl) (by kernel_rfl) (fun _ _ _ h => h) (Or.inl ⟨by rfl, ?_⟩) (by assumption) ?_; rotate_left; (· (intro w0 hSw; obtain ⟨k0, -, -⟩ := hSw; have s9 := k0.cell 9; clear k0; go_simp); first | done | with_reducible rfl); (try simp only [Act.put, List.getElem_toArray, List.getElem_cons_succ, List.getElem_cons_zero, List.setIfInBounds_toArray, List.set_cons_zero, List.set_cons_succ])
            refine wpAnyH_done (by kernel_rfl) ?_ _
            go_wp2_with fail
            go_meet
            exact ⟨rfl, HS⟩
          exact AllReadyH.nil
        exact AllReadyH.nil
      refine AllReadyH.cons (by simp only [List.getElem?_toArray, List.getElem?_cons_succ, List.getElem?_cons_zero]; rfl) (fun K hK => ?_) ?_
      · go_simp
        have hb := (Below.refl V0.heap.size V0).alloc (Nat.le_refl _) (.cells #[.int .i64 b.thick.lo, .int .i64 b.thick.hi, .int .i64 b.depth.lo, .int .i64 b.depth.hi, .int .i64 b.shift.lo, .int .i64 b.shift.hi, .int .i64 b.pitch.lo, .int .i64 b.pitch.hi] 37)
        replace HS := Lib.hid (HS.out.call hb)
        clear hb
        have B4 := Lib.hid (Blk.new V0 37 #[.int .i64 b.thick.lo, .int .i64 b.thick.hi, .int .i64 b.depth.lo, .int .i64 b.depth.hi, .int .i64 b.shift.lo, .int .i64 b.shift.hi, .int .i64 b.pitch.lo, .int .i64 b.pitch.hi])
        refine hK.out _ _ ⟨HS.out.of.kj, HS.out.of.ka, HS.out.of.kb⟩ (fun hH2 => ?_)
        clear hK K
        try simp only [List.setIfInBounds_toArray, List.set_cons_zero, List.set_cons_succ]
        generalize World.alloc V0 _ = V1 at *
        generalize V0.heap.size = gB at *
        refine wpAnyH_ready (rs := [2]) (by kernel_rfl) (by simp) ?_
        refine AllReadyH.cons (by simp only [List.getElem?_toArray, List.getElem?_cons_succ, List.getElem?_cons_zero]; rfl) (fun K hK => ?_) ?_
        · go_simp
          have hb := (Below.refl V1.heap.size V1).alloc (Nat.le_refl _) (.cells #[.int .i64 a.thick.lo, .int .i64 a.thick.hi, .int .i64 a.depth.lo, .int .i64 a.depth.hi, .int .i64 a.shift.lo, .int .i64 a.shift.hi, .int .i64 a.pitch.lo, .int .i64 a.pitch.hi] 37)
          replace HS := Lib.hid (HS.out.call hb)
          replace B4 := Lib.hid (B4.out.below hb B4.out.lt)
          clear hb
          have A2 := Lib.hid (Blk.new V1 37 #[.int .i64 a.thick.lo, .int .i64 a.thick.hi, .int .i64 a.depth.lo, .int .i64 a.depth.hi, .int .i64 a.shift.lo, .int .i64 a.shift.hi, .int .i64 a.pitch.lo, .int .i64 a.pitch.hi])
          refine hK.out _ _ ⟨HS.out.of.kj, HS.out.of.ka, HS.out.of.kb⟩ (fun hH3 => ?_)
          clear hK K
          try simp only [List.setIfInBounds_toArray, List.set_cons_zero, List.set_cons_succ]
          generalize World.alloc V1 _ = V2 at *
          generalize V1.heap.size = gA at *
          refine wpAnyH_ready (rs := [10]) (by kernel_rfl) (by simp) ?_
          refine AllReadyH.cons (by simp only [List.getElem?_toArray, List.getElem?_cons_succ, List.getElem?_cons_zero]; rfl) (fun K hK => ?_) ?_
          · go_simp
            refine (HFE.out _ _ _ A2.out.lt B4.out.lt A2.out B4.out).mono ?_
            rintro e V9 ⟨rfl, hb⟩
            replace HS := Lib.hid (HS.out.call hb)
            replace A2 := Lib.hid (A2.out.below hb A2.out.lt)
            replace B4 := Lib.hid (B4.out.below hb B4.out.lt)
            clear hb
            refine hK.out _ _ ⟨HS.out.of.kj, HS.out.of.ka, HS.out.of.kb⟩ (fun hH4 => ?_)
            clear hK K
            try simp only [List.setIfInBounds_toArray, List.set_cons_zero, List.set_cons_succ]
            skip
            refine wpAnyH_take (i := 11 ) (v := ?_) rfl (by kernel_rfl) (by kernel_rfl) (by kernel_rfl) (fun _ _ _ h => h) (Or.inl ⟨by rfl, ?_⟩) (by assumption) ?_; rotate_left; (· (intro w0 hSw; obtain ⟨k0, -, -⟩ := hSw; have s9 := k0.cell 9; clear k0; go_simp); first | done | with_reducible rfl); (try simp only [Act.put, List.getElem_toArray, List.getElem_cons_succ, List.getElem_cons_zero, List.setIfInBounds_toArray, List.set_cons_zero, List.set_cons_succ])
            refine wpAnyH_done (by kernel_rfl) ?_ _
            go_wp2_with fail
            go_meet
            exact ⟨rfl, HS⟩
          exact AllReadyH.nil
        exact AllReadyH.nil
      exact AllReadyH.nil
    exact AllReadyH.nil
  case rest =>
    obtain ⟨rfl, HS⟩ := hcut
    clear HFE HOKE HOE hgw
    have hz1 := HS.out.z1.lt
    have hz2 := HS.out.z2.lt
    by_cases h0 : er = 0
    · have HI := Lib.hid (HOK.out h0)
      have HE1 := Lib.hid (HOS.out.trans (if_pos h0))
      have HE2 := Lib.hid (HOH.out.trans (if_pos h0))
      subst h0
      obtain ⟨N, hN⟩ := Int.eq_ofNat_of_zero_le (show 0 ≤ j.grooves by have := HI.out.1.n0; omega)
      obtain ⟨k, rfl⟩ := Int.eq_ofNat_of_zero_le HI.out.2.2.2.1
      have hkN : k < N := by have := HI.out.2.2.2.2; omega
      have hkN' : (k : Int) < N := by omega
      have hk0 : (0 : Int) ≤ k := by omega
      have HLD : Hid (∀ W, Calls Try.prog 46 #[.agg #[.int .i64 j.glue.lo, .int .i64 j.glue.hi, .int .i64 j.lead.lo, .int .i64 j.lead.hi, .int .i64 j.side.lo, .int .i64 j.side.hi, .int .i64 j.height.lo, .int .i64 j.height.hi, .int .i64 j.play, .int .i64 j.grooves, .int .i64 a.thick.lo, .int .i64 a.thick.hi, .int .i64 a.depth.lo, .int .i64 a.depth.hi, .int .i64 a.shift.lo, .int .i64 a.shift.hi, .int .i64 a.pitch.lo, .int .i64 a.pitch.hi, .int .i64 b.thick.lo, .int .i64 b.thick.hi, .int .i64 b.depth.lo, .int .i64 b.depth.hi, .int .i64 b.shift.lo, .int .i64 b.shift.hi, .int .i64 b.pitch.lo, .int .i64 b.pitch.hi]] W (RetLeads (leadsOf j a b) N W)) := Lib.hid fun W => leads5_any j a b N W HI.out.1 HI.out.2.1 HI.out.2.2.1 hN
      have HLK : Hid (∀ (hl : k < (leadsOf j a b).length), (leadsOf j a b)[k] = ⟨s1, s2⟩) := Lib.hid fun hl => by rw [leads_at, HE1.out, HE2.out]; rfl
      have HLN : Hid (k < (leadsOf j a b).length) := Lib.hid (by rw [leads_len, hN]; simpa using hkN)
      have KJ := Lib.hid HS.out.of.kj
      have KA := Lib.hid HS.out.of.ka
      have KB := Lib.hid HS.out.of.kb
      generalize leadsOf j a b = out at *
      clear HOK HOS HOH HI HE1 HE2 hN
      go_wp2_with (first | (with_reducible refine wpList_load_mid (by with_unfolding_all rfl) 25 _ (by with_unfolding_all rfl) _ _ (by with_unfolding_all rfl) [.int .i64 j.glue.lo, .int .i64 j.glue.hi, .int .i64 j.lead.lo, .int .i64 j.lead.hi, .int .i64 j.side.lo, .int .i64 j.side.hi, .int .i64 j.height.lo, .int .i64 j.height.hi, .int .i64 j.play, .int .i64 j.grooves] _ KJ.out.range (by with_unfolding_all rfl) (by with_unfolding_all rfl) (by kernel_rfl) ?_) | (with_reducible refine wpList_load_mid (by with_unfolding_all rfl) 37 _ (by with_unfolding_all rfl) _ _ (by with_unfolding_all rfl) [.int .i64 a.thick.lo, .int .i64 a.thick.hi, .int .i64 a.depth.lo, .int .i64 a.depth.hi, .int .i64 a.shift.lo, .int .i64 a.shift.hi, .int .i64 a.pitch.lo, .int .i64 a.pitch.hi] _ KA.out.range (by with_unfolding_all rfl) (by with_unfolding_all rfl) (by kernel_rfl) ?_) | (with_reducible refine wpList_load_mid (by with_unfolding_all rfl) 37 _ (by with_unfolding_all rfl) _ _ (by with_unfolding_all rfl) [.int .i64 b.thick.lo, .int .i64 b.thick.hi, .int .i64 b.depth.lo, .int .i64 b.depth.hi, .int .i64 b.shift.lo, .int .i64 b.shift.hi, .int .i64 b.pitch.lo, .int .i64 b.pitch.hi] _ KB.out.range (by with_unfolding_all rfl) (by with_unfolding_all rfl) (by kernel_rfl) ?_))
      refine (HLD.out _).mono ?_
      rintro e W4 ⟨g, hg, rfl, hrow, hb⟩
      replace HS := Lib.hid (HS.out.call hb)
      obtain ⟨l0, l1, l2, l3⟩ := hrow.at_ k HLN.out
      rw [HLK.out HLN.out] at l0 l1 l2 l3
      have hgz := hrow.lt
      have hs4 := hb.size
      have hb4 := (Below.refl W4.heap.size W4).alloc (Nat.le_refl _) (.cells #[.int .i64 s1.lo, .int .i64 s1.hi, .int .i64 s2.lo, .int .i64 s2.hi] 109)
      have KL := Lib.hid (Blk.new W4 109 #[.int .i64 s1.lo, .int .i64 s1.hi, .int .i64 s2.lo, .int .i64 s2.hi])
      replace HS := Lib.hid (HS.out.call hb4)
      clear hb hrow KJ KA KB HLD hb4
      go_wp2_with fail
      generalize World.alloc W4 _ = V5 at HS KL ⊢
      generalize hq4 : W4.heap.size = q4 at *
      replace HS := Lib.hid (HS.out.call (Below.refl _ _).drew)
      replace KL := Lib.hid KL.out.drew
      have Z1 := Lib.hid HS.out.z1
      have Z2 := Lib.hid HS.out.z2
      have HB := Lib.hid HS.out.of.hb
      clear HS
      refine wp_region_held_drew (S := fun W => Blk W q4 109 #[.int .i64 s1.lo, .int .i64 s1.hi, .int .i64 s2.lo, .int .i64 s2.hi]) (by kernel_rfl) KL.out (fun hH0 => ?_)
      generalize World.drew _ = V0 at *
      simp only [List.size_toArray, List.length_cons, List.length_nil, Nat.reduceAdd, Array.replicate_succ, Array.replicate_zero, List.push_toArray, List.nil_append, List.cons_append]
      refine wpAnyH_take (i := 0 ) (v := ?_) rfl (by kernel_rfl) (by kernel_rfl) (by kernel_rfl) (fun _ _ _ h => h) (Or.inl ⟨by rfl, ?_⟩) (by assumption) ?_; rotate_left; (· (intro w0 hSw; have t0 := hSw.cell 0; have t1 := hSw.cell 1; have t2 := hSw.cell 2; have t3 := hSw.cell 3; go_simp); first | done | with_reducible rfl); (try simp only [Act.put, List.getElem_toArray, List.getElem_cons_zero, List.setIfInBounds_toArray, List.set_cons_zero, List.set_cons_succ])
      refine wpAnyH_take (i := 1 ) (v := ?_) rfl (by kernel_rfl) (by kernel_rfl) (by kernel_rfl) (fun _ _ _ h => h) (Or.inl ⟨by rfl, ?_⟩) (by assumption) ?_; rotate_left; (· (intro w0 hSw; have t0 := hSw.cell 0; have t1 := hSw.cell 1; have t2 := hSw.cell 2; have t3 := hSw.cell 3; go_simp); first | done | with_reducible rfl); (try simp only [Act.put, List.getElem_toArray, List.getElem_cons_succ, List.getElem_cons_zero, List.setIfInBounds_toArray, List.set_cons_zero, List.set_cons_succ])
      refine wpAnyH_take (i := 2 ) (v := ?_) rfl (by kernel_rfl) (by kernel_rfl) (by kernel_rfl) (fun _ _ _ h => h) (Or.inl ⟨by rfl, ?_⟩) (by assumption) ?_; rotate_left; (· (intro w0 hSw; have t0 := hSw.cell 0; have t1 := hSw.cell 1; have t2 := hSw.cell 2; have t3 := hSw.cell 3; go_simp); first | done | with_reducible rfl); (try simp only [Act.put, List.getElem_toArray, List.getElem_cons_succ, List.getElem_cons_zero, List.setIfInBounds_toArray, List.set_cons_zero, List.set_cons_succ])
      refine wpAnyH_take (i := 3 ) (v := ?_) rfl (by kernel_rfl) (by kernel_rfl) (by kernel_rfl) (fun _ _ _ h => h) (Or.inl ⟨by rfl, ?_⟩) (by assumption) ?_; rotate_left; (· (intro w0 hSw; have t0 := hSw.cell 0; have t1 := hSw.cell 1; have t2 := hSw.cell 2; have t3 := hSw.cell 3; go_simp); first | done | with_reducible rfl); (try simp only [Act.put, List.getElem_toArray, List.getElem_cons_succ, List.getElem_cons_zero, List.setIfInBounds_toArray, List.set_cons_zero, List.set_cons_succ])
      refine wpAnyH_ready (rs := [4]) (by kernel_rfl) (by simp) ?_
      refine AllReadyH.cons (by simp only [List.getElem?_toArray, List.getElem?_cons_succ, List.getElem?_cons_zero]; rfl) (fun K hK => ?_) AllReadyH.nil
      have y0 := Z1.out.cell 0
      have y1 := Z1.out.cell 1
      have z0 := Z1.out.frozen 0
      have z1 := Z1.out.frozen 1
      go_simp
      replace Z2 := Lib.hid ((Z2.out.far (p := ⟨w.heap.size + 1 + 1 + 1, 0, none⟩) (by simp only []; omega) (.int .i64 s1.lo)).far (p := ⟨w.heap.size + 1 + 1 + 1, 1, none⟩) (by simp only []; omega) (.int .i64 s1.hi))
      replace KL := Lib.hid ((KL.out.far (p := ⟨w.heap.size + 1 + 1 + 1, 0, none⟩) (by simp only []; omega) (.int .i64 s1.lo)).far (p := ⟨w.heap.size + 1 + 1 + 1, 1, none⟩) (by simp only []; omega) (.int .i64 s1.hi))
      replace Z1 := Lib.hid ((Z1.out.set_ 0 (.int .i64 s1.lo)).set_ 1 (.int .i64 s1.hi))
      replace HB := Lib.hid ((HB.out.setCell (p := ⟨w.heap.size + 1 + 1 + 1, 0, none⟩) (by simp only []; omega) (.int .i64 s1.lo)).setCell (p := ⟨w.heap.size + 1 + 1 + 1, 1, none⟩) (by simp only []; omega) (.int .i64 s1.hi))
      clear y0 y1 z0 z1
      refine hK.out _ _ KL.out (fun hH1 => ?_)
      clear hK K
      try simp only [List.setIfInBounds_toArray, List.set_cons_zero, List.set_cons_succ]
      refine wpAnyH_ready (rs := [5]) (by kernel_rfl) (by simp) ?_
      refine AllReadyH.cons (by simp only [List.getElem?_toArray, List.getElem?_cons_succ, List.getElem?_cons_zero]; rfl) (fun K hK => ?_) AllReadyH.nil
      have y0 := Z2.out.cell 0
      have y1 := Z2.out.cell 1
      have z0 := Z2.out.frozen 0
      have z1 := Z2.out.frozen 1
      go_simp
      replace Z1 := Lib.hid ((Z1.out.far (p := ⟨w.heap.size + 1 + 1 + 1 + 1, 0, none⟩) (by simp only []; omega) (.int .i64 s2.lo)).far (p := ⟨w.heap.size + 1 + 1 + 1 + 1, 1, none⟩) (by simp only []; omega) (.int .i64 s2.hi))
      replace KL := Lib.hid ((KL.out.far (p := ⟨w.heap.size + 1 + 1 + 1 + 1, 0, none⟩) (by simp only []; omega) (.int .i64 s2.lo)).far (p := ⟨w.heap.size + 1 + 1 + 1 + 1, 1, none⟩) (by simp only []; omega) (.int .i64 s2.hi))
      replace Z2 := Lib.hid ((Z2.out.set_ 0 (.int .i64 s2.lo)).set_ 1 (.int .i64 s2.hi))
      replace HB := Lib.hid ((HB.out.setCell (p := ⟨w.heap.size + 1 + 1 + 1 + 1, 0, none⟩) (by simp only []; omega) (.int .i64 s2.lo)).setCell (p := ⟨w.heap.size + 1 + 1 + 1 + 1, 1, none⟩) (by simp only []; omega) (.int .i64 s2.hi))
      clear y0 y1 z0 z1
      refine hK.out _ _ KL.out (fun hH2 => ?_)
      clear hK K
      try simp only [List.setIfInBounds_toArray, List.set_cons_zero, List.set_cons_succ]
      refine wpAnyH_take (i := 6 ) (v := ?_) rfl (by kernel_rfl) (by kernel_rfl) (by kernel_rfl) (fun _ _ _ h => h) (Or.inl ⟨by rfl, ?_⟩) (by assumption) ?_; rotate_left; (· (intro w0 hSw; have t0 := hSw.cell 0; have t1 := hSw.cell 1; have t2 := hSw.cell 2; have t3 := hSw.cell 3; go_simp); first | done | with_reducible rfl); (try simp only [Act.put, List.getElem_toArray, List.getElem_cons_succ, List.getElem_cons_zero, List.setIfInBounds_toArray, List.set_cons_zero, List.set_cons_succ])
      refine wpAnyH_done (by kernel_rfl) ?_ _
      go_wp2_with fail
      exact bodyPost_ret (results_two_tmp rfl _ rfl rfl Z1.out Z2.out (by kernel_rfl) (by kernel_rfl) (by kernel_rfl) (by kernel_rfl)) rfl ⟨rfl, HB.out⟩
    · have HE1 := Lib.hid (HOS.out.trans (if_neg h0))
      have HE2 := Lib.hid (HOH.out.trans (if_neg h0))
      have hne : (er == 0) = false := by rw [beq_eq_false_iff_ne]; exact h0
      obtain rfl := HE1.out
      obtain rfl := HE2.out
      have y0 := HS.out.z1.cell 0
      have y1 := HS.out.z1.cell 1
      have y2 := HS.out.z2.cell 0
      have y3 := HS.out.z2.cell 1
      have f0 := HS.out.z1.frozen 0
      have f1 := HS.out.z1.frozen 1
      have f2 := HS.out.z2.frozen 0
      have f3 := HS.out.z2.frozen 1
      clear HE1 HE2 HOS HOH HOK h0
      go_wp2_with fail
      exact bodyPost_ret (results_two_tmp rfl _ rfl rfl ((((HS.out.z1.set_ 0 _).set_ 1 _).far (by simp only []; omega) _).far (by simp only []; omega) _) (((((HS.out.z2.far (by simp only []; omega) _).far (by simp only []; omega) _)).set_ 0 _).set_ 1 _) (by kernel_rfl) (by kernel_rfl) (by kernel_rfl) (by kernel_rfl)) rfl ⟨rfl, (((HS.out.of.hb.setCell (by simp only []; omega) _).setCell (by simp only []; omega) _).setCell (by simp only []; omega) _).setCell (by simp only []; omega) _⟩
end Go.Proofs.Ytfpfafijockfnaa
