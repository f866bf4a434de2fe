/- Walks of the numbers of a sandwich: how the last grooves miss one another. -/
import Derived.Test.YtfpfafijockfnaaSk
import Derived.Deep.DeepCutAuto
import Derived.Deep.MidRow
namespace Go.Proofs.Ytfpfafijockfnaa
open Go.RowKit Go.Shelf

theorem jig_play {j : Jig} (hj : JigIn j) : 0 ≤ j.play ∧ j.play ≤ 500 := ⟨hj.p0, hj.p1⟩
theorem step_bd {a b : Slat} (ha : SlatIn a) (hb : SlatIn b) : SpanBd (stepS a b) 100 := by
  have := ha.p0; have := ha.p1; have := ha.p2; have := hb.p0; have := hb.p1; have := hb.p2
  unfold SpanBd stepS
  dsimp only
  omega
theorem cut_far {j : Jig} {a b : Slat} (hj : JigIn j) (ha : SlatIn a) (hb : SlatIn b) : Far (cutS (firstS a b) (playS j)) := by
  have := ha.s0; have := ha.s1; have := ha.s2; have := hb.s0; have := hb.s1; have := hb.s2; have := hj.p0; have := hj.p1
  unfold Far cutS firstS playS
  dsimp only
  omega
/-- A whole struct is loaded from its block. -/
theorem Blk.loadAt {W : World} {g : Nat} {t ty : TypeId} {cs : Array Value} (h : Blk W g t cs) (hd : rowType Try.prog ty = true) (hi : (Try.prog.info? ty).map (·.size) = some cs.size) :
    (Instr.loadAt ty (.pointer (some ⟨g, 0, none⟩))).run Try.prog W = .ok (.agg cs) W := by
  simp only [Instr.loadAt, Instr.sureAddr, Sem.run_bind, Sem.run_pure, Result.andThen_ok, run_load_blk h hd hi]
theorem Blk.range {W : World} {g : Nat} {t : TypeId} {l : List Value} (h : Blk W g t l.toArray) : W.rangeAt g 0 l := fun j v hv => by
  rw [Nat.zero_add, h.cell j]
  simpa using hv
set_option maxRecDepth 100000 in
set_option maxHeartbeats 2000000 in
theorem last5_any (j : Jig) (a b : Slat) (w : World) (hj : JigIn j) (ha : SlatIn a) (hb : SlatIn b) : Calls Try.prog 97 #[.agg #[.int .i64 j.glue.lo, .int .i64 j.glue.hi, .int .i64 j.lead.lo, .int .i64 j.lead.hi, .int .i64 j.side.lo, .int .i64 j.side.hi, .int .i64 j.height.lo, .int .i64 j.height.hi, .int .i64 j.play, .int .i64 j.grooves, .int .i64 a.thick.lo, .int .i64 a.thick.hi, .int .i64 a.depth.lo, .int .i64 a.depth.hi, .int .i64 a.shift.lo, .int .i64 a.shift.hi, .int .i64 a.pitch.lo, .int .i64 a.pitch.hi, .int .i64 b.thick.lo, .int .i64 b.thick.hi, .int .i64 b.depth.lo, .int .i64 b.depth.hi, .int .i64 b.shift.lo, .int .i64 b.shift.hi, .int .i64 b.pitch.lo, .int .i64 b.pitch.hi]] w (Ret (.agg #[.int .i64 (lastS j a b).lo, .int .i64 (lastS j a b).hi]) w) := by
  obtain ⟨-, -, -, fp⟩ := slat_far ha
  obtain ⟨-, -, -, fq⟩ := slat_far hb
  have HT : Hid (∀ W : World, Calls Try.prog 77 #[.agg #[.int .i64 b.pitch.lo, .int .i64 b.pitch.hi], .int .i64 (-1)] W (Ret (.agg #[.int .i64 (-b.pitch.hi), .int .i64 (-b.pitch.lo)]) W)) := Lib.hid fun W => by
    have h9 := times5_any b.pitch (-1) W fq (by omega)
    have e : timesS (-1) b.pitch = ⟨-b.pitch.hi, -b.pitch.lo⟩ := by unfold timesS; rw [if_pos (by omega)]; simp
    rw [e] at h9
    exact h9
  have HU : Hid (∀ (W : World) (g : Nat), g < W.heap.size → Blk W g 99 #[.int .i64 a.pitch.lo, .int .i64 a.pitch.hi, .int .i64 (-b.pitch.hi), .int .i64 (-b.pitch.lo)] → Calls Try.prog 80 #[.slice (some ⟨g, 0, none⟩) 2 2] W (Ret (.agg #[.int .i64 (stepS a b).lo, .int .i64 (stepS a b).hi]) W)) := Lib.hid fun W g hg hK => by
    have h9 := sum5_any W g 0 2 [a.pitch, ⟨-b.pitch.hi, -b.pitch.lo⟩] hg (two_spans hK) (by simp) (by
      intro s hs
      simp only [List.mem_cons, List.not_mem_nil, or_false] at hs
      rcases hs with rfl | rfl
      · exact fp
      · unfold Far at fq ⊢; dsimp only; omega)
    have e : sumS [a.pitch, ⟨-b.pitch.hi, -b.pitch.lo⟩] = stepS a b := by simp [sumS, addS, stepS]; omega
    rw [e] at h9
    exact h9
  have hb0 : Below w.heap.size w ((w.alloc (.cells #[.int .i64 j.glue.lo, .int .i64 j.glue.hi, .int .i64 j.lead.lo, .int .i64 j.lead.hi, .int .i64 j.side.lo, .int .i64 j.side.hi, .int .i64 j.height.lo, .int .i64 j.height.hi, .int .i64 j.play, .int .i64 j.grooves, .int .i64 a.thick.lo, .int .i64 a.thick.hi, .int .i64 a.depth.lo, .int .i64 a.depth.hi, .int .i64 a.shift.lo, .int .i64 a.shift.hi, .int .i64 a.pitch.lo, .int .i64 a.pitch.hi, .int .i64 b.thick.lo, .int .i64 b.thick.hi, .int .i64 b.depth.lo, .int .i64 b.depth.hi, .int .i64 b.shift.lo, .int .i64 b.shift.hi, .int .i64 b.pitch.lo, .int .i64 b.pitch.hi] 95)).alloc (.cells #[.int .i64 0, .int .i64 0] 99)) := by repeat (first | exact Below.refl _ _ | assumption | refine Below.drew ?_ | refine Below.alloc ?_ (by first | omega | (simp only [World.size_alloc]; omega) | simp) _ | refine Below.setCell ?_ (by first | omega | (simp only [World.size_alloc]; omega) | simp) _)
  have hk0 : Blk ((w.alloc (.cells #[.int .i64 j.glue.lo, .int .i64 j.glue.hi, .int .i64 j.lead.lo, .int .i64 j.lead.hi, .int .i64 j.side.lo, .int .i64 j.side.hi, .int .i64 j.height.lo, .int .i64 j.height.hi, .int .i64 j.play, .int .i64 j.grooves, .int .i64 a.thick.lo, .int .i64 a.thick.hi, .int .i64 a.depth.lo, .int .i64 a.depth.hi, .int .i64 a.shift.lo, .int .i64 a.shift.hi, .int .i64 a.pitch.lo, .int .i64 a.pitch.hi, .int .i64 b.thick.lo, .int .i64 b.thick.hi, .int .i64 b.depth.lo, .int .i64 b.depth.hi, .int .i64 b.shift.lo, .int .i64 b.shift.hi, .int .i64 b.pitch.lo, .int .i64 b.pitch.hi] 95)).alloc (.cells #[.int .i64 0, .int .i64 0] 99)) w.heap.size 95 #[.int .i64 j.glue.lo, .int .i64 j.glue.hi, .int .i64 j.lead.lo, .int .i64 j.lead.hi, .int .i64 j.side.lo, .int .i64 j.side.hi, .int .i64 j.height.lo, .int .i64 j.height.hi, .int .i64 j.play, .int .i64 j.grooves, .int .i64 a.thick.lo, .int .i64 a.thick.hi, .int .i64 a.depth.lo, .int .i64 a.depth.hi, .int .i64 a.shift.lo, .int .i64 a.shift.hi, .int .i64 a.pitch.lo, .int .i64 a.pitch.hi, .int .i64 b.thick.lo, .int .i64 b.thick.hi, .int .i64 b.depth.lo, .int .i64 b.depth.hi, .int .i64 b.shift.lo, .int .i64 b.shift.hi, .int .i64 b.pitch.lo, .int .i64 b.pitch.hi] := (Blk.new _ _ _).alloc _
  have hk2 : Blk ((w.alloc (.cells #[.int .i64 j.glue.lo, .int .i64 j.glue.hi, .int .i64 j.lead.lo, .int .i64 j.lead.hi, .int .i64 j.side.lo, .int .i64 j.side.hi, .int .i64 j.height.lo, .int .i64 j.height.hi, .int .i64 j.play, .int .i64 j.grooves, .int .i64 a.thick.lo, .int .i64 a.thick.hi, .int .i64 a.depth.lo, .int .i64 a.depth.hi, .int .i64 a.shift.lo, .int .i64 a.shift.hi, .int .i64 a.pitch.lo, .int .i64 a.pitch.hi, .int .i64 b.thick.lo, .int .i64 b.thick.hi, .int .i64 b.depth.lo, .int .i64 b.depth.hi, .int .i64 b.shift.lo, .int .i64 b.shift.hi, .int .i64 b.pitch.lo, .int .i64 b.pitch.hi] 95)).alloc (.cells #[.int .i64 0, .int .i64 0] 99)) (w.heap.size + 1) 99 #[.int .i64 0, .int .i64 0] := blk5 _ _ (by simp) rfl
  have hps := jig_play hj
  have HF : Hid (∀ W : World, Calls Try.prog 95 #[.agg #[.int .i64 j.glue.lo, .int .i64 j.glue.hi, .int .i64 j.lead.lo, .int .i64 j.lead.hi, .int .i64 j.side.lo, .int .i64 j.side.hi, .int .i64 j.height.lo, .int .i64 j.height.hi, .int .i64 j.play, .int .i64 j.grooves, .int .i64 a.thick.lo, .int .i64 a.thick.hi, .int .i64 a.depth.lo, .int .i64 a.depth.hi, .int .i64 a.shift.lo, .int .i64 a.shift.hi, .int .i64 a.pitch.lo, .int .i64 a.pitch.hi, .int .i64 b.thick.lo, .int .i64 b.thick.hi, .int .i64 b.depth.lo, .int .i64 b.depth.hi, .int .i64 b.shift.lo, .int .i64 b.shift.hi, .int .i64 b.pitch.lo, .int .i64 b.pitch.hi]] W (Ret (.agg #[.int .i64 (firstS a b).lo, .int .i64 (firstS a b).hi]) W)) := Lib.hid fun W => first5_any j a b W ha hb
  have HP : Hid (∀ W : World, Calls Try.prog 96 #[.agg #[.int .i64 j.glue.lo, .int .i64 j.glue.hi, .int .i64 j.lead.lo, .int .i64 j.lead.hi, .int .i64 j.side.lo, .int .i64 j.side.hi, .int .i64 j.height.lo, .int .i64 j.height.hi, .int .i64 j.play, .int .i64 j.grooves, .int .i64 a.thick.lo, .int .i64 a.thick.hi, .int .i64 a.depth.lo, .int .i64 a.depth.hi, .int .i64 a.shift.lo, .int .i64 a.shift.hi, .int .i64 a.pitch.lo, .int .i64 a.pitch.hi, .int .i64 b.thick.lo, .int .i64 b.thick.hi, .int .i64 b.depth.lo, .int .i64 b.depth.hi, .int .i64 b.shift.lo, .int .i64 b.shift.hi, .int .i64 b.pitch.lo, .int .i64 b.pitch.hi]] W (Ret (.agg #[.int .i64 (playS j).lo, .int .i64 (playS j).hi]) W)) := Lib.hid fun W => play5_any j a b W ⟨hj.p0, hj.p1⟩
  have HC : Hid (∀ W : World, Calls Try.prog 76 #[.agg #[.int .i64 (firstS a b).lo, .int .i64 (firstS a b).hi], .agg #[.int .i64 (playS j).lo, .int .i64 (playS j).hi]] W (Ret (.agg #[.int .i64 (cutS (firstS a b) (playS j)).lo, .int .i64 (cutS (firstS a b) (playS j)).hi]) W)) := Lib.hid fun W => common5_any _ _ _ _ W
  have hst := step_bd ha hb
  have hg1 : 0 ≤ j.grooves - 1 ∧ j.grooves - 1 ≤ 9 := by have := hj.n0; have := hj.n1; omega
  have HT2 : Hid (∀ W : World, Calls Try.prog 77 #[.agg #[.int .i64 (stepS a b).lo, .int .i64 (stepS a b).hi], .int .i64 (j.grooves - 1)] W (Ret (.agg #[.int .i64 ((j.grooves - 1) * (stepS a b).lo), .int .i64 ((j.grooves - 1) * (stepS a b).hi)]) W)) := Lib.hid fun W => by
    have h9 := times5_any (stepS a b) (j.grooves - 1) W (by unfold SpanBd at hst; unfold Far; omega) (by omega)
    have e : timesS (j.grooves - 1) (stepS a b) = ⟨(j.grooves - 1) * (stepS a b).lo, (j.grooves - 1) * (stepS a b).hi⟩ := if_neg (by omega)
    rw [e] at h9
    exact h9
  have HU2 : Hid (∀ W : World, Calls Try.prog 80 #[.slice (some ⟨W.heap.size, 0, none⟩) 2 2] (W.alloc (.cells #[.int .i64 (cutS (firstS a b) (playS j)).lo, .int .i64 (cutS (firstS a b) (playS j)).hi, .int .i64 ((j.grooves - 1) * (stepS a b).lo), .int .i64 ((j.grooves - 1) * (stepS a b).hi)] 99)) (Ret (.agg #[.int .i64 (lastS j a b).lo, .int .i64 (lastS j a b).hi]) (W.alloc (.cells #[.int .i64 (cutS (firstS a b) (playS j)).lo, .int .i64 (cutS (firstS a b) (playS j)).hi, .int .i64 ((j.grooves - 1) * (stepS a b).lo), .int .i64 ((j.grooves - 1) * (stepS a b).hi)] 99)))) := Lib.hid fun W => by
    have h9 := sum5_any (W.alloc (.cells #[.int .i64 (cutS (firstS a b) (playS j)).lo, .int .i64 (cutS (firstS a b) (playS j)).hi, .int .i64 ((j.grooves - 1) * (stepS a b).lo), .int .i64 ((j.grooves - 1) * (stepS a b).hi)] 99)) W.heap.size 0 2 [cutS (firstS a b) (playS j), ⟨(j.grooves - 1) * (stepS a b).lo, (j.grooves - 1) * (stepS a b).hi⟩] (by simp) (two_spans (Blk.new _ _ _)) (by simp) (by
      intro s hs
      simp only [List.mem_cons, List.not_mem_nil, or_false] at hs
      rcases hs with rfl | rfl
      · exact cut_far hj ha hb
      · unfold SpanBd at hst
        have a1 := mul_far10 (n := j.grooves - 1) (x := (stepS a b).lo) (by omega) (by omega)
        have a2 := mul_far10 (n := j.grooves - 1) (x := (stepS a b).hi) (by omega) (by omega)
        exact ⟨a1.1, a1.2, a2.1, a2.2⟩)
    have e : sumS [cutS (firstS a b) (playS j), ⟨(j.grooves - 1) * (stepS a b).lo, (j.grooves - 1) * (stepS a b).hi⟩] = lastS j a b := by simp only [sumS, addS, lastS, List.foldl_cons, List.foldl_nil, Int.zero_add]
    rw [e] at h9
    exact h9
  have wg : IntKind.i64.wrap (j.grooves - 1) = j.grooves - 1 := IntWalk.i64_in _ ⟨by omega, by omega⟩
  generalize lastS j a b = lst at HU2 ⊢
  generalize cutS (firstS a b) (playS j) = cut at HC HU2
  generalize firstS a b = fst at HF HC
  generalize playS j = pla at HP HC
  obtain ⟨slo, hslo⟩ : ∃ v, (stepS a b).lo = v := ⟨_, rfl⟩
  obtain ⟨shi, hshi⟩ : ∃ v, (stepS a b).hi = v := ⟨_, rfl⟩
  rw [hslo, hshi] at HU HT2 HU2
  obtain ⟨gm, hgm⟩ : ∃ v, j.grooves - 1 = v := ⟨_, rfl⟩
  rw [hgm] at HT2 HU2 wg
  obtain ⟨tlo, htlo⟩ : ∃ v, gm * slo = v := ⟨_, rfl⟩
  obtain ⟨thi, hthi⟩ : ∃ v, gm * shi = v := ⟨_, rfl⟩
  rw [htlo, hthi] at HT2 HU2
  have HGM := Lib.hid hgm
  clear htlo hthi hgm hps hst hg1
  obtain ⟨nbh, hnbh⟩ : ∃ v, -b.pitch.hi = v := ⟨_, rfl⟩
  obtain ⟨nbl, hnbl⟩ : ∃ v, -b.pitch.lo = v := ⟨_, rfl⟩
  rw [hnbh, hnbl] at HT HU
  clear hslo hshi hnbh hnbl fp fq hj ha hb
  go_enter Try.func97, Try.ntmps97
  go_wp2_with fail
  generalize World.alloc (World.alloc w _) _ = V at hb0 hk0 hk2 ⊢
  go_cut [3] (fun s3 wx => ∃ q9 : Nat, s3 = .pointer (some ⟨q9, 0, none⟩) ∧ Hid (Blk wx w.heap.size 95 #[.int .i64 j.glue.lo, .int .i64 j.glue.hi, .int .i64 j.lead.lo, .int .i64 j.lead.hi, .int .i64 j.side.lo, .int .i64 j.side.hi, .int .i64 j.height.lo, .int .i64 j.height.hi, .int .i64 j.play, .int .i64 j.grooves, .int .i64 a.thick.lo, .int .i64 a.thick.hi, .int .i64 a.depth.lo, .int .i64 a.depth.hi, .int .i64 a.shift.lo, .int .i64 a.shift.hi, .int .i64 a.pitch.lo, .int .i64 a.pitch.hi, .int .i64 b.thick.lo, .int .i64 b.thick.hi, .int .i64 b.depth.lo, .int .i64 b.depth.hi, .int .i64 b.shift.lo, .int .i64 b.shift.hi, .int .i64 b.pitch.lo, .int .i64 b.pitch.hi]) ∧ Hid (Blk wx (w.heap.size + 1) 99 #[.int .i64 0, .int .i64 0]) ∧ Hid (Blk wx q9 99 #[.int .i64 slo, .int .i64 shi]) ∧ Hid (Below w.heap.size w wx) ∧ w.heap.size < q9 ∧ w.heap.size + 1 < q9)
  case first =>
    have K0 := Lib.hid hk0.drew
    have K2 := Lib.hid hk2.drew
    have HB := Lib.hid hb0.drew
    clear hk0 hk2 hb0
    refine wp_region_held_drew (S := fun W => W.cell? ⟨w.heap.size, 16, none⟩ = some (.int .i64 a.pitch.lo) ∧ W.cell? ⟨w.heap.size, 17, none⟩ = some (.int .i64 a.pitch.hi) ∧ W.cell? ⟨w.heap.size, 24, none⟩ = some (.int .i64 b.pitch.lo) ∧ W.cell? ⟨w.heap.size, 25, none⟩ = some (.int .i64 b.pitch.hi)) (by kernel_rfl) ⟨K0.out.cell 16, K0.out.cell 17, K0.out.cell 24, K0.out.cell 25⟩ (fun hH0 => ?_)
    generalize World.drew _ = V0 at *
    simp only [List.size_toArray, List.length_cons, List.length_nil, Nat.reduceAdd, Array.replicate_succ, Array.replicate_zero, List.push_toArray, List.nil_append, List.cons_append]
    refine wpAnyH_take (i := 0 ) (v := ?_) rfl (by kernel_rfl) (by kernel_rfl) (by kernel_rfl) (fun _ _ _ h => h) (Or.inl ⟨by rfl, ?_⟩) (by assumption) ?_; rotate_left; (· (intro w0 hSw; obtain ⟨s0, s1, s2, s3⟩ := hSw; go_simp); first | done | with_reducible rfl); (try simp only [Act.put, List.getElem_toArray, List.getElem_cons_zero, List.setIfInBounds_toArray, List.set_cons_zero, List.set_cons_succ])
    refine wpAnyH_take (i := 1 ) (v := ?_) rfl (by kernel_rfl) (by kernel_rfl) (by kernel_rfl) (fun _ _ _ h => h) (Or.inl ⟨by rfl, ?_⟩) (by assumption) ?_; rotate_left; (· (intro w0 hSw; obtain ⟨s0, s1, s2, s3⟩ := hSw; go_simp); first | done | with_reducible rfl); (try simp only [Act.put, List.getElem_toArray, List.getElem_cons_succ, List.getElem_cons_zero, List.setIfInBounds_toArray, List.set_cons_zero, List.set_cons_succ])
    refine wpAnyH_take (i := 2 ) (v := ?_) rfl (by kernel_rfl) (by kernel_rfl) (by kernel_rfl) (fun _ _ _ h => h) (Or.inl ⟨by rfl, ?_⟩) (by assumption) ?_; rotate_left; (· (intro w0 hSw; obtain ⟨s0, s1, s2, s3⟩ := hSw; go_simp); first | done | with_reducible rfl); (try simp only [Act.put, List.getElem_toArray, List.getElem_cons_succ, List.getElem_cons_zero, List.setIfInBounds_toArray, List.set_cons_zero, List.set_cons_succ])
    refine wpAnyH_take (i := 3 ) (v := ?_) rfl (by kernel_rfl) (by kernel_rfl) (by kernel_rfl) (fun _ _ _ h => h) (Or.inl ⟨by rfl, ?_⟩) (by assumption) ?_; rotate_left; (· (intro w0 hSw; obtain ⟨s0, s1, s2, s3⟩ := hSw; go_simp); first | done | with_reducible rfl); (try simp only [Act.put, List.getElem_toArray, List.getElem_cons_succ, List.getElem_cons_zero, List.setIfInBounds_toArray, List.set_cons_zero, List.set_cons_succ])
    refine wpAnyH_take (i := 4 ) (v := ?_) rfl (by kernel_rfl) (by kernel_rfl) (by kernel_rfl) (fun _ _ _ h => h) (Or.inl ⟨by rfl, ?_⟩) (by assumption) ?_; rotate_left; (· (intro w0 hSw; obtain ⟨s0, s1, s2, s3⟩ := hSw; go_simp); first | done | with_reducible rfl); (try simp only [Act.put, List.getElem_toArray, List.getElem_cons_succ, List.getElem_cons_zero, List.setIfInBounds_toArray, List.set_cons_zero, List.set_cons_succ])
    refine wpAnyH_take (i := 5 ) (v := ?_) rfl (by kernel_rfl) (by kernel_rfl) (by kernel_rfl) (fun _ _ _ h => h) (Or.inl ⟨by rfl, ?_⟩) (by assumption) ?_; rotate_left; (· (intro w0 hSw; obtain ⟨s0, s1, s2, s3⟩ := hSw; go_simp); first | done | with_reducible rfl); (try simp only [Act.put, List.getElem_toArray, List.getElem_cons_succ, List.getElem_cons_zero, List.setIfInBounds_toArray, List.set_cons_zero, List.set_cons_succ])
    refine wpAnyH_ready (rs := [6, 9]) (by kernel_rfl) (by simp) ?_
    refine AllReadyH.cons (by simp only [List.getElem?_toArray, List.getElem?_cons_succ, List.getElem?_cons_zero]; rfl) (fun K hK => ?_) ?_
    · go_simp
      refine (HT.out _).mono ?_
      rintro e V1 ⟨rfl, hb⟩
      have K0' := Lib.hid (K0.out.below hb K0.out.lt)
      replace K2 := Lib.hid (K2.out.below hb K2.out.lt)
      replace HB := Lib.hid (HB.out.trans (hb.mono HB.out.size))
      refine hK.out _ _ ⟨K0'.out.cell 16, K0'.out.cell 17, K0'.out.cell 24, K0'.out.cell 25⟩ (fun hH1 => ?_)
      clear hb K0
      have K0 := K0'
      clear K0'
      clear hK K
      try simp only [List.setIfInBounds_toArray, List.set_cons_zero, List.set_cons_succ]
      refine wpAnyH_ready (rs := [7, 9]) (by kernel_rfl) (by simp) ?_
      refine AllReadyH.cons (by simp only [List.getElem?_toArray, List.getElem?_cons_succ, List.getElem?_cons_zero]; rfl) (fun K hK => ?_) ?_
      · go_simp
        have hb := (Below.refl V1.heap.size V1).alloc (Nat.le_refl _) (.cells #[.int .i64 a.pitch.lo, .int .i64 a.pitch.hi, .int .i64 nbh, .int .i64 nbl] 99)
        have SL := Lib.hid (Blk.new V1 99 #[.int .i64 a.pitch.lo, .int .i64 a.pitch.hi, .int .i64 nbh, .int .i64 nbl])
        have K0' := Lib.hid (K0.out.below hb K0.out.lt)
        replace K2 := Lib.hid (K2.out.below hb K2.out.lt)
        replace HB := Lib.hid (HB.out.trans (hb.mono HB.out.size))
        refine hK.out _ _ ⟨K0'.out.cell 16, K0'.out.cell 17, K0'.out.cell 24, K0'.out.cell 25⟩ (fun hH2 => ?_)
        clear hb K0
        have K0 := K0'
        clear K0'
        generalize World.alloc V1 _ = V2 at *
        generalize V1.heap.size = g7 at *
        clear hK K
        try simp only [List.setIfInBounds_toArray, List.set_cons_zero, List.set_cons_succ]
        refine wpAnyH_ready (rs := [8, 9]) (by kernel_rfl) (by simp) ?_
        refine AllReadyH.cons (by simp only [List.getElem?_toArray, List.getElem?_cons_succ, List.getElem?_cons_zero]; rfl) (fun K hK => ?_) ?_
        · go_simp
          refine (HU.out _ _ SL.out.lt SL.out).mono ?_
          rintro e V3 ⟨rfl, hb⟩
          have K0' := Lib.hid (K0.out.below hb K0.out.lt)
          replace K2 := Lib.hid (K2.out.below hb K2.out.lt)
          replace HB := Lib.hid (HB.out.trans (hb.mono HB.out.size))
          replace SL := Lib.hid (SL.out.below hb SL.out.lt)
          refine hK.out _ _ ⟨K0'.out.cell 16, K0'.out.cell 17, K0'.out.cell 24, K0'.out.cell 25⟩ (fun hH3 => ?_)
          clear hb K0
          have K0 := K0'
          clear K0'
          clear SL
          clear hK K
          try simp only [List.setIfInBounds_toArray, List.set_cons_zero, List.set_cons_succ]
          refine wpAnyH_ready (rs := [9]) (by kernel_rfl) (by simp) ?_
          refine AllReadyH.cons (by simp only [List.getElem?_toArray, List.getElem?_cons_succ, List.getElem?_cons_zero]; rfl) (fun K hK => ?_) ?_
          · go_simp
            have hb := (Below.refl V3.heap.size V3).alloc (Nat.le_refl _) (.cells #[.int .i64 0, .int .i64 0] 99)
            have hq9 := K2.out.lt
            have hq0 := K0.out.lt
            have A9 := Lib.hid (Blk.new V3 99 #[.int .i64 0, .int .i64 0])
            have K0' := Lib.hid (K0.out.below hb K0.out.lt)
            replace K2 := Lib.hid (K2.out.below hb K2.out.lt)
            replace HB := Lib.hid (HB.out.trans (hb.mono HB.out.size))
            refine hK.out _ _ ⟨K0'.out.cell 16, K0'.out.cell 17, K0'.out.cell 24, K0'.out.cell 25⟩ (fun hH4 => ?_)
            clear hb K0
            have K0 := K0'
            clear K0'
            generalize World.alloc V3 _ = V4 at *
            generalize V3.heap.size = q9 at *
            clear hK K
            try simp only [List.setIfInBounds_toArray, List.set_cons_zero, List.set_cons_succ]
            refine wpAnyH_ready (rs := [10]) (by kernel_rfl) (by simp) ?_
            refine AllReadyH.cons rfl (fun K hK => ?_) AllReadyH.nil
            have y0 := A9.out.cell 0
            have y1 := A9.out.cell 1
            have z0 := A9.out.frozen 0
            have z1 := A9.out.frozen 1
            go_simp
            have K0' := Lib.hid ((K0.out.far (p := ⟨q9, 0, none⟩) (by simp only []; omega) (.int .i64 slo)).far (p := ⟨q9, 1, none⟩) (by simp only []; omega) (.int .i64 shi))
            replace K2 := Lib.hid ((K2.out.far (p := ⟨q9, 0, none⟩) (by simp only []; omega) (.int .i64 slo)).far (p := ⟨q9, 1, none⟩) (by simp only []; omega) (.int .i64 shi))
            replace A9 := Lib.hid ((A9.out.set_ 0 (.int .i64 slo)).set_ 1 (.int .i64 shi))
            replace HB := Lib.hid ((HB.out.setCell (p := ⟨q9, 0, none⟩) (by simp only []; omega) (.int .i64 slo)).setCell (p := ⟨q9, 1, none⟩) (by simp only []; omega) (.int .i64 shi))
            refine hK.out _ _ ⟨K0'.out.cell 16, K0'.out.cell 17, K0'.out.cell 24, K0'.out.cell 25⟩ (fun hHz => ?_)
            clear hK K y0 y1 z0 z1 K0
            have K0 := K0'
            clear K0'
            try simp only [List.setIfInBounds_toArray, List.set_cons_zero, List.set_cons_succ]
            refine wpAnyH_done (by kernel_rfl) ?_ _
            go_wp2_with fail
            go_meet
            exact ⟨q9, rfl, K0, K2, A9, HB, by omega, by omega⟩
          exact AllReadyH.nil
        refine AllReadyH.cons (by simp only [List.getElem?_toArray, List.getElem?_cons_succ, List.getElem?_cons_zero]; rfl) (fun K hK => ?_) ?_
        · go_simp
          have hb := (Below.refl V2.heap.size V2).alloc (Nat.le_refl _) (.cells #[.int .i64 0, .int .i64 0] 99)
          have hq9 := K2.out.lt
          have hq0 := K0.out.lt
          have A9 := Lib.hid (Blk.new V2 99 #[.int .i64 0, .int .i64 0])
          have K0' := Lib.hid (K0.out.below hb K0.out.lt)
          replace K2 := Lib.hid (K2.out.below hb K2.out.lt)
          replace HB := Lib.hid (HB.out.trans (hb.mono HB.out.size))
          replace SL := Lib.hid (SL.out.below hb SL.out.lt)
          refine hK.out _ _ ⟨K0'.out.cell 16, K0'.out.cell 17, K0'.out.cell 24, K0'.out.cell 25⟩ (fun hH3 => ?_)
          clear hb K0
          have K0 := K0'
          clear K0'
          generalize World.alloc V2 _ = V3 at *
          generalize V2.heap.size = q9 at *
          clear hK K
          try simp only [List.setIfInBounds_toArray, List.set_cons_zero, List.set_cons_succ]
          refine wpAnyH_ready (rs := [8]) (by kernel_rfl) (by simp) ?_
          refine AllReadyH.cons (by simp only [List.getElem?_toArray, List.getElem?_cons_succ, List.getElem?_cons_zero]; rfl) (fun K hK => ?_) ?_
          · go_simp
            refine (HU.out _ _ SL.out.lt SL.out).mono ?_
            rintro e V4 ⟨rfl, hb⟩
            have K0' := Lib.hid (K0.out.below hb K0.out.lt)
            replace K2 := Lib.hid (K2.out.below hb K2.out.lt)
            replace HB := Lib.hid (HB.out.trans (hb.mono HB.out.size))
            replace SL := Lib.hid (SL.out.below hb SL.out.lt)
            replace A9 := Lib.hid (A9.out.below hb A9.out.lt)
            refine hK.out _ _ ⟨K0'.out.cell 16, K0'.out.cell 17, K0'.out.cell 24, K0'.out.cell 25⟩ (fun hH4 => ?_)
            clear hb K0
            have K0 := K0'
            clear K0'
            clear SL
            clear hK K
            try simp only [List.setIfInBounds_toArray, List.set_cons_zero, List.set_cons_succ]
            refine wpAnyH_ready (rs := [10]) (by kernel_rfl) (by simp) ?_
            refine AllReadyH.cons rfl (fun K hK => ?_) AllReadyH.nil
            have y0 := A9.out.cell 0
            have y1 := A9.out.cell 1
            have z0 := A9.out.frozen 0
            have z1 := A9.out.frozen 1
            go_simp
            have K0' := Lib.hid ((K0.out.far (p := ⟨q9, 0, none⟩) (by simp only []; omega) (.int .i64 slo)).far (p := ⟨q9, 1, none⟩) (by simp only []; omega) (.int .i64 shi))
            replace K2 := Lib.hid ((K2.out.far (p := ⟨q9, 0, none⟩) (by simp only []; omega) (.int .i64 slo)).far (p := ⟨q9, 1, none⟩) (by simp only []; omega) (.int .i64 shi))
            replace A9 := Lib.hid ((A9.out.set_ 0 (.int .i64 slo)).set_ 1 (.int .i64 shi))
            replace HB := Lib.hid ((HB.out.setCell (p := ⟨q9, 0, none⟩) (by simp only []; omega) (.int .i64 slo)).setCell (p := ⟨q9, 1, none⟩) (by simp only []; omega) (.int .i64 shi))
            refine hK.out _ _ ⟨K0'.out.cell 16, K0'.out.cell 17, K0'.out.cell 24, K0'.out.cell 25⟩ (fun hHz => ?_)
            clear hK K y0 y1 z0 z1 K0
            have K0 := K0'
            clear K0'
            try simp only [List.setIfInBounds_toArray, List.set_cons_zero, List.set_cons_succ]
            refine wpAnyH_done (by kernel_rfl) ?_ _
            go_wp2_with fail
            go_meet
            exact ⟨q9, rfl, K0, K2, A9, HB, by omega, by omega⟩
          exact AllReadyH.nil
        exact AllReadyH.nil
      refine AllReadyH.cons (by simp only [List.getElem?_toArray, List.getElem?_cons_succ, List.getElem?_cons_zero]; rfl) (fun K hK => ?_) ?_
      · go_simp
        have hb := (Below.refl V1.heap.size V1).alloc (Nat.le_refl _) (.cells #[.int .i64 0, .int .i64 0] 99)
        have hq9 := K2.out.lt
        have hq0 := K0.out.lt
        have A9 := Lib.hid (Blk.new V1 99 #[.int .i64 0, .int .i64 0])
        have K0' := Lib.hid (K0.out.below hb K0.out.lt)
        replace K2 := Lib.hid (K2.out.below hb K2.out.lt)
        replace HB := Lib.hid (HB.out.trans (hb.mono HB.out.size))
        refine hK.out _ _ ⟨K0'.out.cell 16, K0'.out.cell 17, K0'.out.cell 24, K0'.out.cell 25⟩ (fun hH2 => ?_)
        clear hb K0
        have K0 := K0'
        clear K0'
        generalize World.alloc V1 _ = V2 at *
        generalize V1.heap.size = q9 at *
        clear hK K
        try simp only [List.setIfInBounds_toArray, List.set_cons_zero, List.set_cons_succ]
        refine wpAnyH_ready (rs := [7]) (by kernel_rfl) (by simp) ?_
        refine AllReadyH.cons (by simp only [List.getElem?_toArray, List.getElem?_cons_succ, List.getElem?_cons_zero]; rfl) (fun K hK => ?_) ?_
        · go_simp
          have hb := (Below.refl V2.heap.size V2).alloc (Nat.le_refl _) (.cells #[.int .i64 a.pitch.lo, .int .i64 a.pitch.hi, .int .i64 nbh, .int .i64 nbl] 99)
          have SL := Lib.hid (Blk.new V2 99 #[.int .i64 a.pitch.lo, .int .i64 a.pitch.hi, .int .i64 nbh, .int .i64 nbl])
          have K0' := Lib.hid (K0.out.below hb K0.out.lt)
          replace K2 := Lib.hid (K2.out.below hb K2.out.lt)
          replace HB := Lib.hid (HB.out.trans (hb.mono HB.out.size))
          replace A9 := Lib.hid (A9.out.below hb A9.out.lt)
          refine hK.out _ _ ⟨K0'.out.cell 16, K0'.out.cell 17, K0'.out.cell 24, K0'.out.cell 25⟩ (fun hH3 => ?_)
          clear hb K0
          have K0 := K0'
          clear K0'
          generalize World.alloc V2 _ = V3 at *
          generalize V2.heap.size = g7 at *
          clear hK K
          try simp only [List.setIfInBounds_toArray, List.set_cons_zero, List.set_cons_succ]
          refine wpAnyH_ready (rs := [8]) (by kernel_rfl) (by simp) ?_
          refine AllReadyH.cons (by simp only [List.getElem?_toArray, List.getElem?_cons_succ, List.getElem?_cons_zero]; rfl) (fun K hK => ?_) ?_
          · go_simp
            refine (HU.out _ _ SL.out.lt SL.out).mono ?_
            rintro e V4 ⟨rfl, hb⟩
            have K0' := Lib.hid (K0.out.below hb K0.out.lt)
            replace K2 := Lib.hid (K2.out.below hb K2.out.lt)
            replace HB := Lib.hid (HB.out.trans (hb.mono HB.out.size))
            replace SL := Lib.hid (SL.out.below hb SL.out.lt)
            replace A9 := Lib.hid (A9.out.below hb A9.out.lt)
            refine hK.out _ _ ⟨K0'.out.cell 16, K0'.out.cell 17, K0'.out.cell 24, K0'.out.cell 25⟩ (fun hH4 => ?_)
            clear hb K0
            have K0 := K0'
            clear K0'
            clear SL
            clear hK K
            try simp only [List.setIfInBounds_toArray, List.set_cons_zero, List.set_cons_succ]
            refine wpAnyH_ready (rs := [10]) (by kernel_rfl) (by simp) ?_
            refine AllReadyH.cons rfl (fun K hK => ?_) AllReadyH.nil
            have y0 := A9.out.cell 0
            have y1 := A9.out.cell 1
            have z0 := A9.out.frozen 0
            have z1 := A9.out.frozen 1
            go_simp
            have K0' := Lib.hid ((K0.out.far (p := ⟨q9, 0, none⟩) (by simp only []; omega) (.int .i64 slo)).far (p := ⟨q9, 1, none⟩) (by simp only []; omega) (.int .i64 shi))
            replace K2 := Lib.hid ((K2.out.far (p := ⟨q9, 0, none⟩) (by simp only []; omega) (.int .i64 slo)).far (p := ⟨q9, 1, none⟩) (by simp only []; omega) (.int .i64 shi))
            replace A9 := Lib.hid ((A9.out.set_ 0 (.int .i64 slo)).set_ 1 (.int .i64 shi))
            replace HB := Lib.hid ((HB.out.setCell (p := ⟨q9, 0, none⟩) (by simp only []; omega) (.int .i64 slo)).setCell (p := ⟨q9, 1, none⟩) (by simp only []; omega) (.int .i64 shi))
            refine hK.out _ _ ⟨K0'.out.cell 16, K0'.out.cell 17, K0'.out.cell 24, K0'.out.cell 25⟩ (fun hHz => ?_)
            clear hK K y0 y1 z0 z1 K0
            have K0 := K0'
            clear K0'
            try simp only [List.setIfInBounds_toArray, List.set_cons_zero, List.set_cons_succ]
            refine wpAnyH_done (by kernel_rfl) ?_ _
            go_wp2_with fail
            go_meet
            exact ⟨q9, rfl, K0, K2, A9, HB, by omega, by omega⟩
          exact AllReadyH.nil
        exact AllReadyH.nil
      exact AllReadyH.nil
    refine AllReadyH.cons (by simp only [List.getElem?_toArray, List.getElem?_cons_succ, List.getElem?_cons_zero]; rfl) (fun K hK => ?_) ?_
    · go_simp
      have hb := (Below.refl V0.heap.size V0).alloc (Nat.le_refl _) (.cells #[.int .i64 0, .int .i64 0] 99)
      have hq9 := K2.out.lt
      have hq0 := K0.out.lt
      have A9 := Lib.hid (Blk.new V0 99 #[.int .i64 0, .int .i64 0])
      have K0' := Lib.hid (K0.out.below hb K0.out.lt)
      replace K2 := Lib.hid (K2.out.below hb K2.out.lt)
      replace HB := Lib.hid (HB.out.trans (hb.mono HB.out.size))
      refine hK.out _ _ ⟨K0'.out.cell 16, K0'.out.cell 17, K0'.out.cell 24, K0'.out.cell 25⟩ (fun hH1 => ?_)
      clear hb K0
      have K0 := K0'
      clear K0'
      generalize World.alloc V0 _ = V1 at *
      generalize V0.heap.size = q9 at *
      clear hK K
      try simp only [List.setIfInBounds_toArray, List.set_cons_zero, List.set_cons_succ]
      refine wpAnyH_ready (rs := [6]) (by kernel_rfl) (by simp) ?_
      refine AllReadyH.cons (by simp only [List.getElem?_toArray, List.getElem?_cons_succ, List.getElem?_cons_zero]; rfl) (fun K hK => ?_) ?_
      · go_simp
        refine (HT.out _).mono ?_
        rintro e V2 ⟨rfl, hb⟩
        have K0' := Lib.hid (K0.out.below hb K0.out.lt)
        replace K2 := Lib.hid (K2.out.below hb K2.out.lt)
        replace HB := Lib.hid (HB.out.trans (hb.mono HB.out.size))
        replace A9 := Lib.hid (A9.out.below hb A9.out.lt)
        refine hK.out _ _ ⟨K0'.out.cell 16, K0'.out.cell 17, K0'.out.cell 24, K0'.out.cell 25⟩ (fun hH2 => ?_)
        clear hb K0
        have K0 := K0'
        clear K0'
        clear hK K
        try simp only [List.setIfInBounds_toArray, List.set_cons_zero, List.set_cons_succ]
        refine wpAnyH_ready (rs := [7]) (by kernel_rfl) (by simp) ?_
        refine AllReadyH.cons (by simp only [List.getElem?_toArray, List.getElem?_cons_succ, List.getElem?_cons_zero]; rfl) (fun K hK => ?_) ?_
        · go_simp
          have hb := (Below.refl V2.heap.size V2).alloc (Nat.le_refl _) (.cells #[.int .i64 a.pitch.lo, .int .i64 a.pitch.hi, .int .i64 nbh, .int .i64 nbl] 99)
          have SL := Lib.hid (Blk.new V2 99 #[.int .i64 a.pitch.lo, .int .i64 a.pitch.hi, .int .i64 nbh, .int .i64 nbl])
          have K0' := Lib.hid (K0.out.below hb K0.out.lt)
          replace K2 := Lib.hid (K2.out.below hb K2.out.lt)
          replace HB := Lib.hid (HB.out.trans (hb.mono HB.out.size))
          replace A9 := Lib.hid (A9.out.below hb A9.out.lt)
          refine hK.out _ _ ⟨K0'.out.cell 16, K0'.out.cell 17, K0'.out.cell 24, K0'.out.cell 25⟩ (fun hH3 => ?_)
          clear hb K0
          have K0 := K0'
          clear K0'
          generalize World.alloc V2 _ = V3 at *
          generalize V2.heap.size = g7 at *
          clear hK K
          try simp only [List.setIfInBounds_toArray, List.set_cons_zero, List.set_cons_succ]
          refine wpAnyH_ready (rs := [8]) (by kernel_rfl) (by simp) ?_
          refine AllReadyH.cons (by simp only [List.getElem?_toArray, List.getElem?_cons_succ, List.getElem?_cons_zero]; rfl) (fun K hK => ?_) ?_
          · go_simp
            refine (HU.out _ _ SL.out.lt SL.out).mono ?_
            rintro e V4 ⟨rfl, hb⟩
            have K0' := Lib.hid (K0.out.below hb K0.out.lt)
            replace K2 := Lib.hid (K2.out.below hb K2.out.lt)
            replace HB := Lib.hid (HB.out.trans (hb.mono HB.out.size))
            replace SL := Lib.hid (SL.out.below hb SL.out.lt)
            replace A9 := Lib.hid (A9.out.below hb A9.out.lt)
            refine hK.out _ _ ⟨K0'.out.cell 16, K0'.out.cell 17, K0'.out.cell 24, K0'.out.cell 25⟩ (fun hH4 => ?_)
            clear hb K0
            have K0 := K0'
            clear K0'
            clear SL
            clear hK K
            try simp only [List.setIfInBounds_toArray, List.set_cons_zero, List.set_cons_succ]
            refine wpAnyH_ready (rs := [10]) (by kernel_rfl) (by simp) ?_
            refine AllReadyH.cons rfl (fun K hK => ?_) AllReadyH.nil
            have y0 := A9.out.cell 0
            have y1 := A9.out.cell 1
            have z0 := A9.out.frozen 0
            have z1 := A9.out.frozen 1
            go_simp
            have K0' := Lib.hid ((K0.out.far (p := ⟨q9, 0, none⟩) (by simp only []; omega) (.int .i64 slo)).far (p := ⟨q9, 1, none⟩) (by simp only []; omega) (.int .i64 shi))
            replace K2 := Lib.hid ((K2.out.far (p := ⟨q9, 0, none⟩) (by simp only []; omega) (.int .i64 slo)).far (p := ⟨q9, 1, none⟩) (by simp only []; omega) (.int .i64 shi))
            replace A9 := Lib.hid ((A9.out.set_ 0 (.int .i64 slo)).set_ 1 (.int .i64 shi))
            replace HB := Lib.hid ((HB.out.setCell (p := ⟨q9, 0, none⟩) (by simp only []; omega) (.int .i64 slo)).setCell (p := ⟨q9, 1, none⟩) (by simp only []; omega) (.int .i64 shi))
            refine hK.out _ _ ⟨K0'.out.cell 16, K0'.out.cell 17, K0'.out.cell 24, K0'.out.cell 25⟩ (fun hHz => ?_)
            clear hK K y0 y1 z0 z1 K0
            have K0 := K0'
            clear K0'
            try simp only [List.setIfInBounds_toArray, List.set_cons_zero, List.set_cons_succ]
            refine wpAnyH_done (by kernel_rfl) ?_ _
            go_wp2_with fail
            go_meet
            exact ⟨q9, rfl, K0, K2, A9, HB, by omega, by omega⟩
          exact AllReadyH.nil
        exact AllReadyH.nil
      exact AllReadyH.nil
    exact AllReadyH.nil
  case rest =>
    obtain ⟨q9, rfl, K0, K2, A9, HB, hq0, hq2⟩ := hcut
    have wg' : IntKind.i64.wrap (j.grooves - 1) = gm := by rw [HGM.out]; exact wg
    clear wg HGM hb0 hk0 hk2 HT HU
    go_wp2_with fail
    replace K0 := Lib.hid K0.out.drew
    replace K2 := Lib.hid K2.out.drew
    replace A9 := Lib.hid A9.out.drew
    replace HB := Lib.hid HB.out.drew
    refine wp_region_held_drew (S := fun W => Blk W w.heap.size 95 #[.int .i64 j.glue.lo, .int .i64 j.glue.hi, .int .i64 j.lead.lo, .int .i64 j.lead.hi, .int .i64 j.side.lo, .int .i64 j.side.hi, .int .i64 j.height.lo, .int .i64 j.height.hi, .int .i64 j.play, .int .i64 j.grooves, .int .i64 a.thick.lo, .int .i64 a.thick.hi, .int .i64 a.depth.lo, .int .i64 a.depth.hi, .int .i64 a.shift.lo, .int .i64 a.shift.hi, .int .i64 a.pitch.lo, .int .i64 a.pitch.hi, .int .i64 b.thick.lo, .int .i64 b.thick.hi, .int .i64 b.depth.lo, .int .i64 b.depth.hi, .int .i64 b.shift.lo, .int .i64 b.shift.hi, .int .i64 b.pitch.lo, .int .i64 b.pitch.hi] ∧ Blk W q9 99 #[.int .i64 slo, .int .i64 shi]) (by kernel_rfl) ⟨K0.out, A9.out⟩ (fun hH0 => ?_)
    generalize World.drew _ = V0 at *
    simp only [List.size_toArray, List.length_cons, List.length_nil, Nat.reduceAdd, Array.replicate_succ, Array.replicate_zero, List.push_toArray, List.nil_append, List.cons_append]
    refine wpAnyH_take (i := 0) (v := _) rfl (by kernel_rfl) (by kernel_rfl) (by kernel_rfl) (fun _ _ _ h => h) (yieldsIf_load_mid (by rfl) _ _ rfl _ _ rfl [.int .i64 j.glue.lo, .int .i64 j.glue.hi, .int .i64 j.lead.lo, .int .i64 j.lead.hi, .int .i64 j.side.lo, .int .i64 j.side.hi, .int .i64 j.height.lo, .int .i64 j.height.hi, .int .i64 j.play, .int .i64 j.grooves, .int .i64 a.thick.lo, .int .i64 a.thick.hi, .int .i64 a.depth.lo, .int .i64 a.depth.hi, .int .i64 a.shift.lo, .int .i64 a.shift.hi, .int .i64 a.pitch.lo, .int .i64 a.pitch.hi, .int .i64 b.thick.lo, .int .i64 b.thick.hi, .int .i64 b.depth.lo, .int .i64 b.depth.hi, .int .i64 b.shift.lo, .int .i64 b.shift.hi, .int .i64 b.pitch.lo, .int .i64 b.pitch.hi] _ (fun w0 h0 => h0.1.range) (by rfl) (by rfl) (by kernel_rfl)) (by assumption) ?_
    (try simp only [Act.put, List.getElem_toArray, List.getElem_cons_zero, List.setIfInBounds_toArray, List.set_cons_zero, List.set_cons_succ])
    refine wpAnyH_take (i := 2) (v := _) rfl (by kernel_rfl) (by kernel_rfl) (by kernel_rfl) (fun _ _ _ h => h) (yieldsIf_load_mid (by rfl) _ _ rfl _ _ rfl [.int .i64 j.glue.lo, .int .i64 j.glue.hi, .int .i64 j.lead.lo, .int .i64 j.lead.hi, .int .i64 j.side.lo, .int .i64 j.side.hi, .int .i64 j.height.lo, .int .i64 j.height.hi, .int .i64 j.play, .int .i64 j.grooves, .int .i64 a.thick.lo, .int .i64 a.thick.hi, .int .i64 a.depth.lo, .int .i64 a.depth.hi, .int .i64 a.shift.lo, .int .i64 a.shift.hi, .int .i64 a.pitch.lo, .int .i64 a.pitch.hi, .int .i64 b.thick.lo, .int .i64 b.thick.hi, .int .i64 b.depth.lo, .int .i64 b.depth.hi, .int .i64 b.shift.lo, .int .i64 b.shift.hi, .int .i64 b.pitch.lo, .int .i64 b.pitch.hi] _ (fun w0 h0 => h0.1.range) (by rfl) (by rfl) (by kernel_rfl)) (by assumption) ?_
    (try simp only [Act.put, List.getElem_toArray, List.getElem_cons_succ, List.getElem_cons_zero, List.setIfInBounds_toArray, List.set_cons_zero, List.set_cons_succ])
    refine wpAnyH_take (i := 5 ) (v := ?_) rfl (by kernel_rfl) (by kernel_rfl) (by kernel_rfl) (fun _ _ _ h => h) (Or.inl ⟨by rfl, ?_⟩) (by assumption) ?_; rotate_left; (· (intro w0 hSw; obtain ⟨k0, k9⟩ := hSw; have s9 := k0.cell 9; have t0 := k9.cell 0; have t1 := k9.cell 1; clear k0 k9; go_simp); first | done | with_reducible rfl); (try simp only [Act.put, List.getElem_toArray, List.getElem_cons_succ, List.getElem_cons_zero, List.setIfInBounds_toArray, List.set_cons_zero, List.set_cons_succ])
    refine wpAnyH_take (i := 6 ) (v := ?_) rfl (by kernel_rfl) (by kernel_rfl) (by kernel_rfl) (fun _ _ _ h => h) (Or.inl ⟨by rfl, ?_⟩) (by assumption) ?_; rotate_left; (· (intro w0 hSw; obtain ⟨k0, k9⟩ := hSw; have s9 := k0.cell 9; have t0 := k9.cell 0; have t1 := k9.cell 1; clear k0 k9; go_simp); first | done | with_reducible rfl); (try simp only [Act.put, List.getElem_toArray, List.getElem_cons_succ, List.getElem_cons_zero, List.setIfInBounds_toArray, List.set_cons_zero, List.set_cons_succ])
    refine wpAnyH_take (i := 7 ) (v := ?_) rfl (by kernel_rfl) (by kernel_rfl) (by kernel_rfl) (fun _ _ _ h => h) (Or.inl ⟨by rfl, ?_⟩) (by assumption) ?_; rotate_left; (· (intro w0 hSw; obtain ⟨k0, k9⟩ := hSw; have s9 := k0.cell 9; have t0 := k9.cell 0; have t1 := k9.cell 1; clear k0 k9; go_simp); first | done | with_reducible rfl); (try simp only [Act.put, List.getElem_toArray, List.getElem_cons_succ, List.getElem_cons_zero, List.setIfInBounds_toArray, List.set_cons_zero, List.set_cons_succ])
    refine wpAnyH_take (i := 8 ) (v := ?_) rfl (by kernel_rfl) (by kernel_rfl) (by kernel_rfl) (fun _ _ _ h => h) (Or.inl ⟨by rfl, ?_⟩) (by assumption) ?_; rotate_left; (· (intro w0 hSw; obtain ⟨k0, k9⟩ := hSw; have s9 := k0.cell 9; have t0 := k9.cell 0; have t1 := k9.cell 1; clear k0 k9; go_simp); first | done | with_reducible rfl); (try simp only [Act.put, List.getElem_toArray, List.getElem_cons_succ, List.getElem_cons_zero, List.setIfInBounds_toArray, List.set_cons_zero, List.set_cons_succ])
    refine wpAnyH_take (i := 9 ) (v := ?_) rfl (by kernel_rfl) (by kernel_rfl) (by kernel_rfl) (fun _ _ _ h => h) (Or.inl ⟨by rfl, ?_⟩) (by assumption) ?_; rotate_left; (· (intro w0 hSw; obtain ⟨k0, k9⟩ := hSw; have s9 := k0.cell 9; have t0 := k9.cell 0; have t1 := k9.cell 1; clear k0 k9; go_simp); first | done | with_reducible rfl); (try simp only [Act.put, List.getElem_toArray, List.getElem_cons_succ, List.getElem_cons_zero, List.setIfInBounds_toArray, List.set_cons_zero, List.set_cons_succ])
    refine wpAnyH_ready (rs := [1]) (by kernel_rfl) (by simp) ?_
    refine AllReadyH.cons (by simp only [List.getElem?_toArray, List.getElem?_cons_succ, List.getElem?_cons_zero]; rfl) (fun K hK => ?_) AllReadyH.nil
    go_simp
    refine (HF.out _).mono ?_
    rintro e V1 ⟨rfl, hb⟩
    replace K0 := Lib.hid (K0.out.below hb K0.out.lt)
    replace K2 := Lib.hid (K2.out.below hb K2.out.lt)
    replace A9 := Lib.hid (A9.out.below hb A9.out.lt)
    replace HB := Lib.hid (HB.out.trans (hb.mono HB.out.size))
    clear hb
    refine hK.out _ _ ⟨K0.out, A9.out⟩ (fun hH1 => ?_)
    clear hK K
    try simp only [List.setIfInBounds_toArray, List.set_cons_zero, List.set_cons_succ]
    refine wpAnyH_ready (rs := [3]) (by kernel_rfl) (by simp) ?_
    refine AllReadyH.cons (by simp only [List.getElem?_toArray, List.getElem?_cons_succ, List.getElem?_cons_zero]; rfl) (fun K hK => ?_) AllReadyH.nil
    go_simp
    refine (HP.out _).mono ?_
    rintro e V2 ⟨rfl, hb⟩
    replace K0 := Lib.hid (K0.out.below hb K0.out.lt)
    replace K2 := Lib.hid (K2.out.below hb K2.out.lt)
    replace A9 := Lib.hid (A9.out.below hb A9.out.lt)
    replace HB := Lib.hid (HB.out.trans (hb.mono HB.out.size))
    clear hb
    refine hK.out _ _ ⟨K0.out, A9.out⟩ (fun hH2 => ?_)
    clear hK K
    try simp only [List.setIfInBounds_toArray, List.set_cons_zero, List.set_cons_succ]
    refine wpAnyH_ready (rs := [4]) (by kernel_rfl) (by simp) ?_
    refine AllReadyH.cons (by simp only [List.getElem?_toArray, List.getElem?_cons_succ, List.getElem?_cons_zero]; rfl) (fun K hK => ?_) AllReadyH.nil
    go_simp
    refine (HC.out _).mono ?_
    rintro e V3 ⟨rfl, hb⟩
    replace K0 := Lib.hid (K0.out.below hb K0.out.lt)
    replace K2 := Lib.hid (K2.out.below hb K2.out.lt)
    replace A9 := Lib.hid (A9.out.below hb A9.out.lt)
    replace HB := Lib.hid (HB.out.trans (hb.mono HB.out.size))
    clear hb
    refine hK.out _ _ ⟨K0.out, A9.out⟩ (fun hH3 => ?_)
    clear hK K
    try simp only [List.setIfInBounds_toArray, List.set_cons_zero, List.set_cons_succ]
    refine wpAnyH_ready (rs := [10]) (by kernel_rfl) (by simp) ?_
    refine AllReadyH.cons (by simp only [List.getElem?_toArray, List.getElem?_cons_succ, List.getElem?_cons_zero]; rfl) (fun K hK => ?_) AllReadyH.nil
    go_simp
    refine (HT2.out _).mono ?_
    rintro e V4 ⟨rfl, hb⟩
    replace K0 := Lib.hid (K0.out.below hb K0.out.lt)
    replace K2 := Lib.hid (K2.out.below hb K2.out.lt)
    replace A9 := Lib.hid (A9.out.below hb A9.out.lt)
    replace HB := Lib.hid (HB.out.trans (hb.mono HB.out.size))
    clear hb
    refine hK.out _ _ ⟨K0.out, A9.out⟩ (fun hH4 => ?_)
    clear hK K
    try simp only [List.setIfInBounds_toArray, List.set_cons_zero, List.set_cons_succ]
    refine wpAnyH_ready (rs := [11]) (by kernel_rfl) (by simp) ?_
    refine AllReadyH.cons (by simp only [List.getElem?_toArray, List.getElem?_cons_succ, List.getElem?_cons_zero]; rfl) (fun K hK => ?_) AllReadyH.nil
    go_simp
    have hb := (Below.refl V4.heap.size V4).alloc (Nat.le_refl _) (.cells #[.int .i64 cut.lo, .int .i64 cut.hi, .int .i64 tlo, .int .i64 thi] 99)
    replace K0 := Lib.hid (K0.out.below hb K0.out.lt)
    replace K2 := Lib.hid (K2.out.below hb K2.out.lt)
    replace A9 := Lib.hid (A9.out.below hb A9.out.lt)
    replace HB := Lib.hid (HB.out.trans (hb.mono HB.out.size))
    clear hb
    refine hK.out _ _ ⟨K0.out, A9.out⟩ (fun hH5 => ?_)
    clear hK K
    try simp only [List.setIfInBounds_toArray, List.set_cons_zero, List.set_cons_succ]
    refine wpAnyH_ready (rs := [12]) (by kernel_rfl) (by simp) ?_
    refine AllReadyH.cons (by simp only [List.getElem?_toArray, List.getElem?_cons_succ, List.getElem?_cons_zero]; rfl) (fun K hK => ?_) AllReadyH.nil
    go_simp
    refine (HU2.out _).mono ?_
    rintro e V6 ⟨rfl, hb⟩
    replace K0 := Lib.hid (K0.out.below hb K0.out.lt)
    replace K2 := Lib.hid (K2.out.below hb K2.out.lt)
    replace A9 := Lib.hid (A9.out.below hb A9.out.lt)
    replace HB := Lib.hid (HB.out.trans (hb.mono HB.out.size))
    clear hb
    refine hK.out _ _ ⟨K0.out, A9.out⟩ (fun hH6 => ?_)
    clear hK K
    try simp only [List.setIfInBounds_toArray, List.set_cons_zero, List.set_cons_succ]
    refine wpAnyH_ready (rs := [13]) (by kernel_rfl) (by simp) ?_
    refine AllReadyH.cons (by simp only [List.getElem?_toArray, List.getElem?_cons_succ, List.getElem?_cons_zero]; rfl) (fun K hK => ?_) AllReadyH.nil
    have y0 := K2.out.cell 0
    have y1 := K2.out.cell 1
    have z0 := K2.out.frozen 0
    have z1 := K2.out.frozen 1
    go_simp
    replace K0 := Lib.hid ((K0.out.far (p := ⟨w.heap.size + 1, 0, none⟩) (by simp only []; omega) (.int .i64 lst.lo)).far (p := ⟨w.heap.size + 1, 1, none⟩) (by simp only []; omega) (.int .i64 lst.hi))
    replace A9 := Lib.hid ((A9.out.far (p := ⟨w.heap.size + 1, 0, none⟩) (by simp only []; omega) (.int .i64 lst.lo)).far (p := ⟨w.heap.size + 1, 1, none⟩) (by simp only []; omega) (.int .i64 lst.hi))
    replace K2 := Lib.hid ((K2.out.set_ 0 (.int .i64 lst.lo)).set_ 1 (.int .i64 lst.hi))
    replace HB := Lib.hid ((HB.out.setCell (p := ⟨w.heap.size + 1, 0, none⟩) (by simp only []; omega) (.int .i64 lst.lo)).setCell (p := ⟨w.heap.size + 1, 1, none⟩) (by simp only []; omega) (.int .i64 lst.hi))
    clear y0 y1 z0 z1
    refine hK.out _ _ ⟨K0.out, A9.out⟩ (fun hH7 => ?_)
    clear hK K
    try simp only [List.setIfInBounds_toArray, List.set_cons_zero, List.set_cons_succ]
    refine wpAnyH_done (by kernel_rfl) ?_ _
    go_wp2_with fail
    exact bodyPost_ret (results_blk rfl _ rfl K2.out (by kernel_rfl) (by kernel_rfl)) rfl ⟨rfl, HB.out⟩
end Go.Proofs.Ytfpfafijockfnaa
