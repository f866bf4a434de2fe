/- Walks: the conditions of a sandwich, and whether it closes. -/
import Derived.Test.YtfpfafijockfnaaSl
namespace Go.Proofs.Ytfpfafijockfnaa
open Go.RowKit Go.Shelf

def RetCond (j : Jig) (w : World) (e : Ending) (w' : World) : Prop := ∃ g, w.heap.size ≤ g ∧ e = .returned (.slice (some ⟨g, 0, none⟩) 3 3) ∧ Blk w' g 142 #[.func (.func 94) #[] #[], .int .i64 0, .int .i64 9223372036854775807, .func (.func 95) #[] #[], .int .i64 (playS j).lo, .int .i64 (playS j).hi, .func (.func 97) #[] #[], .int .i64 (playS j).lo, .int .i64 (playS j).hi] ∧ Below w.heap.size w w'
set_option maxRecDepth 100000 in
set_option maxHeartbeats 2000000 in
theorem conds_any (j : Jig) (a b : Slat) (w : World) (hj : JigIn j) : Calls Try.prog 75 #[.agg #[.int .i64 j.glue.lo, .int .i64 j.glue.hi, .int .i64 j.lead.lo, .int .i64 j.lead.hi, .int .i64 j.side.lo, .int .i64 j.side.hi, .int .i64 j.height.lo, .int .i64 j.height.hi, .int .i64 j.play, .int .i64 j.grooves, .int .i64 a.thick.lo, .int .i64 a.thick.hi, .int .i64 a.depth.lo, .int .i64 a.depth.hi, .int .i64 a.shift.lo, .int .i64 a.shift.hi, .int .i64 a.pitch.lo, .int .i64 a.pitch.hi, .int .i64 b.thick.lo, .int .i64 b.thick.hi, .int .i64 b.depth.lo, .int .i64 b.depth.hi, .int .i64 b.shift.lo, .int .i64 b.shift.hi, .int .i64 b.pitch.lo, .int .i64 b.pitch.hi]] w (RetCond j w) := by
  have HP : Hid (∀ W : World, Calls Try.prog 96 #[.agg #[.int .i64 j.glue.lo, .int .i64 j.glue.hi, .int .i64 j.lead.lo, .int .i64 j.lead.hi, .int .i64 j.side.lo, .int .i64 j.side.hi, .int .i64 j.height.lo, .int .i64 j.height.hi, .int .i64 j.play, .int .i64 j.grooves, .int .i64 a.thick.lo, .int .i64 a.thick.hi, .int .i64 a.depth.lo, .int .i64 a.depth.hi, .int .i64 a.shift.lo, .int .i64 a.shift.hi, .int .i64 a.pitch.lo, .int .i64 a.pitch.hi, .int .i64 b.thick.lo, .int .i64 b.thick.hi, .int .i64 b.depth.lo, .int .i64 b.depth.hi, .int .i64 b.shift.lo, .int .i64 b.shift.hi, .int .i64 b.pitch.lo, .int .i64 b.pitch.hi]] W (Ret (.agg #[.int .i64 (playS j).lo, .int .i64 (playS j).hi]) W)) := Lib.hid fun W => play5_any j a b W ⟨hj.p0, hj.p1⟩
  have K0 := Lib.hid (Blk.new w 95 #[.int .i64 j.glue.lo, .int .i64 j.glue.hi, .int .i64 j.lead.lo, .int .i64 j.lead.hi, .int .i64 j.side.lo, .int .i64 j.side.hi, .int .i64 j.height.lo, .int .i64 j.height.hi, .int .i64 j.play, .int .i64 j.grooves, .int .i64 a.thick.lo, .int .i64 a.thick.hi, .int .i64 a.depth.lo, .int .i64 a.depth.hi, .int .i64 a.shift.lo, .int .i64 a.shift.hi, .int .i64 a.pitch.lo, .int .i64 a.pitch.hi, .int .i64 b.thick.lo, .int .i64 b.thick.hi, .int .i64 b.depth.lo, .int .i64 b.depth.hi, .int .i64 b.shift.lo, .int .i64 b.shift.hi, .int .i64 b.pitch.lo, .int .i64 b.pitch.hi])
  have HB := Lib.hid (show Below w.heap.size w (w.alloc (.cells #[.int .i64 j.glue.lo, .int .i64 j.glue.hi, .int .i64 j.lead.lo, .int .i64 j.lead.hi, .int .i64 j.side.lo, .int .i64 j.side.hi, .int .i64 j.height.lo, .int .i64 j.height.hi, .int .i64 j.play, .int .i64 j.grooves, .int .i64 a.thick.lo, .int .i64 a.thick.hi, .int .i64 a.depth.lo, .int .i64 a.depth.hi, .int .i64 a.shift.lo, .int .i64 a.shift.hi, .int .i64 a.pitch.lo, .int .i64 a.pitch.hi, .int .i64 b.thick.lo, .int .i64 b.thick.hi, .int .i64 b.depth.lo, .int .i64 b.depth.hi, .int .i64 b.shift.lo, .int .i64 b.shift.hi, .int .i64 b.pitch.lo, .int .i64 b.pitch.hi] 95)) from (Below.refl _ _).alloc (Nat.le_refl _) _)
  unfold RetCond
  generalize playS j = pla at *
  clear hj
  go_enter Try.func75, Try.ntmps75
  go_wp2_with fail
  generalize World.alloc w _ = V at K0 HB ⊢
  replace K0 := Lib.hid K0.out.drew
  replace HB := Lib.hid HB.out.drew
  refine wp_region_held_drew (S := fun W => Blk W w.heap.size 95 #[.int .i64 j.glue.lo, .int .i64 j.glue.hi, .int .i64 j.lead.lo, .int .i64 j.lead.hi, .int .i64 j.side.lo, .int .i64 j.side.hi, .int .i64 j.height.lo, .int .i64 j.height.hi, .int .i64 j.play, .int .i64 j.grooves, .int .i64 a.thick.lo, .int .i64 a.thick.hi, .int .i64 a.depth.lo, .int .i64 a.depth.hi, .int .i64 a.shift.lo, .int .i64 a.shift.hi, .int .i64 a.pitch.lo, .int .i64 a.pitch.hi, .int .i64 b.thick.lo, .int .i64 b.thick.hi, .int .i64 b.depth.lo, .int .i64 b.depth.hi, .int .i64 b.shift.lo, .int .i64 b.shift.hi, .int .i64 b.pitch.lo, .int .i64 b.pitch.hi]) (by kernel_rfl) K0.out (fun hH0 => ?_)
  generalize World.drew _ = V0 at *
  simp only [List.size_toArray, List.length_cons, List.length_nil, Nat.reduceAdd, Array.replicate_succ, Array.replicate_zero, List.push_toArray, List.nil_append, List.cons_append]
  refine wpAnyH_take (i := 0 ) (v := ?_) rfl (by kernel_rfl) (by kernel_rfl) (by kernel_rfl) (fun _ _ _ h => h) (Or.inl ⟨by rfl, ?_⟩) (by assumption) ?_; rotate_left; (· (intro w0 hSw; go_simp); first | done | with_reducible rfl); (try simp only [Act.put, List.getElem_toArray, List.getElem_cons_zero, List.setIfInBounds_toArray, List.set_cons_zero, List.set_cons_succ])
  refine wpAnyH_take (i := 1 ) (v := ?_) rfl (by kernel_rfl) (by kernel_rfl) (by kernel_rfl) (fun _ _ _ h => h) (Or.inl ⟨by rfl, ?_⟩) (by assumption) ?_; rotate_left; (· (intro w0 hSw; go_simp); first | done | with_reducible rfl); (try simp only [Act.put, List.getElem_toArray, List.getElem_cons_succ, List.getElem_cons_zero, List.setIfInBounds_toArray, List.set_cons_zero, List.set_cons_succ])
  refine wpAnyH_take (i := 2) (v := _) rfl (by kernel_rfl) (by kernel_rfl) (by kernel_rfl) (fun _ _ _ h => h) (yieldsIf_load_mid (by rfl) _ _ rfl _ _ rfl [.int .i64 j.glue.lo, .int .i64 j.glue.hi, .int .i64 j.lead.lo, .int .i64 j.lead.hi, .int .i64 j.side.lo, .int .i64 j.side.hi, .int .i64 j.height.lo, .int .i64 j.height.hi, .int .i64 j.play, .int .i64 j.grooves, .int .i64 a.thick.lo, .int .i64 a.thick.hi, .int .i64 a.depth.lo, .int .i64 a.depth.hi, .int .i64 a.shift.lo, .int .i64 a.shift.hi, .int .i64 a.pitch.lo, .int .i64 a.pitch.hi, .int .i64 b.thick.lo, .int .i64 b.thick.hi, .int .i64 b.depth.lo, .int .i64 b.depth.hi, .int .i64 b.shift.lo, .int .i64 b.shift.hi, .int .i64 b.pitch.lo, .int .i64 b.pitch.hi] _ (fun w0 h0 => h0.range) (by rfl) (by rfl) (by kernel_rfl)) (by assumption) ?_
  (try simp only [Act.put, List.getElem_toArray, List.getElem_cons_succ, List.getElem_cons_zero, List.setIfInBounds_toArray, List.set_cons_zero, List.set_cons_succ])
  refine wpAnyH_take (i := 5) (v := _) rfl (by kernel_rfl) (by kernel_rfl) (by kernel_rfl) (fun _ _ _ h => h) (yieldsIf_load_mid (by rfl) _ _ rfl _ _ rfl [.int .i64 j.glue.lo, .int .i64 j.glue.hi, .int .i64 j.lead.lo, .int .i64 j.lead.hi, .int .i64 j.side.lo, .int .i64 j.side.hi, .int .i64 j.height.lo, .int .i64 j.height.hi, .int .i64 j.play, .int .i64 j.grooves, .int .i64 a.thick.lo, .int .i64 a.thick.hi, .int .i64 a.depth.lo, .int .i64 a.depth.hi, .int .i64 a.shift.lo, .int .i64 a.shift.hi, .int .i64 a.pitch.lo, .int .i64 a.pitch.hi, .int .i64 b.thick.lo, .int .i64 b.thick.hi, .int .i64 b.depth.lo, .int .i64 b.depth.hi, .int .i64 b.shift.lo, .int .i64 b.shift.hi, .int .i64 b.pitch.lo, .int .i64 b.pitch.hi] _ (fun w0 h0 => h0.range) (by rfl) (by rfl) (by kernel_rfl)) (by assumption) ?_
  (try simp only [Act.put, List.getElem_toArray, List.getElem_cons_succ, List.getElem_cons_zero, List.setIfInBounds_toArray, List.set_cons_zero, List.set_cons_succ])
  refine wpAnyH_ready (rs := [3]) (by kernel_rfl) (by simp) ?_
  refine AllReadyH.cons (by simp only [List.getElem?_toArray, List.getElem?_cons_succ, List.getElem?_cons_zero]; rfl) (fun K hK => ?_) AllReadyH.nil
  go_simp
  refine (HP.out _).mono ?_
  rintro e V1 ⟨rfl, hb⟩
  replace K0 := Lib.hid (K0.out.below hb K0.out.lt)
  replace HB := Lib.hid (HB.out.trans (hb.mono HB.out.size))
  clear hb
  refine hK.out _ _ K0.out (fun hH1 => ?_)
  clear hK K
  try simp only [List.setIfInBounds_toArray, List.set_cons_zero, List.set_cons_succ]
  refine wpAnyH_take (i := 4 ) (v := ?_) rfl (by kernel_rfl) (by kernel_rfl) (by kernel_rfl) (fun _ _ _ h => h) (Or.inl ⟨by rfl, ?_⟩) (by assumption) ?_; rotate_left; (· (intro w0 hSw; go_simp); first | done | with_reducible rfl); (try simp only [Act.put, List.getElem_toArray, List.getElem_cons_succ, List.getElem_cons_zero, List.setIfInBounds_toArray, List.set_cons_zero, List.set_cons_succ])
  refine wpAnyH_ready (rs := [6]) (by kernel_rfl) (by simp) ?_
  refine AllReadyH.cons (by simp only [List.getElem?_toArray, List.getElem?_cons_succ, List.getElem?_cons_zero]; rfl) (fun K hK => ?_) AllReadyH.nil
  go_simp
  refine (HP.out _).mono ?_
  rintro e V2 ⟨rfl, hb⟩
  replace K0 := Lib.hid (K0.out.below hb K0.out.lt)
  replace HB := Lib.hid (HB.out.trans (hb.mono HB.out.size))
  clear hb
  refine hK.out _ _ K0.out (fun hH2 => ?_)
  clear hK K
  try simp only [List.setIfInBounds_toArray, List.set_cons_zero, List.set_cons_succ]
  refine wpAnyH_take (i := 7 ) (v := ?_) rfl (by kernel_rfl) (by kernel_rfl) (by kernel_rfl) (fun _ _ _ h => h) (Or.inl ⟨by rfl, ?_⟩) (by assumption) ?_; rotate_left; (· (intro w0 hSw; go_simp); first | done | with_reducible rfl); (try simp only [Act.put, List.getElem_toArray, List.getElem_cons_succ, List.getElem_cons_zero, List.setIfInBounds_toArray, List.set_cons_zero, List.set_cons_succ])
  refine wpAnyH_ready (rs := [8]) (by kernel_rfl) (by simp) ?_
  refine AllReadyH.cons (by simp only [List.getElem?_toArray, List.getElem?_cons_succ, List.getElem?_cons_zero]; rfl) (fun K hK => ?_) AllReadyH.nil
  go_simp
  have hb := (Below.refl V2.heap.size V2).alloc (Nat.le_refl _) (.cells #[.func (.func 94) #[] #[], .int .i64 0, .int .i64 9223372036854775807, .func (.func 95) #[] #[], .int .i64 pla.lo, .int .i64 pla.hi, .func (.func 97) #[] #[], .int .i64 pla.lo, .int .i64 pla.hi] 142)
  have KC := Lib.hid (Blk.new V2 142 #[.func (.func 94) #[] #[], .int .i64 0, .int .i64 9223372036854775807, .func (.func 95) #[] #[], .int .i64 pla.lo, .int .i64 pla.hi, .func (.func 97) #[] #[], .int .i64 pla.lo, .int .i64 pla.hi])
  have hle := HB.out.size
  replace K0 := Lib.hid (K0.out.below hb K0.out.lt)
  replace HB := Lib.hid (HB.out.trans (hb.mono HB.out.size))
  clear hb
  refine hK.out _ _ K0.out (fun hH3 => ?_)
  clear hK K
  try simp only [List.setIfInBounds_toArray, List.set_cons_zero, List.set_cons_succ]
  refine wpAnyH_take (i := 9 ) (v := ?_) rfl (by kernel_rfl) (by kernel_rfl) (by kernel_rfl) (fun _ _ _ h => h) (Or.inl ⟨by rfl, ?_⟩) (by assumption) ?_; rotate_left; (· (intro w0 hSw; go_simp); first | done | with_reducible rfl); (try simp only [Act.put, List.getElem_toArray, List.getElem_cons_succ, List.getElem_cons_zero, List.setIfInBounds_toArray, List.set_cons_zero, List.set_cons_succ])
  refine wpAnyH_done (by kernel_rfl) ?_ _
  go_wp2_with fail
  go_ret
  exact ⟨_, hle, rfl, KC.out, HB.out⟩
/-- A function that tells whether a number is within bounds. -/
def IsMet (k : Nat) (m : Span → Span → Bool) : Prop := (∀ args W, (callFunc k args).run Try.prog W = .ok (.enter k args) W) ∧ ∀ (W : World) (r s : Span), Calls Try.prog k #[.agg #[.int .i64 r.lo, .int .i64 r.hi], .agg #[.int .i64 s.lo, .int .i64 s.hi]] W (Ret (.bool (m r s)) W)
theorem isMet_within : IsMet 45 insideB := ⟨enters_of Try.func45 (by kernel_rfl) rfl, fun W r s => within5_any r.lo r.hi s.lo s.hi W⟩
theorem isMet_meets : IsMet 51 meetsB := ⟨enters_of Try.func51 (by kernel_rfl) rfl, fun W r s => meets5_any r.lo r.hi s.lo s.hi W⟩
def condB (m : Span → Span → Bool) (j : Jig) (a b : Slat) : Nat → Bool
  | 0 => m (roomS j a b) roomB
  | 1 => m (firstS a b) (playS j)
  | _ => m (lastS j a b) (playS j)
def closesB (m : Span → Span → Bool) (j : Jig) (a b : Slat) : Bool := m (roomS j a b) roomB && (m (firstS a b) (playS j) && m (lastS j a b) (playS j))
theorem closesB_yes {m : Span → Span → Bool} {j : Jig} {a b : Slat} (h : ∀ i, i < 3 → condB m j a b i = true) : closesB m j a b = true := by
  have h0 : m (roomS j a b) roomB = true := h 0 (by omega)
  have h1 : m (firstS a b) (playS j) = true := h 1 (by omega)
  have h2 : m (lastS j a b) (playS j) = true := h 2 (by omega)
  unfold closesB
  rw [h0, h1, h2]
  rfl
theorem closesB_no {m : Span → Span → Bool} {j : Jig} {a b : Slat} {k : Nat} (hk : k < 3) (h : condB m j a b k = false) : closesB m j a b = false := by
  have hk3 : k = 0 ∨ k = 1 ∨ k = 2 := by omega
  unfold closesB
  rcases hk3 with rfl | rfl | rfl
  · rw [show m (roomS j a b) roomB = false from h]; simp
  · rw [show m (firstS a b) (playS j) = false from h]; simp
  · rw [show m (lastS j a b) (playS j) = false from h]; simp
theorem cond_at {W : World} {g : Nat} {j : Jig} {a b : Slat} (hj : JigIn j) (ha : SlatIn a) (hb : SlatIn b) (m : Span → Span → Bool) (h : Blk W g 142 #[.func (.func 94) #[] #[], .int .i64 0, .int .i64 9223372036854775807, .func (.func 95) #[] #[], .int .i64 (playS j).lo, .int .i64 (playS j).hi, .func (.func 97) #[] #[], .int .i64 (playS j).lo, .int .i64 (playS j).hi]) {k : Nat} (hk : k < 3) :
    ∃ (f : Nat) (r s : Span), W.cell? ⟨g, k * 3, none⟩ = some (.func (.func f) #[] #[]) ∧ W.cell? ⟨g, k * 3 + 1, none⟩ = some (.int .i64 s.lo) ∧ W.cell? ⟨g, k * 3 + 2, none⟩ = some (.int .i64 s.hi) ∧
      (∀ args W, (callFunc f args).run Try.prog W = .ok (.enter f args) W) ∧ (∀ W : World, Calls Try.prog f #[.agg #[.int .i64 j.glue.lo, .int .i64 j.glue.hi, .int .i64 j.lead.lo, .int .i64 j.lead.hi, .int .i64 j.side.lo, .int .i64 j.side.hi, .int .i64 j.height.lo, .int .i64 j.height.hi, .int .i64 j.play, .int .i64 j.grooves, .int .i64 a.thick.lo, .int .i64 a.thick.hi, .int .i64 a.depth.lo, .int .i64 a.depth.hi, .int .i64 a.shift.lo, .int .i64 a.shift.hi, .int .i64 a.pitch.lo, .int .i64 a.pitch.hi, .int .i64 b.thick.lo, .int .i64 b.thick.hi, .int .i64 b.depth.lo, .int .i64 b.depth.hi, .int .i64 b.shift.lo, .int .i64 b.shift.hi, .int .i64 b.pitch.lo, .int .i64 b.pitch.hi]] W (Ret (.agg #[.int .i64 r.lo, .int .i64 r.hi]) W)) ∧ condB m j a b k = m r s := by
  have hk3 : k = 0 ∨ k = 1 ∨ k = 2 := by omega
  rcases hk3 with rfl | rfl | rfl
  · exact ⟨94, roomS j a b, roomB, h.cell 0, h.cell 1, h.cell 2, enters_of Try.func94 (by kernel_rfl) rfl, fun W => room5_any j a b W hj ha hb, rfl⟩
  · exact ⟨95, firstS a b, playS j, h.cell 3, h.cell 4, h.cell 5, enters_of Try.func95 (by kernel_rfl) rfl, fun W => first5_any j a b W ha hb, rfl⟩
  · exact ⟨97, lastS j a b, playS j, h.cell 6, h.cell 7, h.cell 8, enters_of Try.func97 (by kernel_rfl) rfl, fun W => last5_any j a b W hj ha hb, rfl⟩
set_option maxRecDepth 100000 in
set_option maxHeartbeats 2000000 in
theorem closes5_any (j : Jig) (a b : Slat) (mk : Nat) (m : Span → Span → Bool) (w : World) (hj : JigIn j) (ha : SlatIn a) (hb : SlatIn b) (hm : IsMet mk m) : Calls Try.prog 44 #[.agg #[.int .i64 j.glue.lo, .int .i64 j.glue.hi, .int .i64 j.lead.lo, .int .i64 j.lead.hi, .int .i64 j.side.lo, .int .i64 j.side.hi, .int .i64 j.height.lo, .int .i64 j.height.hi, .int .i64 j.play, .int .i64 j.grooves, .int .i64 a.thick.lo, .int .i64 a.thick.hi, .int .i64 a.depth.lo, .int .i64 a.depth.hi, .int .i64 a.shift.lo, .int .i64 a.shift.hi, .int .i64 a.pitch.lo, .int .i64 a.pitch.hi, .int .i64 b.thick.lo, .int .i64 b.thick.hi, .int .i64 b.depth.lo, .int .i64 b.depth.hi, .int .i64 b.shift.lo, .int .i64 b.shift.hi, .int .i64 b.pitch.lo, .int .i64 b.pitch.hi], .func (.func mk) #[] #[]] w (Ret (.bool (closesB m j a b)) w) := by
  have HCO := Lib.hid (fun W => conds_any j a b W hj)
  have HAT : Hid (∀ W g k, Blk W g 142 #[.func (.func 94) #[] #[], .int .i64 0, .int .i64 9223372036854775807, .func (.func 95) #[] #[], .int .i64 (playS j).lo, .int .i64 (playS j).hi, .func (.func 97) #[] #[], .int .i64 (playS j).lo, .int .i64 (playS j).hi] → k < 3 → ∃ (f : Nat) (r s : Span), W.cell? ⟨g, k * 3, none⟩ = some (.func (.func f) #[] #[]) ∧ W.cell? ⟨g, k * 3 + 1, none⟩ = some (.int .i64 s.lo) ∧ W.cell? ⟨g, k * 3 + 2, none⟩ = some (.int .i64 s.hi) ∧
      (∀ args W, (callFunc f args).run Try.prog W = .ok (.enter f args) W) ∧ (∀ W : World, Calls Try.prog f #[.agg #[.int .i64 j.glue.lo, .int .i64 j.glue.hi, .int .i64 j.lead.lo, .int .i64 j.lead.hi, .int .i64 j.side.lo, .int .i64 j.side.hi, .int .i64 j.height.lo, .int .i64 j.height.hi, .int .i64 j.play, .int .i64 j.grooves, .int .i64 a.thick.lo, .int .i64 a.thick.hi, .int .i64 a.depth.lo, .int .i64 a.depth.hi, .int .i64 a.shift.lo, .int .i64 a.shift.hi, .int .i64 a.pitch.lo, .int .i64 a.pitch.hi, .int .i64 b.thick.lo, .int .i64 b.thick.hi, .int .i64 b.depth.lo, .int .i64 b.depth.hi, .int .i64 b.shift.lo, .int .i64 b.shift.hi, .int .i64 b.pitch.lo, .int .i64 b.pitch.hi]] W (Ret (.agg #[.int .i64 r.lo, .int .i64 r.hi]) W)) ∧ condB m j a b k = m r s) := Lib.hid fun W g k h hk => cond_at hj ha hb m h hk
  have HY : Hid ((∀ i, i < 3 → condB m j a b i = true) → closesB m j a b = true) := Lib.hid closesB_yes
  have HN : Hid (∀ k, k < 3 → condB m j a b k = false → closesB m j a b = false) := Lib.hid fun k => closesB_no
  have K0 := Lib.hid (Blk.new w 95 #[.int .i64 j.glue.lo, .int .i64 j.glue.hi, .int .i64 j.lead.lo, .int .i64 j.lead.hi, .int .i64 j.side.lo, .int .i64 j.side.hi, .int .i64 j.height.lo, .int .i64 j.height.hi, .int .i64 j.play, .int .i64 j.grooves, .int .i64 a.thick.lo, .int .i64 a.thick.hi, .int .i64 a.depth.lo, .int .i64 a.depth.hi, .int .i64 a.shift.lo, .int .i64 a.shift.hi, .int .i64 a.pitch.lo, .int .i64 a.pitch.hi, .int .i64 b.thick.lo, .int .i64 b.thick.hi, .int .i64 b.depth.lo, .int .i64 b.depth.hi, .int .i64 b.shift.lo, .int .i64 b.shift.hi, .int .i64 b.pitch.lo, .int .i64 b.pitch.hi])
  have HB := Lib.hid (show Below w.heap.size w (w.alloc (.cells #[.int .i64 j.glue.lo, .int .i64 j.glue.hi, .int .i64 j.lead.lo, .int .i64 j.lead.hi, .int .i64 j.side.lo, .int .i64 j.side.hi, .int .i64 j.height.lo, .int .i64 j.height.hi, .int .i64 j.play, .int .i64 j.grooves, .int .i64 a.thick.lo, .int .i64 a.thick.hi, .int .i64 a.depth.lo, .int .i64 a.depth.hi, .int .i64 a.shift.lo, .int .i64 a.shift.hi, .int .i64 a.pitch.lo, .int .i64 a.pitch.hi, .int .i64 b.thick.lo, .int .i64 b.thick.hi, .int .i64 b.depth.lo, .int .i64 b.depth.hi, .int .i64 b.shift.lo, .int .i64 b.shift.hi, .int .i64 b.pitch.lo, .int .i64 b.pitch.hi] 95)) from (Below.refl _ _).alloc (Nat.le_refl _) _)
  obtain ⟨he, hc⟩ := hm
  have HM := Lib.hid hc
  clear hj ha hb hc
  go_enter Try.func44, Try.ntmps44
  go_wp2_with (with_reducible refine wpList_load_mid (by with_unfolding_all rfl) 95 _ (by with_unfolding_all rfl) _ _ (by with_unfolding_all rfl) [.int .i64 j.glue.lo, .int .i64 j.glue.hi, .int .i64 j.lead.lo, .int .i64 j.lead.hi, .int .i64 j.side.lo, .int .i64 j.side.hi, .int .i64 j.height.lo, .int .i64 j.height.hi, .int .i64 j.play, .int .i64 j.grooves, .int .i64 a.thick.lo, .int .i64 a.thick.hi, .int .i64 a.depth.lo, .int .i64 a.depth.hi, .int .i64 a.shift.lo, .int .i64 a.shift.hi, .int .i64 a.pitch.lo, .int .i64 a.pitch.hi, .int .i64 b.thick.lo, .int .i64 b.thick.hi, .int .i64 b.depth.lo, .int .i64 b.depth.hi, .int .i64 b.shift.lo, .int .i64 b.shift.hi, .int .i64 b.pitch.lo, .int .i64 b.pitch.hi] _ K0.out.range (by with_unfolding_all rfl) (by with_unfolding_all rfl) (by kernel_rfl) ?_)
  refine (HCO.out _).mono ?_
  rintro e W1 ⟨g, hg, rfl, hk, hb⟩
  replace K0 := Lib.hid (K0.out.below hb K0.out.lt)
  replace HB := Lib.hid (HB.out.trans (hb.mono HB.out.size))
  have KC := Lib.hid hk
  have hwg : w.heap.size < g := by simp at hg; omega
  clear hb hk hg HCO
  go_wp2_with fail
  go_loopw [10] (fun i wr => ∃ k : Nat, k ≤ 3 ∧ i = .int .i64 k ∧ Hid (∀ i, i < k → condB m j a b i = true) ∧ Hid (Blk wr w.heap.size 95 #[.int .i64 j.glue.lo, .int .i64 j.glue.hi, .int .i64 j.lead.lo, .int .i64 j.lead.hi, .int .i64 j.side.lo, .int .i64 j.side.hi, .int .i64 j.height.lo, .int .i64 j.height.hi, .int .i64 j.play, .int .i64 j.grooves, .int .i64 a.thick.lo, .int .i64 a.thick.hi, .int .i64 a.depth.lo, .int .i64 a.depth.hi, .int .i64 a.shift.lo, .int .i64 a.shift.hi, .int .i64 a.pitch.lo, .int .i64 a.pitch.hi, .int .i64 b.thick.lo, .int .i64 b.thick.hi, .int .i64 b.depth.lo, .int .i64 b.depth.hi, .int .i64 b.shift.lo, .int .i64 b.shift.hi, .int .i64 b.pitch.lo, .int .i64 b.pitch.hi]) ∧ Hid (Blk wr g 142 #[.func (.func 94) #[] #[], .int .i64 0, .int .i64 9223372036854775807, .func (.func 95) #[] #[], .int .i64 (playS j).lo, .int .i64 (playS j).hi, .func (.func 97) #[] #[], .int .i64 (playS j).lo, .int .i64 (playS j).hi]) ∧ Hid (Below w.heap.size w wr)) (fun i _ => 3 - (intOf i).toNat)
  case atStart => exact ⟨0, by omega, rfl, Lib.hid (fun i h => absurd h (Nat.not_lt_zero i)), K0, KC, HB⟩
  case round =>
    clear K0 KC HB
    obtain ⟨k, hk, rfl, HA, K0, KC, HB⟩ := hrel
    by_cases hlt : k < 3
    · obtain ⟨f, r, s, c0, c1, c2, hf, hcf, hcd⟩ := HAT.out wr g k KC.out hlt
      have HF := Lib.hid hcf
      have HCD := Lib.hid hcd
      have hgz := KC.out.lt
      have hsz := HB.out.size
      have hb := (Below.refl wr.heap.size wr).alloc (Nat.le_refl _) (.cells #[.func (.func f) #[] #[], .int .i64 s.lo, .int .i64 s.hi] 142)
      have K6 := Lib.hid (Blk.new wr 142 #[.func (.func f) #[] #[], .int .i64 s.lo, .int .i64 s.hi])
      replace K0 := Lib.hid (K0.out.below hb K0.out.lt)
      replace KC := Lib.hid (KC.out.below hb KC.out.lt)
      replace HB := Lib.hid (HB.out.trans (hb.mono HB.out.size))
      clear hcf hcd hb
      go_wp2_with fail
      generalize World.alloc wr _ = V at K0 KC HB K6 ⊢
      generalize wr.heap.size = q6 at *
      replace K0 := Lib.hid K0.out.drew
      replace KC := Lib.hid KC.out.drew
      replace K6 := Lib.hid K6.out.drew
      replace HB := Lib.hid HB.out.drew
      clear c0 c1 c2
      refine wp_region_held_drew (S := fun W => Blk W w.heap.size 95 #[.int .i64 j.glue.lo, .int .i64 j.glue.hi, .int .i64 j.lead.lo, .int .i64 j.lead.hi, .int .i64 j.side.lo, .int .i64 j.side.hi, .int .i64 j.height.lo, .int .i64 j.height.hi, .int .i64 j.play, .int .i64 j.grooves, .int .i64 a.thick.lo, .int .i64 a.thick.hi, .int .i64 a.depth.lo, .int .i64 a.depth.hi, .int .i64 a.shift.lo, .int .i64 a.shift.hi, .int .i64 a.pitch.lo, .int .i64 a.pitch.hi, .int .i64 b.thick.lo, .int .i64 b.thick.hi, .int .i64 b.depth.lo, .int .i64 b.depth.hi, .int .i64 b.shift.lo, .int .i64 b.shift.hi, .int .i64 b.pitch.lo, .int .i64 b.pitch.hi] ∧ Blk W q6 142 #[.func (.func f) #[] #[], .int .i64 s.lo, .int .i64 s.hi]) (by kernel_rfl) ⟨K0.out, K6.out⟩ (fun hH0 => ?_)
      generalize World.drew _ = V0 at *
      simp only [List.size_toArray, List.length_cons, List.length_nil, Nat.reduceAdd, Array.replicate_succ, Array.replicate_zero, List.push_toArray, List.nil_append, List.cons_append]
      refine wpAnyH_take (i := 0 ) (v := ?_) rfl (by kernel_rfl) (by kernel_rfl) (by kernel_rfl) (fun _ _ _ h => h) (Or.inl ⟨by rfl, ?_⟩) (by assumption) ?_; rotate_left; (· (intro w0 hSw; obtain ⟨k0, k6⟩ := hSw; have s0 := k6.cell 0; have s1 := k6.cell 1; have s2 := k6.cell 2; clear k0 k6; go_simp); first | done | with_reducible rfl); (try simp only [Act.put, List.getElem_toArray, List.getElem_cons_zero, List.setIfInBounds_toArray, List.set_cons_zero, List.set_cons_succ])
      refine wpAnyH_take (i := 1 ) (v := ?_) rfl (by kernel_rfl) (by kernel_rfl) (by kernel_rfl) (fun _ _ _ h => h) (Or.inl ⟨by rfl, ?_⟩) (by assumption) ?_; rotate_left; (· (intro w0 hSw; obtain ⟨k0, k6⟩ := hSw; have s0 := k6.cell 0; have s1 := k6.cell 1; have s2 := k6.cell 2; clear k0 k6; go_simp); first | done | with_reducible rfl); (try simp only [Act.put, List.getElem_toArray, List.getElem_cons_succ, List.getElem_cons_zero, List.setIfInBounds_toArray, List.set_cons_zero, List.set_cons_succ])
      refine wpAnyH_take (i := 2 ) (v := ?_) rfl (by kernel_rfl) (by kernel_rfl) (by kernel_rfl) (fun _ _ _ h => h) (Or.inl ⟨by rfl, ?_⟩) (by assumption) ?_; rotate_left; (· (intro w0 hSw; obtain ⟨k0, k6⟩ := hSw; have s0 := k6.cell 0; have s1 := k6.cell 1; have s2 := k6.cell 2; clear k0 k6; go_simp); first | done | with_reducible rfl); (try simp only [Act.put, List.getElem_toArray, List.getElem_cons_succ, List.getElem_cons_zero, List.setIfInBounds_toArray, List.set_cons_zero, List.set_cons_succ])
      refine wpAnyH_take (i := 3) (v := _) rfl (by kernel_rfl) (by kernel_rfl) (by kernel_rfl) (fun _ _ _ h => h) (yieldsIf_load_mid (by rfl) _ _ rfl _ _ rfl [.int .i64 j.glue.lo, .int .i64 j.glue.hi, .int .i64 j.lead.lo, .int .i64 j.lead.hi, .int .i64 j.side.lo, .int .i64 j.side.hi, .int .i64 j.height.lo, .int .i64 j.height.hi, .int .i64 j.play, .int .i64 j.grooves, .int .i64 a.thick.lo, .int .i64 a.thick.hi, .int .i64 a.depth.lo, .int .i64 a.depth.hi, .int .i64 a.shift.lo, .int .i64 a.shift.hi, .int .i64 a.pitch.lo, .int .i64 a.pitch.hi, .int .i64 b.thick.lo, .int .i64 b.thick.hi, .int .i64 b.depth.lo, .int .i64 b.depth.hi, .int .i64 b.shift.lo, .int .i64 b.shift.hi, .int .i64 b.pitch.lo, .int .i64 b.pitch.hi] _ (fun w0 h0 => h0.1.range) (by rfl) (by rfl) (by kernel_rfl)) (by assumption) ?_
      (try simp only [Act.put, List.getElem_toArray, List.getElem_cons_succ, List.getElem_cons_zero, List.setIfInBounds_toArray, List.set_cons_zero, List.set_cons_succ])
      refine wpAnyH_take (i := 5 ) (v := ?_) rfl (by kernel_rfl) (by kernel_rfl) (by kernel_rfl) (fun _ _ _ h => h) (Or.inl ⟨by rfl, ?_⟩) (by assumption) ?_; rotate_left; (· (intro w0 hSw; obtain ⟨k0, k6⟩ := hSw; have s0 := k6.cell 0; have s1 := k6.cell 1; have s2 := k6.cell 2; clear k0 k6; go_simp); first | done | with_reducible rfl); (try simp only [Act.put, List.getElem_toArray, List.getElem_cons_succ, List.getElem_cons_zero, List.setIfInBounds_toArray, List.set_cons_zero, List.set_cons_succ])
      refine wpAnyH_take (i := 6 ) (v := ?_) rfl (by kernel_rfl) (by kernel_rfl) (by kernel_rfl) (fun _ _ _ h => h) (Or.inl ⟨by rfl, ?_⟩) (by assumption) ?_; rotate_left; (· (intro w0 hSw; obtain ⟨k0, k6⟩ := hSw; have s0 := k6.cell 0; have s1 := k6.cell 1; have s2 := k6.cell 2; clear k0 k6; go_simp); first | done | with_reducible rfl); (try simp only [Act.put, List.getElem_toArray, List.getElem_cons_succ, List.getElem_cons_zero, List.setIfInBounds_toArray, List.set_cons_zero, List.set_cons_succ])
      refine wpAnyH_ready (rs := [4]) (by kernel_rfl) (by simp) ?_
      refine AllReadyH.cons (by simp only [List.getElem?_toArray, List.getElem?_cons_succ, List.getElem?_cons_zero]; rfl) (fun K hK => ?_) AllReadyH.nil
      go_simp
      refine (HF.out _).mono ?_
      rintro e V1 ⟨rfl, hb⟩
      replace K0 := Lib.hid (K0.out.below hb K0.out.lt)
      replace KC := Lib.hid (KC.out.below hb KC.out.lt)
      replace K6 := Lib.hid (K6.out.below hb K6.out.lt)
      replace HB := Lib.hid (HB.out.trans (hb.mono HB.out.size))
      clear hb
      refine hK.out _ _ ⟨K0.out, K6.out⟩ (fun hH1 => ?_)
      clear hK K
      try simp only [List.setIfInBounds_toArray, List.set_cons_zero, List.set_cons_succ]
      refine wpAnyH_ready (rs := [7]) (by kernel_rfl) (by simp) ?_
      refine AllReadyH.cons (by simp only [List.getElem?_toArray, List.getElem?_cons_succ, List.getElem?_cons_zero]; rfl) (fun K hK => ?_) AllReadyH.nil
      go_simp
      refine (HM.out _ _ _).mono ?_
      rintro e V2 ⟨rfl, hb⟩
      replace K0 := Lib.hid (K0.out.below hb K0.out.lt)
      replace KC := Lib.hid (KC.out.below hb KC.out.lt)
      replace K6 := Lib.hid (K6.out.below hb K6.out.lt)
      replace HB := Lib.hid (HB.out.trans (hb.mono HB.out.size))
      clear hb
      refine hK.out _ _ ⟨K0.out, K6.out⟩ (fun hH2 => ?_)
      clear hK K
      try simp only [List.setIfInBounds_toArray, List.set_cons_zero, List.set_cons_succ]
      refine wpAnyH_take (i := 8 ) (v := ?_) rfl (by kernel_rfl) (by kernel_rfl) (by kernel_rfl) (fun _ _ _ h => h) (Or.inl ⟨by rfl, ?_⟩) (by assumption) ?_; rotate_left; (· (intro w0 hSw; obtain ⟨k0, k6⟩ := hSw; have s0 := k6.cell 0; have s1 := k6.cell 1; have s2 := k6.cell 2; clear k0 k6; go_simp); first | done | with_reducible rfl); (try simp only [Act.put, List.getElem_toArray, List.getElem_cons_succ, List.getElem_cons_zero, List.setIfInBounds_toArray, List.set_cons_zero, List.set_cons_succ])
      refine wpAnyH_done (by kernel_rfl) ?_ _
      cases hz : m r s with
      | false =>
        have HZ := Lib.hid (HN.out k hlt (by rw [HCD.out]; exact hz))
        clear hz
        go_wp2_with fail
        go_ret
        exact ⟨ret_bool HZ.out.symm, HB.out⟩
      | true =>
        have HZ : Hid (∀ i, i < k + 1 → condB m j a b i = true) := Lib.hid fun i hi => by
          rcases Nat.lt_or_ge i k with h9 | h9
          · exact HA.out i h9
          · obtain rfl : i = k := by omega
            rw [HCD.out]; exact hz
        clear hz
        go_wp2_with fail
        go_roundw
        case rel => exact ⟨k + 1, by omega, by go_num, HZ, K0, KC, HB⟩
        case measure => simp [intOf]; omega
    · obtain rfl : k = 3 := by omega
      have HE := Lib.hid (HY.out HA.out)
      clear hlt hk HA
      go_wp2_with fail
      go_ret
      exact ⟨ret_bool HE.out.symm, HB.out⟩
end Go.Proofs.Ytfpfafijockfnaa
