/- Plan: the first of the good plans that cost least. -/
import Derived.Test.YtdadgljllnkppaaPl
import Derived.Test.YtdadgljllnkppaaVb
namespace Go.Proofs.Ytdadgljllnkppaa
open Go.RowKit Go.Shelf

/-- What Plan returns: the plan, what it costs, the error. -/
def planP (p : Press) (l : List Draw) : List Int := if errOf p l true = 0 ∧ (bestOf p l s0).good = true then (bestOf p l s0).plan else []
def planC (p : Press) (l : List Draw) : Int := if errOf p l true = 0 ∧ (bestOf p l s0).good = true then (bestOf p l s0).cost else 0
def planE (p : Press) (l : List Draw) : Int := if errOf p l true = 0 then (if (bestOf p l s0).good = true then 0 else 4) else errOf p l true
theorem errOf_0 {p : Press} {l : List Draw} {o : Bool} (h : errOf p l o = 0) : pressOk p = true ∧ drawsOk l = true ∧ o = true := by
  unfold errOf at h
  split at h
  · split at h
    · rename_i h1 h2; exact ⟨h1, h2⟩
    · cases h
  · cases h
def RetPl (l : List Int) (c x : Int) (w : World) (e : Ending) (w' : World) : Prop := ∃ A2 c2, e = .returned (.tuple #[.slice A2 l.length c2, .int .i64 c, .int .i64 x]) ∧ PlanAt w' (.slice A2 l.length c2) l ∧ Below w.heap.size w w'
set_option maxRecDepth 100000 in
set_option maxHeartbeats 2000000 in
theorem plan_any (w : World) (A T : Option Addr) (c ct : Nat) (p : Press) (l : List Draw) (hp : p.dies.length ≤ 9223372036854775807) (hl : l.length ≤ 9223372036854775807) (hA : DieSl w w.heap.size A p.dies) (hT : DrawSl w w.heap.size T l) (hct : l.length ≤ ct) :
    Calls Try.prog 27 #[.agg #[.slice A p.dies.length c, .int .i64 p.shrink.lo, .int .i64 p.shrink.hi, .int .i64 p.change], .slice T l.length ct] w (RetPl (planP p l) (planC p l) (planE p l) w) := by
  have hb0 : Below w.heap.size w (w.alloc (.cells #[.slice A p.dies.length c, .int .i64 p.shrink.lo, .int .i64 p.shrink.hi, .int .i64 p.change] 26)) := (Below.refl _ _).alloc (Nat.le_refl _) _
  have HF := Lib.hid (firstError_any (w.alloc (.cells #[.slice A p.dies.length c, .int .i64 p.shrink.lo, .int .i64 p.shrink.hi, .int .i64 p.change] 26)) A T c ct p l true hp hl (hA.on hb0 (Nat.le_refl _)) (hT.on hb0 (Nat.le_refl _)))
  have HB := Lib.hid hb0
  by_cases h0 : errOf p l true = 0
  · obtain ⟨h1, h2, -⟩ := errOf_0 h0
    have HC : Hid (∀ W, Below w.heap.size w W → Calls Try.prog 75 #[.agg #[.slice A p.dies.length c, .int .i64 p.shrink.lo, .int .i64 p.shrink.hi, .int .i64 p.change], .slice T l.length ct] W fun e w' => ∃ A2 c2, e = .returned (.agg #[.slice A2 (bestOf p l s0).plan.length c2, .int .i64 (bestOf p l s0).cost, .bool (bestOf p l s0).good]) ∧ PlanAt w' (.slice A2 (bestOf p l s0).plan.length c2) (bestOf p l s0).plan ∧ Below W.heap.size W w') :=
      Lib.hid fun W hW => cheapest_any W A T c ct p l h1 h2 (hA.on hW (Nat.le_refl _)) (hT.on hW (Nat.le_refl _)) hct
    have HO : Hid (planP p l = (if (bestOf p l s0).good = true then (bestOf p l s0).plan else []) ∧ planC p l = (if (bestOf p l s0).good = true then (bestOf p l s0).cost else 0) ∧ planE p l = if (bestOf p l s0).good = true then 0 else 4) := Lib.hid (by unfold planP planC planE; simp [h0])
    rw [h0] at HF
    generalize planP p l = o1 at HO ⊢
    generalize planC p l = o2 at HO ⊢
    generalize planE p l = o3 at HO ⊢
    generalize bestOf p l s0 = r at HC HO
    clear h0 h1 h2 hA hT hb0 hp hl hct
    go_enter Try.func27, Try.ntmps27
    go_wp2_with fail
    refine HF.out.mono ?_
    rintro e W1 ⟨rfl, hb1⟩
    have HB1 := Lib.hid (HB.out.trans (hb1.mono HB.out.size))
    have hbx := (Blk.new w 26 #[.slice A p.dies.length c, .int .i64 p.shrink.lo, .int .i64 p.shrink.hi, .int .i64 p.change]).below hb1 (Blk.new w _ _).lt
    have x0 := hbx.cell 0
    have x1 := hbx.cell 1
    have x2 := hbx.cell 2
    have x3 := hbx.cell 3
    clear hb1 HF hbx
    go_wp2_with fail
    refine (HC.out _ HB1.out).mono ?_
    rintro e W2 ⟨A2, c2, rfl, hpl, hb2⟩
    have HB2 := Lib.hid (HB1.out.trans (hb2.mono HB1.out.size))
    have HP := Lib.hid hpl
    clear hb2 x0 x1 x2 x3 hpl HC
    cases hg : r.good with
    | true =>
      rw [hg] at HO
      obtain ⟨rfl, rfl, rfl⟩ := HO.out
      clear HO
      go_wp2_with fail
      all_goals go_region
      all_goals go_wp2_with fail
      all_goals exact bodyPost_ret (v := .tuple #[.slice A2 r.plan.length c2, .int .i64 r.cost, .int .i64 0]) (by simp [results, Try.results27, go_sem]) rfl ⟨A2, c2, rfl, HP.out.keep (.below (((Below.refl _ _).alloc (Nat.le_refl _) _).drew)), (HB2.out.alloc HB2.out.size _).drew⟩
    | false =>
      rw [hg] at HO
      obtain ⟨rfl, rfl, rfl⟩ := HO.out
      clear HO
      go_wp2_with fail
      exact bodyPost_ret (v := .tuple #[.slice none 0 0, .int .i64 0, .int .i64 4]) (by simp [results, Try.results27, go_sem]) rfl ⟨none, 0, rfl, World.ownsRow_nil _ _ _ _, HB2.out.alloc HB2.out.size _⟩
  · have HN := Lib.hid h0
    have HO : Hid (planP p l = [] ∧ planC p l = 0 ∧ planE p l = errOf p l true) := Lib.hid (by unfold planP planC planE; simp [h0])
    generalize planP p l = o1 at HO ⊢
    generalize planC p l = o2 at HO ⊢
    generalize planE p l = o3 at HO ⊢
    have hne : (errOf p l true == 0) = false := by rw [beq_eq_false_iff_ne]; exact h0
    generalize errOf p l true = er at HF HO hne
    obtain ⟨rfl, rfl, rfl⟩ := HO.out
    clear h0 hA hT hb0 hp hl hct HO HN
    go_enter Try.func27, Try.ntmps27
    go_wp2_with fail
    refine HF.out.mono ?_
    rintro e W1 ⟨rfl, hb1⟩
    have HB1 := Lib.hid (HB.out.trans (hb1.mono HB.out.size))
    clear hb1 HF
    go_wp2_with fail
    exact bodyPost_ret (v := .tuple #[.slice none 0 0, .int .i64 0, .int .i64 o3]) (by simp [results, Try.results27, go_sem]) rfl ⟨none, 0, rfl, World.ownsRow_nil _ _ _ _, HB1.out⟩
end Go.Proofs.Ytdadgljllnkppaa
