/- A list of draws without its first one; what is held while the next draws are tried. -/
import Derived.Test.YtdadgljllnkppaaOw
namespace Go.Proofs.Ytdadgljllnkppaa
open Go.RowKit Go.Shelf

theorem und_draws : Try.prog.underlying 27 = some (.slice 51) := by kernel_rfl
theorem drawInfo : (Try.prog.info? 51).map (fun i => i.size) = some 3 := by kernel_rfl
def tailAt (bT oT ct : Nat) : Option Addr := if ct = 1 then some ⟨bT, oT, none⟩ else some ⟨bT, oT + 3, none⟩
theorem run_tail (w : World) (bT oT k ct : Nat) (_h : k + 1 ≤ ct) : (Instr.sliceAt 27 (.slice (some ⟨bT, oT, none⟩) (k + 1) ct) (some (.int .i64 1)) none none).run Try.prog w = .ok (.slice (tailAt bT oT ct) k (ct - 1)) w := by
  have hs : (sizeOf 51).run Try.prog w = .ok 3 w := by
    have := drawInfo
    cases hi : Try.prog.info? 51 with
    | none => rw [hi] at this; cases this
    | some i =>
      rw [hi] at this
      simp only [Option.map_some, Option.some.injEq] at this
      simp [sizeOf, typeInfo, hi, this]
  have h1 : (1 : Int) ≤ (k : Int) + 1 := by omega
  unfold Instr.sliceAt Instr.slice
  simp only [Sem.run_bind, run_underlying und_draws, Result.andThen_ok]
  have hb : (Instr.sliceBounds true (k + 1) ct (some (.int .i64 1)) none none).run Try.prog w = .ok (1, k + 1, ct) w := by
    simp [Instr.sliceBounds, Instr.sliceBound, asIntOf, h1]
  simp only [hb, Result.andThen_ok, hs, Sem.run_pure]
  unfold tailAt
  by_cases e : ct = 1
  · simp [e]
  · simp [e, Addr.add]
theorem tail_sl {U : World} {bT oT ct : Nat} {x : Draw} {l : List Draw} (h : At3 drawF U bT oT (x :: l)) (hb : bT < U.heap.size) (hc : l.length + 1 ≤ ct) : DrawSl U U.heap.size (tailAt bT oT ct) l := fun hne => by
  have hl : 0 < l.length := List.length_pos_iff.2 hne
  refine ⟨bT, oT + 3, ?_, hb, fun i hi => ?_⟩
  · unfold tailAt
    rw [if_neg (by omega)]
  · have := h (i + 1) (by simp; omega)
    simp only [List.getElem_cons_succ] at this
    rw [show oT + 3 + i * 3 = oT + (i + 1) * 3 by omega]
    exact this
end Go.Proofs.Ytdadgljllnkppaa
