/- The inputs of a law read: bytes. -/
import Derived.Test.YtfpfafijockfnaaSo
import Derived.Test.YtfpfafijockfnaaUg
namespace Go.Proofs.Ytfpfafijockfnaa.Inp
open Go.RowKit Go.Shelf Go.ChangeShapes Go.WideShapes Go.Deep Go.ChangeAt Go.Joins

theorem und_u16s : Try.prog.underlying 48 = some (.slice 77) := by kernel_rfl
theorem und_u16' : Try.prog.underlying 77 = some (.int .u16) := by kernel_rfl
theorem cells_u16 : Try.prog.cellsOf 77 = 1 := by kernel_rfl
section
variable {H : Type} {enc : TypeId × Value → H} {w : World} {base : Nat} {spare : Nat → Bool} {held : Bool}
set_option maxRecDepth 100000 in
theorem open_u16s {r : Go.Reach} {b0 : Nat} {v : Value} {d : DataW H} {p : List MemPlace} (hval : Value.okWide Try.prog w r b0 48 v) (h : DataW.Trod enc Try.prog w base spare held 48 v d p) :
    ∃ (A : Option Addr) (c : Nat) (l : List Int), v = .slice A l.length c ∧ l.length ≤ 9223372036854775807 ∧ U16Sl w w.heap.size A l ∧ ∀ y ∈ l, 0 ≤ y ∧ y ≤ 65535 := by
  obtain ⟨a0, len, cap, rfl⟩ := okWide_slice und_u16s hval
  obtain ⟨fuel, hf⟩ := h
  rcases open_slice und_u16s hf with ⟨hcs, hx⟩ | ⟨a, len', cap', m, n, D, Pl, hcs, hb, hl, hm, hmm, hx, hi⟩
  · simp [Value.cells] at hcs
    obtain ⟨rfl, rfl, rfl⟩ := hcs
    exact ⟨none, 0, [], rfl, Nat.zero_le _, fun h => absurd rfl h, fun y hy => by simp at hy⟩
  · simp [Value.cells] at hcs
    obtain ⟨rfl, rfl, rfl⟩ := hcs
    have hlm : len ≤ m := by rw [hmm]; split <;> omega
    have hx : ∀ i, ∃ t : Int, (0 ≤ t ∧ t ≤ 65535) ∧ (i < len → w.cell? (a.add i) = some (.int .u16 t)) := by
      intro i
      by_cases hil : i < len
      · obtain ⟨cs', hc, ht⟩ := hi i (by omega)
        rw [cells_u16] at hc
        obtain ⟨t, ec, -, hwf⟩ := DataW.trod_int und_u16' ht
        subst ec
        obtain ⟨_, _, hat⟩ := World.cells?_some hc
        have hu : 0 ≤ t ∧ t ≤ 65535 := by
          simp only [Lit.wf] at hwf
          simpa [IntKind.min, IntKind.max, IntKind.signed, IntKind.bits] using hwf
        have h0 := hat 0 (by omega)
        simp only [Nat.mul_one] at h0
        refine ⟨t, hu, fun _ => ?_⟩
        have e : (a.add i).add 0 = a.add i := by simp [Addr.add]
        rw [e] at h0
        simpa using h0
      · exact ⟨0, by omega, fun h => absurd h hil⟩
    obtain ⟨f, hf'⟩ := Classical.axiomOfChoice hx
    have hlen : ((List.range len).map f).length = len := by simp
    refine ⟨some a, cap, (List.range len).map f, by rw [hlen], by rw [hlen]; have : maxLen ≤ 9223372036854775807 := (by unfold maxLen; omega); omega, fun hne => ?_, fun y hy => ?_⟩
    · have h0 : 0 < len := by
        rcases Nat.eq_zero_or_pos len with e | e
        · subst e; exact absurd rfl hne
        · exact e
      obtain ⟨b, off, spot⟩ := a
      obtain ⟨hs, hlt⟩ := cell_old ((hf' 0).2 h0)
      simp only [Addr.add] at hs hlt
      have hsp : spot = none := by simpa using hs
      subst hsp
      refine ⟨b, off, rfl, by simpa using hlt, fun i hi' => ?_⟩
      have hil : i < len := by simpa using hi'
      have hg : ((List.range len).map f)[i]'hi' = f i := by simp
      rw [hg]
      have hc := (hf' i).2 hil
      have e : (⟨b, off, none⟩ : Addr).add i = ⟨b, off + i, none⟩ := by
        unfold Addr.add
        by_cases hi : i = 0 <;> simp [hi]
      rw [e] at hc
      exact hc
    · simp only [List.mem_map] at hy
      obtain ⟨i, -, rfl⟩ := hy
      exact (hf' i).1
end
end Go.Proofs.Ytfpfafijockfnaa.Inp
