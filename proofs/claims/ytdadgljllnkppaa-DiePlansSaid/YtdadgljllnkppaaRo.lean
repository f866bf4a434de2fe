/- Walks: an end of a width, in whole thousandths. -/
import Derived.Test.YtdadgljllnkppaaTh
namespace Go.Proofs.Ytdadgljllnkppaa
open Go.RowKit Go.Shelf

def RdS (w : World) (q r s : Nat) (f : Value) (W : World) : Prop := Below w.heap.size w W ∧ W.cell? ⟨w.heap.size, 0, none⟩ = some (.func (.func 134) #[] #[.pointer (some ⟨q, 0, none⟩), .pointer (some ⟨r, 0, none⟩), .pointer (some ⟨s, 0, none⟩)]) ∧ W.cell? ⟨w.heap.size, 1, none⟩ = some f
theorem RdS.drew {w : World} {q r s : Nat} {f : Value} {W : World} (h : RdS w q r s f W) : RdS w q r s f W.drew := ⟨h.1.drew, h.2⟩
set_option maxRecDepth 100000 in
set_option maxHeartbeats 2000000 in
theorem roundDown_any (w : World) (q r s : Nat) (wide wear shrink u : Int) (h : WideAt w w.heap.size q r s wide wear shrink) (a0 : 1 ≤ wide) (a1 : wide ≤ 20000) (b0 : 0 ≤ wear) (b1 : wear ≤ 200) (g0 : 0 ≤ shrink) (g1 : shrink ≤ 300) (d0 : 0 ≤ u) (d1 : u ≤ 9000) : Calls Try.prog 64 #[.agg #[.func (.func 134) #[] #[.pointer (some ⟨q, 0, none⟩), .pointer (some ⟨r, 0, none⟩), .pointer (some ⟨s, 0, none⟩)], .func (.func 98) #[] #[]], .int .i64 u] w (Ret (.int .i64 (nano wide wear shrink u / 1000)) w) := by
  have ht := nano_bd a0 a1 b0 b1 g0 g1 d0 d1
  have HW : Hid (∀ V, Below w.heap.size w V → Calls Try.prog 134 #[.int .i64 u, .pointer (some ⟨q, 0, none⟩), .pointer (some ⟨r, 0, none⟩), .pointer (some ⟨s, 0, none⟩)] V fun e w' => e = .returned (.int .i64 (nano wide wear shrink u)) ∧ V = w') := fun V hV =>
    width_any V q r s _ _ _ u (h.on hV (Nat.le_refl _)) a0 a1 b0 b1 g0 g1 d0 d1
  clear h
  obtain ⟨-, t0, t1⟩ := ht
  have HC := Lib.hid fun V => down_any (nano wide wear shrink u) 1000 V (by omega) (by omega) (by omega)
  generalize nano wide wear shrink u = t at *
  go_enter Try.func64, Try.ntmps64
  go_wp2_with fail
  have h0 : RdS w q r s (.func (.func 98) #[] #[]) (w.alloc (.cells #[.func (.func 134) #[] #[.pointer (some ⟨q, 0, none⟩), .pointer (some ⟨r, 0, none⟩), .pointer (some ⟨s, 0, none⟩)], .func (.func 98) #[] #[]] 109)) := ⟨by repeat (first | exact Below.refl _ _ | assumption | refine Below.drew ?_ | refine Below.alloc ?_ (by first | omega | (simp only [World.size_alloc]; omega) | simp) _ | refine Below.setCell ?_ (by first | omega | (simp only [World.size_alloc]; omega) | simp) _), by go_simp, by go_simp⟩
  unfold RdS at h0
  generalize World.alloc w _ = W0 at h0 ⊢
  go_region_held3 (fun W => Below w.heap.size w W ∧ W.cell? ⟨w.heap.size, 0, none⟩ = some (.func (.func 134) #[] #[.pointer (some ⟨q, 0, none⟩), .pointer (some ⟨r, 0, none⟩), .pointer (some ⟨s, 0, none⟩)]) ∧ W.cell? ⟨w.heap.size, 1, none⟩ = some (.func (.func 98) #[] #[])) (first | exact RdS.drew h0 | assumption | go_keep)
    (first
      | (go_at_call 134; (with_reducible refine (HW.out _ h0.1.drew).mono ?_); rintro e e' ⟨rfl, rfl⟩)
      | (go_at_call 98; (with_reducible refine (HC.out _).mono ?_); rintro e e' ⟨rfl, rfl⟩)
      | fail "no arm")
  go_wp2
  go_ret
  exact ⟨rfl, h0.1.drew⟩
set_option maxRecDepth 100000 in
set_option maxHeartbeats 2000000 in
theorem roundUp_any (w : World) (q r s : Nat) (wide wear shrink u : Int) (h : WideAt w w.heap.size q r s wide wear shrink) (a0 : 1 ≤ wide) (a1 : wide ≤ 20000) (b0 : 0 ≤ wear) (b1 : wear ≤ 200) (g0 : 0 ≤ shrink) (g1 : shrink ≤ 300) (d0 : 0 ≤ u) (d1 : u ≤ 9000) : Calls Try.prog 64 #[.agg #[.func (.func 134) #[] #[.pointer (some ⟨q, 0, none⟩), .pointer (some ⟨r, 0, none⟩), .pointer (some ⟨s, 0, none⟩)], .func (.func 99) #[] #[]], .int .i64 u] w (Ret (.int .i64 (cdiv (nano wide wear shrink u) 1000)) w) := by
  have ht := nano_bd a0 a1 b0 b1 g0 g1 d0 d1
  have HW : Hid (∀ V, Below w.heap.size w V → Calls Try.prog 134 #[.int .i64 u, .pointer (some ⟨q, 0, none⟩), .pointer (some ⟨r, 0, none⟩), .pointer (some ⟨s, 0, none⟩)] V fun e w' => e = .returned (.int .i64 (nano wide wear shrink u)) ∧ V = w') := fun V hV =>
    width_any V q r s _ _ _ u (h.on hV (Nat.le_refl _)) a0 a1 b0 b1 g0 g1 d0 d1
  clear h
  obtain ⟨-, t0, t1⟩ := ht
  have HC := Lib.hid fun V => up_any (nano wide wear shrink u) 1000 V (by omega) (by omega) (by omega)
  generalize nano wide wear shrink u = t at *
  go_enter Try.func64, Try.ntmps64
  go_wp2_with fail
  have h0 : RdS w q r s (.func (.func 99) #[] #[]) (w.alloc (.cells #[.func (.func 134) #[] #[.pointer (some ⟨q, 0, none⟩), .pointer (some ⟨r, 0, none⟩), .pointer (some ⟨s, 0, none⟩)], .func (.func 99) #[] #[]] 109)) := ⟨by repeat (first | exact Below.refl _ _ | assumption | refine Below.drew ?_ | refine Below.alloc ?_ (by first | omega | (simp only [World.size_alloc]; omega) | simp) _ | refine Below.setCell ?_ (by first | omega | (simp only [World.size_alloc]; omega) | simp) _), by go_simp, by go_simp⟩
  unfold RdS at h0
  generalize World.alloc w _ = W0 at h0 ⊢
  go_region_held3 (fun W => Below w.heap.size w W ∧ W.cell? ⟨w.heap.size, 0, none⟩ = some (.func (.func 134) #[] #[.pointer (some ⟨q, 0, none⟩), .pointer (some ⟨r, 0, none⟩), .pointer (some ⟨s, 0, none⟩)]) ∧ W.cell? ⟨w.heap.size, 1, none⟩ = some (.func (.func 99) #[] #[])) (first | exact RdS.drew h0 | assumption | go_keep)
    (first
      | (go_at_call 134; (with_reducible refine (HW.out _ h0.1.drew).mono ?_); rintro e e' ⟨rfl, rfl⟩)
      | (go_at_call 99; (with_reducible refine (HC.out _).mono ?_); rintro e e' ⟨rfl, rfl⟩)
      | fail "no arm")
  go_wp2
  go_ret
  exact ⟨rfl, h0.1.drew⟩
end Go.Proofs.Ytdadgljllnkppaa
