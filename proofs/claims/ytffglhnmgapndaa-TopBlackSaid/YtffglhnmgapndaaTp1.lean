/- The law TopBlack: its small parts. -/
import Derived.Test.YtffglhnmgapndaaSh9
import Derived.Test.YtffglhnmgapndaaQe
namespace Go.Proofs.Ytffglhnmgapndaa
open Go.RowKit Go.Shelf

theorem tmod_nat (j : Int) (n : Nat) (h : 0 ≤ j) : j.tmod (n : Int) = ((j.toNat % n : Nat) : Int) := by
  rw [Int.tmod_eq_emod_of_nonneg h]
  obtain ⟨k, rfl⟩ := Int.eq_ofNat_of_zero_le h
  simp

set_option maxHeartbeats 1000000 in
theorem pickC_any (w : World) (q b off cp : Nat) (lo hi j : Int) (ys : List Int) (hne : ys.length ≠ 0) (hmax : ys.length ≤ 9223372036854775807) (hq : w.cell? ⟨q, 0, none⟩ = some (.slice (some ⟨b, off, none⟩) ys.length cp)) (hql : q < w.heap.size) (hbl : b < w.heap.size)
    (hy : ∀ i (h : i < ys.length), w.cell? ⟨b, off + i, none⟩ = some (.int .u32 ys[i])) (hys : ∀ y ∈ ys, 0 ≤ y ∧ y ≤ 4294967295) (h0 : 0 ≤ lo) (h1 : lo ≤ hi) (h2 : hi ≤ 100000) (j0 : 0 ≤ j) (_j1 : j ≤ 1000) :
    Calls Try.prog 11 #[.agg #[.int .i64 lo, .int .i64 hi], .int .i64 j, .pointer (some ⟨q, 0, none⟩)] w (Ret (.int .i64 (pickV lo hi (ysAt ys j.toNat))) w) := by
  obtain ⟨k, hk, hlt⟩ : ∃ k, j.toNat % ys.length = k ∧ k < ys.length := ⟨_, rfl, Nat.mod_lt _ (by omega)⟩
  have hc := hy k hlt
  have hm := hys _ (List.getElem_mem hlt)
  have HY : Hid (ysAt ys j.toNat = ys[k]) := Lib.hid (by simp [ysAt, hk, hlt])
  have ht := tmod_nat j ys.length j0
  rw [hk] at ht
  have hk0 : (0 : Int) ≤ (k : Int) := by omega
  have hk1 : (k : Int) < (ys.length : Int) := by omega
  clear hy hys hk
  generalize ys[k] = y at *
  obtain ⟨y0, y1⟩ := hm
  have hb := pickV_bd (y := y) h1
  unfold pickV at hb
  obtain ⟨hb1, hb2⟩ := hb
  have hz : ((ys.length : Int) == 0) = false := by rw [beq_eq_false_iff_ne]; omega
  rw [HY.out]
  clear HY
  go_enter Try.func11, Try.ntmps11
  go_wp2
  go_quiet ((fail))
  go_wp2
  go_ret
  refine ⟨ret_int ?_, ?_⟩
  · rfl
  · exact below_drewN ((Below.refl _ _).alloc (Nat.le_refl _) _) _

/-- What is never below 0 is never below 0 together. -/
theorem together_zero : ∀ l : List Held, (together l fun _ => 0).least = 0 := by
  intro l
  have key : ∀ (l : List Held) (r : Reach), r.least = 0 → (l.foldl (fun (r : Reach) (h : Held) => r.plus (h.adds fun _ => 0)) r).least = 0 := by
    intro l
    induction l with
    | nil => exact fun _ h => h
    | cons h l ih =>
      intro r hr
      refine ih _ ?_
      have ha : (h.adds fun _ => 0).least = 0 := by
        simp [Held.adds, Held.corners, Span.ends, Reach.step, maxI, minI]
        decide
      simp [Reach.plus, hr, ha]
  exact key l _ rfl
theorem clay_lo {l : List Sack} {b : List Take} (hv : validB l b = true) : 0 ≤ (partOf l b 3).lo := by
  have h := (together_mono (helds_ok hv) (g := fun _ => 0) (g' := partG 3) fun t ht => (St.clay_bd ht).1).1
  rw [together_zero] at h
  exact Int.ediv_nonneg h (by omega)
theorem part_le {l : List Sack} {b : List Take} (hv : validB l b = true) (ys : List Int) (k : Nat) : (partOf l b k).lo ≤ (partOf l b k).hi := by
  have h := (truth_is ys hv).inside k
  omega
end Go.Proofs.Ytffglhnmgapndaa
