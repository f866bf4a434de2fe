/- The law SackMixed, whatever the input: true. -/
import Derived.Test.YtkeplgpeokjdkaaMc
import Derived.Test.YtkeplgpeokjdkaaPm
namespace Go.Proofs.Ytkeplgpeokjdkaa
open Go.RowKit Go.Shelf

theorem mixOk_iff {l : List Sack} {first second total wl wh : Int} (h : mixOk l first second total wl wh = true) : (0 ≤ first ∧ first < l.length) ∧ (0 ≤ second ∧ second < l.length) ∧ first ≠ second ∧ 2 ≤ total ∧ total ≤ 100000 ∧ withinB ⟨wl, wh⟩ 0 1000 = true := by
  simp only [mixOk, idxB, Bool.and_eq_true, decide_eq_true_eq, Bool.not_eq_true', beq_eq_false_iff_ne] at h
  obtain ⟨⟨⟨⟨h1, h2⟩, h3⟩, h4⟩, h5⟩ := h
  exact ⟨h1, h2, h3, h4.1, h4.2, h5⟩
theorem mixed_any (w : World) (A : Option Addr) (c : Nat) (l : List Sack) (first second total wl wh bY : Int) (hl : l.length ≤ 9223372036854775807) (hA : SackSl w w.heap.size A l) (hb0 : 0 ≤ bY) (hb1 : bY ≤ 4294967295) :
    Calls Try.prog 8 #[.slice A l.length c, .int .i64 first, .int .i64 second, .int .i64 total, .agg #[.int .i64 wl, .int .i64 wh], .int .u32 bY] w (Ret (.bool true) w) := by
  by_cases h12 : 12 < l.length
  · exact mixed_large w A c l first second total wl wh bY hl h12
  · cases hv : sacksOk l with
    | false => exact mixed_early w A c l first second total wl wh bY (by omega) hA 1 (.inl ⟨rfl, hv⟩) fun W hW => mix_no W A c l first second total wl wh (by omega) hW hv
    | true =>
      cases hm : mixOk l first second total wl wh with
      | false => exact mixed_early w A c l first second total wl wh bY (by omega) hA 2 (.inr ⟨rfl, hv⟩) fun W hW => mix_range W A c l first second total wl wh (by omega) hW hv hm
      | true =>
        obtain ⟨⟨f0, f1⟩, ⟨s0, s1⟩, hne, ht, ht', hw⟩ := mixOk_iff hm
        obtain ⟨n1, rfl⟩ : ∃ n : Nat, first = n := ⟨first.toNat, by omega⟩
        obtain ⟨n2, rfl⟩ : ∃ n : Nat, second = n := ⟨second.toNat, by omega⟩
        have h1 : n1 < l.length := by omega
        have h2 : n2 < l.length := by omega
        have hM : ∀ W, SackSl W W.heap.size A l → Calls Try.prog 17 #[.slice A l.length c, .int .i64 n1, .int .i64 n2, .int .i64 total, .agg #[.int .i64 wl, .int .i64 wh]] W (Ret (numV (mixA l[n1] l[n2] total wl wh) (mixZ l[n1] l[n2] total wl wh)) W) :=
          fun W hW => mix_yes W A c l n1 n2 total wl wh (by omega) hW hv h1 h2 (by simpa using hne) ht ht' hw
        have hS := mix_spec hv h1 h2 (by omega) ht ht' hw
        have ha : 1 ≤ mixA l[n1] l[n2] total wl wh := Int.le_max_right _ _
        have hz : mixZ l[n1] l[n2] total wl wh ≤ total - 1 := Int.min_le_right _ _
        generalize mixA l[n1] l[n2] total wl wh = a at hM hS ha
        generalize mixZ l[n1] l[n2] total wl wh = b at hM hS hz
        by_cases hab : a ≤ b
        · simp only [numV, if_pos hab] at hM
          exact mixed_some w A c l n1 n2 total wl wh bY a b (by omega) hA hv h1 h2 ht ht' hb0 hb1 ha hab hz hM hS
        · simp only [numV, if_neg hab] at hM
          exact mixed_none w A c l n1 n2 total wl wh bY (by omega) hA hv h1 h2 ht ht' hb0 hb1 hM fun n hn hn' => by
            rw [hS n hn hn']; simp; omega
end Go.Proofs.Ytkeplgpeokjdkaa
