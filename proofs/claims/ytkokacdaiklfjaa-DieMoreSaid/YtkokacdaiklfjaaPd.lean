/- Numbers of the law DieEnds. -/
import Derived.Test.YtkokacdaiklfjaaRl
import Derived.Test.YtkokacdaiklfjaaIt
namespace Go.Proofs.Ytkokacdaiklfjaa

/-- A press whose die k has one wear, and whose leads shrink by one amount. -/
def oneP (p : Press) (k : Nat) (we sh : Int) : Press := ⟨p.dies.set k ⟨(p.die k).wide, ⟨we, we⟩⟩, ⟨sh, sh⟩, p.change⟩
theorem oneP_ok {p : Press} {k : Nat} {we sh : Int} (h : pressOk p = true) (hk : k < p.dies.length) (h1 : 0 ≤ we) (h2 : we ≤ 200) (h3 : 0 ≤ sh) (h4 : sh ≤ 300) : pressOk (oneP p k we sh) = true := by
  have hd := (press_parts h).2.1 _ (List.getElem_mem hk)
  simp only [pressOk, endB, Bool.and_eq_true, fromB_iff, withinB_iff, List.all_eq_true] at h ⊢
  obtain ⟨⟨a1, b1⟩, c1, d1⟩ := h
  refine ⟨⟨by simpa [oneP] using a1, ?_⟩, by simp only [oneP]; omega, d1⟩
  intro d hm
  simp only [oneP] at hm
  rcases List.mem_or_eq_of_mem_set hm with hm | rfl
  · exact b1 d hm
  · rw [Press.die_eq p hk]
    simp only [dieOk, Bool.and_eq_true, fromB_iff, withinB_iff]
    exact ⟨⟨hd.1, hd.2.1⟩, h1, Int.le_refl _, h2⟩
theorem oneP_die {p : Press} {k : Nat} {we sh : Int} (hk : k < p.dies.length) : (oneP p k we sh).dieI (k : Int) = ⟨p.dies[k].wide, ⟨we, we⟩⟩ := by
  simp [Press.dieI, oneP, hk, Press.die_eq p hk]
theorem wideE_k {p : Press} {k : Nat} {u : Int} (h : pressOk p = true) (hk : k < p.dies.length) (h0 : 0 ≤ u) (h1 : u ≤ 8000) : wideE p k u = 0 := by
  rw [wideE_ok h, if_pos]
  rw [Bool.and_eq_true, fromB_iff, fromB_iff]
  omega
theorem wideS_k {p : Press} {k : Nat} {u : Int} (h : pressOk p = true) (hk : k < p.dies.length) (h0 : 0 ≤ u) (h1 : u ≤ 8000) : wideS p k u = ⟨thin p.dies[k] p.shrink u / 1000, cdiv (thick p.dies[k] p.shrink u) 1000⟩ := by
  unfold wideS
  rw [if_pos (wideE_k h hk h0 h1)]
  simp [Press.dieI, hk]
theorem oneP_wide {p : Press} {k : Nat} {we sh u : Int} (h : pressOk p = true) (hk : k < p.dies.length) (h1 : 0 ≤ we) (h2 : we ≤ 200) (h3 : 0 ≤ sh) (h4 : sh ≤ 300) (h5 : 0 ≤ u) (h6 : u ≤ 8000) :
    wideE (oneP p k we sh) k u = 0 ∧ wideS (oneP p k we sh) k u = ⟨nano p.dies[k].wide we sh u / 1000, cdiv (nano p.dies[k].wide we sh u) 1000⟩ := by
  have hl : (oneP p k we sh).dies.length = p.dies.length := by simp [oneP]
  have he := wideE_k (oneP_ok h hk h1 h2 h3 h4) (show k < (oneP p k we sh).dies.length by omega) h5 h6
  refine ⟨he, ?_⟩
  unfold wideS
  rw [if_pos he, oneP_die hk]
  rfl
def goodB (d : Die) (s : Span) (want : Span) (u : Int) : Bool := decide (1000 * want.lo ≤ thin d s u) && decide (thick d s u ≤ 1000 * want.hi)
theorem goodB_iff {d : Die} {s want : Span} (hd : DieIn d) (hs : ShrIn s) {x : Int} (h0 : 0 ≤ x) (h1 : x ≤ 8000) : goodB d s want x = true ↔ fromN d s want.lo ≤ x ∧ x ≤ toN d s want.hi := by
  obtain ⟨a, b⟩ := good_iff (want := want) hd hs h0 (show x < 8001 by omega)
  rw [goodB, Bool.and_eq_true, decide_eq_true_eq, decide_eq_true_eq, a, b]
/-- What is known of the first and the last number of hundreds of metres. -/
theorem ends_last {p : Press} {k : Nat} (want : Span) (h : pressOk p = true) (hk : k < p.dies.length) :
    (∃ f t : Int, lastR p k want = ⟨f, t, 0⟩ ∧ 0 ≤ f ∧ f ≤ t ∧ t ≤ 8000 ∧ 0 ≤ want.lo ∧ want.lo ≤ 20000 ∧ 0 ≤ want.hi ∧ want.hi ≤ 20000 ∧ ∀ u, 0 ≤ u → u ≤ 8000 → goodB p.dies[k] p.shrink want u = decide (f ≤ u ∧ u ≤ t)) ∨
    lastR p k want = ⟨0, 0, 2⟩ ∨
    (lastR p k want = ⟨0, 0, 4⟩ ∧ 0 ≤ want.lo ∧ want.lo ≤ 20000 ∧ 0 ≤ want.hi ∧ want.hi ≤ 20000 ∧ ∀ u, 0 ≤ u → u ≤ 8000 → goodB p.dies[k] p.shrink want u = false) := by
  obtain ⟨-, hdi, hsh, -⟩ := press_parts h
  have hd := hdi _ (List.getElem_mem hk)
  have hdI : p.dieI (k : Int) = p.dies[k] := by simp [Press.dieI, hk]
  have f1 := fromN_bd hd hsh want.lo
  have f2 := toN_bd hd hsh want.hi
  unfold lastR
  rw [hdI, lastE_ok h]
  by_cases hv : (fromB (k : Int) 0 ((p.dies.length : Int) - 1) && withinB want 0 20000) = true
  · rw [if_pos hv, if_pos rfl]
    rw [Bool.and_eq_true, fromB_iff, withinB_iff] at hv
    by_cases hc : fromN p.dies[k] p.shrink want.lo ≤ toN p.dies[k] p.shrink want.hi
    · rw [if_pos hc]
      refine .inl ⟨_, _, rfl, f1.1, hc, f2.2, by omega, by omega, by omega, by omega, fun u h0 h1 => ?_⟩
      rw [Bool.eq_iff_iff, goodB_iff hd hsh h0 h1, decide_eq_true_eq]
    · rw [if_neg hc]
      refine .inr (.inr ⟨rfl, by omega, by omega, by omega, by omega, fun u h0 h1 => ?_⟩)
      rw [Bool.eq_false_iff]
      intro hg
      rw [goodB_iff hd hsh h0 h1] at hg
      omega
  · rw [if_neg hv, if_neg (by decide)]
    exact .inr (.inl rfl)
theorem cdiv_le (a : Int) : cdiv a 1000 ≤ a / 1000 + 1 := by unfold cdiv; omega
theorem cdiv_mono {a b : Int} (h : a ≤ b) : cdiv a 1000 ≤ cdiv b 1000 := by unfold cdiv; omega
theorem ends_mono {d : Die} {s : Span} (hd : DieIn d) (hs : ShrIn s) {u v : Int} (h : u ≤ v) : thin d s u / 1000 ≤ thin d s v / 1000 ∧ cdiv (thick d s u) 1000 ≤ cdiv (thick d s v) 1000 := by
  obtain ⟨-, -, d3, d4, d5⟩ := hd
  obtain ⟨g1, g2, g3⟩ := hs
  have a := nano_mono (wide := d.wide) (wear := d.wear.lo) (shrink := s.hi) d3 g3 h
  have b := nano_mono (wide := d.wide) (wear := d.wear.hi) (shrink := s.lo) (by omega) (by omega) h
  refine ⟨?_, cdiv_mono b⟩
  unfold thin
  omega
end Go.Proofs.Ytkokacdaiklfjaa
