/- The plain part of plans: the best rest is a good plan; none costs less, and none that costs as much comes before. -/
import Derived.Test.YtdadgljllnkppaaPn
import Derived.Test.YtdadgljllnkppaaFo
namespace Go.Proofs.Ytdadgljllnkppaa

/-- A plan is followed to its end, from a state on. -/
def Goes (p : Press) : List Draw → Sta → List Int → Prop
  | [], _, [] => True
  | x :: l, s, d :: plan => (∃ n : Nat, d = (n : Int) ∧ n < p.dies.length ∧ doesB (p.die n) p.shrink x (s.get n) = true ∧ Goes p l (s.after x.len n) plan)
  | _, _, _ => False
def costS (ch : Int) : List Draw → Sta → List Int → Int
  | x :: l, s, d :: plan => stepCost ch s d.toNat + costS ch l (s.after x.len d.toNat) plan
  | _, _, _ => 0
def LexLe : List Int → List Int → Prop
  | x :: a, y :: b => x < y ∨ (x = y ∧ LexLe a b)
  | _, _ => True
theorem LexLe.refl : ∀ a : List Int, LexLe a a
  | [] => trivial
  | _ :: a => .inr ⟨rfl, LexLe.refl a⟩
theorem LexLe.at : ∀ {a b : List Int}, LexLe a b → ∀ (i : Nat) (ha : i < a.length) (hb : i < b.length), a.take i = b.take i → a[i] ≠ b[i] → a[i] < b[i]
  | [], _, _, i, ha, _, _, _ => by simp at ha
  | _ :: _, [], _, i, _, hb, _, _ => by simp at hb
  | x :: a, y :: b, h, 0, _, _, _, hne => by
    rcases h with h | ⟨h, -⟩
    · exact h
    · exact absurd h hne
  | x :: a, y :: b, h, i + 1, ha, hb, ht, hne => by
    simp only [List.take_succ_cons, List.cons.injEq] at ht
    rcases h with h | ⟨-, h⟩
    · omega
    · exact LexLe.at h i (by simpa using ha) (by simpa using hb) ht.2 hne
section
variable {p : Press} {x : Draw} {s : Sta} {sub : Nat → Rst}
def cand (p : Press) (s : Sta) (sub : Nat → Rst) (n : Nat) : Rst := ⟨(n : Int) :: (sub n).plan, stepCost p.change s n + (sub n).cost, (sub n).good⟩
theorem stepR_eq (r : Rst) (n : Nat) : stepR p x s sub r n = if doesB (p.die n) p.shrink x (s.get n) = true ∧ betterB (cand p s sub n) r = true then cand p s sub n else r := by
  unfold stepR cand
  split <;> simp_all
theorem scan_is : ∀ k, (scanTo p x s sub k).good = true → ∃ m, m < k ∧ doesB (p.die m) p.shrink x (s.get m) = true ∧ (sub m).good = true ∧ scanTo p x s sub k = cand p s sub m
  | 0, h => by simp [scanTo] at h
  | k + 1, h => by
    rw [scan_succ, stepR_eq] at h ⊢
    split at h
    · rename_i hc
      rw [if_pos hc]
      exact ⟨k, by omega, hc.1, h, rfl⟩
    · rename_i hc
      rw [if_neg hc]
      obtain ⟨m, h1, h2⟩ := scan_is k h
      exact ⟨m, by omega, h2⟩
theorem scan_min : ∀ k n, n < k → doesB (p.die n) p.shrink x (s.get n) = true → (sub n).good = true →
    (scanTo p x s sub k).good = true ∧ ((scanTo p x s sub k).cost < (cand p s sub n).cost ∨ ((scanTo p x s sub k).cost = (cand p s sub n).cost ∧ ∃ m, m ≤ n ∧ scanTo p x s sub k = cand p s sub m))
  | 0, n, h, _, _ => by omega
  | k + 1, n, hn, hd, hg => by
    rw [scan_succ, stepR_eq]
    by_cases hnk : n = k
    · subst hnk
      split
      · exact ⟨hg, .inr ⟨rfl, n, Nat.le_refl _, rfl⟩⟩
      · rename_i hc
        have hb : betterB (cand p s sub n) (scanTo p x s sub n) = false := by
          cases h : betterB (cand p s sub n) (scanTo p x s sub n) with
          | false => rfl
          | true => exact absurd ⟨hd, h⟩ hc
        unfold betterB at hb
        rw [show (cand p s sub n).good = true from hg, Bool.true_and, Bool.or_eq_false_iff] at hb
        obtain ⟨h1, h2⟩ := hb
        have hgd : (scanTo p x s sub n).good = true := by simpa using h1
        have hle := of_decide_eq_false h2
        refine ⟨hgd, ?_⟩
        obtain ⟨m, m1, -, -, m4⟩ := scan_is n hgd
        by_cases he : (scanTo p x s sub n).cost = (cand p s sub n).cost
        · exact .inr ⟨he, m, by omega, m4⟩
        · exact .inl (by omega)
    · obtain ⟨g1, g2⟩ := scan_min k n (by omega) hd hg
      split
      · rename_i hc
        have hb := hc.2
        unfold betterB at hb
        rw [g1] at hb
        simp only [Bool.not_true, Bool.false_or, Bool.and_eq_true, decide_eq_true_eq] at hb
        refine ⟨hb.1, .inl ?_⟩
        rcases g2 with g | ⟨g, -⟩ <;> omega
      · exact ⟨g1, g2⟩
end
theorem best_good (p : Press) : ∀ (l : List Draw) (s : Sta), (bestOf p l s).good = true → Goes p l s (bestOf p l s).plan ∧ costS p.change l s (bestOf p l s).plan = (bestOf p l s).cost ∧ (bestOf p l s).plan.length = l.length
  | [], _, _ => ⟨trivial, rfl, rfl⟩
  | x :: l, s, h => by
    obtain ⟨m, h1, h2, h3, h4⟩ := scan_is (p := p) (x := x) (s := s) (sub := fun n => bestOf p l (s.after x.len n)) p.dies.length h
    have he : bestOf p (x :: l) s = cand p s (fun n => bestOf p l (s.after x.len n)) m := h4
    obtain ⟨a, b, c⟩ := best_good p l (s.after x.len m) h3
    rw [he]
    refine ⟨⟨m, rfl, h1, h2, a⟩, ?_, ?_⟩
    · show stepCost p.change s ((m : Int)).toNat + costS p.change l (s.after x.len ((m : Int)).toNat) _ = _
      rw [Int.toNat_natCast, b]
      rfl
    · simp [cand, c]
theorem best_least (p : Press) : ∀ (l : List Draw) (s : Sta) (plan : List Int), Goes p l s plan →
    (bestOf p l s).good = true ∧ ((bestOf p l s).cost < costS p.change l s plan ∨ ((bestOf p l s).cost = costS p.change l s plan ∧ LexLe (bestOf p l s).plan plan))
  | [], _, [], _ => ⟨rfl, .inr ⟨rfl, trivial⟩⟩
  | [], _, _ :: _, h => h.elim
  | _ :: _, _, [], h => h.elim
  | x :: l, s, d :: plan, ⟨n, hd, h1, h2, h3⟩ => by
    subst hd
    obtain ⟨g, hc⟩ := best_least p l (s.after x.len n) plan h3
    obtain ⟨g1, g2⟩ := scan_min (p := p) (x := x) (s := s) (sub := fun n => bestOf p l (s.after x.len n)) p.dies.length n h1 h2 g
    have he : bestOf p (x :: l) s = scanTo p x s (fun n => bestOf p l (s.after x.len n)) p.dies.length := rfl
    have hs : costS p.change (x :: l) s ((n : Int) :: plan) = stepCost p.change s n + costS p.change l (s.after x.len n) plan := by
      show stepCost p.change s ((n : Int)).toNat + costS p.change l (s.after x.len ((n : Int)).toNat) _ = _
      rw [Int.toNat_natCast]
    rw [hs, he]
    have hcn : (cand p s (fun n => bestOf p l (s.after x.len n)) n).cost = stepCost p.change s n + (bestOf p l (s.after x.len n)).cost := rfl
    rw [hcn] at g2
    refine ⟨g1, ?_⟩
    rcases g2 with g2 | ⟨g2, m, m1, m2⟩
    · rcases hc with hc | ⟨hc, -⟩ <;> exact .inl (by omega)
    · rcases hc with hc | ⟨hc, hx⟩
      · exact .inl (by omega)
      · refine .inr ⟨by omega, ?_⟩
        rw [m2]
        show ((m : Int) < n) ∨ ((m : Int) = n ∧ LexLe _ _)
        by_cases hmn : m = n
        · subst hmn; exact .inr ⟨rfl, hx⟩
        · exact .inl (by omega)
end Go.Proofs.Ytdadgljllnkppaa
