/- The plain part of plans: what Follow says, and what a plan costs. -/
import Derived.Test.YtdadgljllnkppaaPb
namespace Go.Proofs.Ytdadgljllnkppaa

theorem get_after (s : Sta) (len : Int) {n j : Nat} (hn : n < 4) (hj : j < 4) : (s.after len n).get j = if j = n then s.get j + len else s.get j := by
  have hn4 : n = 0 ∨ n = 1 ∨ n = 2 ∨ n = 3 := by omega
  have hj4 : j = 0 ∨ j = 1 ∨ j = 2 ∨ j = 3 := by omega
  rcases hn4 with rfl | rfl | rfl | rfl <;> rcases hj4 with rfl | rfl | rfl | rfl <;> simp [Sta.after, Sta.get]
/-- The list of what was drawn, and the state, say the same. -/
def Alike (n : Nat) (u : List Int) (s : Sta) : Prop := u.length = n ∧ ∀ j, j < n → u.getD j 0 = s.get j
theorem Alike.start (n : Nat) : Alike n (List.replicate n 0) s0 := ⟨by simp, fun j hj => by
  rw [List.getD_eq_getElem?_getD]
  simp only [List.getElem?_replicate, hj, if_true, Option.getD_some]
  match j with
  | 0 => rfl
  | 1 => rfl
  | 2 => rfl
  | _ + 3 => rfl⟩
theorem Alike.step {n : Nat} {u : List Int} {s : Sta} (h : Alike n u s) (h4 : n ≤ 4) {d : Nat} (hd : d < n) (len : Int) : Alike n (u.set d (u.getD d 0 + len)) (s.after len d) := by
  refine ⟨by simp [h.1], fun j hj => ?_⟩
  rw [get_after s len (by omega) (by omega), ← h.2 j hj]
  simp only [List.getD_eq_getElem?_getD, List.getElem?_set]
  by_cases e : d = j
  · subst e
    rw [if_pos rfl, if_pos (by rw [h.1]; exact hd), if_pos rfl]
    rfl
  · rw [if_neg e, if_neg (fun x => e x.symm)]
theorem die_I (p : Press) (n : Nat) : p.dieI (n : Int) = p.die n := by simp [Press.dieI, Press.die]
theorem drop_cons' {plan : List Int} {i : Nat} (h : i < plan.length) : plan.drop i = plan.getD i 0 :: plan.drop (i + 1) := by
  rw [List.drop_eq_getElem_cons h]
  simp [List.getD_eq_getElem?_getD, h]
/-- What follows is followed. -/
theorem fol_goes {p : Press} (h4 : p.dies.length ≤ 4) (plan : List Int) : ∀ (l : List Draw) (i : Nat) (u : List Int) (s : Sta), Alike p.dies.length u s → i ≤ plan.length →
    (Goes p l s (plan.drop i) → (fol p plan l i u).err = 0 ∧ (fol p plan l i u).idx = i + l.length ∧ (fol p plan l i u).used.length = u.length) ∧ ((fol p plan l i u).err = 0 → Goes p l s (plan.drop i))
  | [], i, u, s, hA, hi => by
    unfold fol
    by_cases h : i < plan.length
    · rw [if_pos h, drop_cons' h]
      exact ⟨fun h => h.elim, fun h => by cases h⟩
    · rw [if_neg h, List.drop_of_length_le (by omega)]
      exact ⟨fun _ => ⟨rfl, rfl, rfl⟩, fun _ => trivial⟩
  | x :: l, i, u, s, hA, hi => by
    unfold fol
    by_cases h : plan.length ≤ i
    · rw [if_pos h, List.drop_of_length_le h]
      exact ⟨fun h => h.elim, fun h => by cases h⟩
    · rw [if_neg h, drop_cons' (by omega)]
      by_cases hr : fromB (plan.getD i 0) 0 ((p.dies.length : Int) - 1) = false
      · rw [if_pos hr]
        refine ⟨?_, fun h => by cases h⟩
        rintro ⟨n, e, h1, -, -⟩
        have : fromB (plan.getD i 0) 0 ((p.dies.length : Int) - 1) = true := fromB_iff.2 (by omega)
        rw [this] at hr; cases hr
      · rw [if_neg hr]
        have hr' : fromB (plan.getD i 0) 0 ((p.dies.length : Int) - 1) = true := by simpa using hr
        rw [fromB_iff] at hr'
        obtain ⟨n, hn⟩ := Int.eq_ofNat_of_zero_le hr'.1
        rw [hn] at hr' ⊢
        have hnl : n < p.dies.length := by omega
        rw [die_I, Int.toNat_natCast, hA.2 n hnl]
        have ih := fol_goes h4 plan l (i + 1) (u.set n (s.get n + x.len)) (s.after x.len n) (by have := hA.step h4 hnl x.len; rw [hA.2 n hnl] at this; exact this) (by omega)
        by_cases hd : doesB (p.die n) p.shrink x (s.get n) = false
        · rw [if_pos hd]
          refine ⟨?_, fun h => by cases h⟩
          rintro ⟨m, e, -, h2, -⟩
          have : n = m := by omega
          subst this
          rw [h2] at hd; cases hd
        · rw [if_neg hd]
          refine ⟨?_, fun h0 => ⟨n, rfl, hnl, by simpa using hd, ih.2 h0⟩⟩
          rintro ⟨m, e, -, -, h3⟩
          have : n = m := by omega
          subst this
          obtain ⟨a, b, c⟩ := ih.1 h3
          exact ⟨a, by rw [b]; simp only [List.length_cons]; omega, by rw [c]; simp⟩
/-- A plan of so many dies is followed, or refused. -/
theorem fol_refuse {p : Press} (plan : List Int) (hr : ∀ d ∈ plan, fromB d 0 ((p.dies.length : Int) - 1) = true) : ∀ (l : List Draw) (i : Nat) (u : List Int), plan.length = i + l.length → (fol p plan l i u).err ≠ 0 → (fol p plan l i u).err = 11 ∧ (fol p plan l i u).idx < i + l.length
  | [], i, u, hl, h => by
    unfold fol at h
    rw [if_neg (by simp at hl; omega)] at h
    exact absurd rfl h
  | x :: l, i, u, hl, h => by
    simp only [List.length_cons] at hl ⊢
    unfold fol at h ⊢
    rw [if_neg (by omega)] at h ⊢
    have hm : plan.getD i 0 ∈ plan := by
      rw [List.getD_eq_getElem?_getD, List.getElem?_eq_getElem (show i < plan.length by omega)]
      exact List.getElem_mem _
    rw [if_neg (by rw [hr _ hm]; simp)] at h ⊢
    split at h
    · rename_i hd
      rw [if_pos hd]
      exact ⟨rfl, by simp only; omega⟩
    · rename_i hd
      rw [if_neg hd]
      obtain ⟨a, b⟩ := fol_refuse plan hr l (i + 1) _ (by omega) h
      exact ⟨a, by omega⟩
/-- What a plan costs, as the document says it: one number after the other. -/
def costG (ch : Int) : Option Int → List Int → Int
  | _, [] => 0
  | none, d :: r => d + costG ch (some d) r
  | some b, d :: r => d + (if d = b then 0 else ch) + costG ch (some d) r
theorem costS_G {p : Press} (ch : Int) : ∀ (l : List Draw) (s : Sta) (b : Nat) (plan : List Int), Goes p l s plan → s.on = (b : Int) → costS ch l s plan = costG ch (some (b : Int)) plan
  | [], _, _, [], _, _ => rfl
  | [], _, _, _ :: _, h, _ => h.elim
  | _ :: _, _, _, [], h, _ => h.elim
  | x :: l, s, b, d :: plan, ⟨n, hd, _, _, h3⟩, hon => by
    subst hd
    show stepCost ch s ((n : Int)).toNat + costS ch l (s.after x.len ((n : Int)).toNat) plan = _
    rw [Int.toNat_natCast, costS_G ch l _ n plan h3 (Sta.after_on s x.len n)]
    unfold stepCost
    rw [hon]
    simp only [costG]
    by_cases e : (n : Int) = b
    · rw [if_pos (.inr e.symm), if_pos e]; omega
    · rw [if_neg (by omega), if_neg e]
theorem costS_none {p : Press} (ch : Int) : ∀ (l : List Draw) (plan : List Int), Goes p l s0 plan → costS ch l s0 plan = costG ch none plan
  | [], [], _ => rfl
  | [], _ :: _, h => h.elim
  | _ :: _, [], h => h.elim
  | x :: l, d :: plan, ⟨n, hd, _, _, h3⟩ => by
    subst hd
    show stepCost ch s0 ((n : Int)).toNat + costS ch l (s0.after x.len ((n : Int)).toNat) plan = _
    rw [Int.toNat_natCast, costS_G ch l _ n plan h3 (Sta.after_on s0 x.len n)]
    unfold stepCost
    rw [if_pos (.inl rfl)]
    rfl
theorem costG_snoc (ch : Int) : ∀ (a : List Int) (b : Option Int) (d : Int), costG ch b (a ++ [d]) = costG ch b a + (d + (match (match a.getLast? with | some e => some e | none => b) with | some e => if d = e then 0 else ch | none => 0))
  | [], none, d => by simp [costG]
  | [], some e, d => by simp [costG]
  | x :: a, b, d => by
    have ih := costG_snoc ch a (some x) d
    have hl : ∀ c : Option Int, (match (x :: a).getLast? with | some e => some e | none => c) = (match a.getLast? with | some e => some e | none => some x) := by
      intro c
      cases a with
      | nil => rfl
      | cons y a =>
        rw [List.getLast?_cons_cons]
        cases h : (y :: a).getLast? with
        | none => simp at h
        | some e => rfl
    rw [hl b]
    cases b with
    | none => simp only [List.cons_append, costG, ih]; omega
    | some e => simp only [List.cons_append, costG, ih]; omega
end Go.Proofs.Ytdadgljllnkppaa
