/- The plain part of the document's best plan: all plans in order; the first of those that cost least is the best rest. -/
import Derived.Test.YtdadgljllnkppaaPc
namespace Go.Proofs.Ytdadgljllnkppaa

/-- All lists of so many numbers of dies, in order. -/
def tailsL (D : Nat) : Nat → List (List Int)
  | 0 => [[]]
  | k + 1 => (List.range D).flatMap fun (d : Nat) => (tailsL D k).map ((d : Int) :: ·)
/-- All plans that go on from some. -/
def plansL (D k : Nat) (b : List Int) : List (List Int) := (tailsL D k).map (b ++ ·)
theorem plans_zero (D : Nat) (b : List Int) : plansL D 0 b = [b] := by simp [plansL, tailsL]
theorem plans_succ (D k : Nat) (b : List Int) : plansL D (k + 1) b = (List.range D).flatMap fun (d : Nat) => plansL D k (b ++ [(d : Int)]) := by
  simp only [plansL, tailsL, List.map_flatMap, List.map_map]
  refine congrArg (List.flatMap · _) (funext fun d => List.map_congr_left fun x _ => ?_)
  simp
theorem tails_len (D : Nat) : ∀ k, (tailsL D k).length = D ^ k
  | 0 => rfl
  | k + 1 => by
    simp only [tailsL, List.length_flatMap, List.length_map, tails_len D k]
    rw [List.map_const', List.length_range, List.sum_replicate_nat, Nat.pow_succ, Nat.mul_comm]
theorem tails_mem (D : Nat) : ∀ k x, x ∈ tailsL D k → x.length = k ∧ ∀ d ∈ x, fromB d 0 ((D : Int) - 1) = true
  | 0, x, h => by
    simp only [tailsL, List.mem_singleton] at h
    subst h
    exact ⟨rfl, fun d hd => by simp at hd⟩
  | k + 1, x, h => by
    simp only [tailsL, List.mem_flatMap, List.mem_range, List.mem_map] at h
    obtain ⟨d, hd, y, hy, rfl⟩ := h
    obtain ⟨h1, h2⟩ := tails_mem D k y hy
    refine ⟨by simp [h1], fun e he => ?_⟩
    rcases List.mem_cons.1 he with rfl | he
    · rw [fromB_iff]; omega
    · exact h2 e he
theorem tails_split (D : Nat) : ∀ (k : Nat) (t : List Int), t.length = k → (∀ d ∈ t, fromB d 0 ((D : Int) - 1) = true) → ∃ pre post, tailsL D k = pre ++ t :: post ∧ ∀ x ∈ pre, ¬ LexLe t x
  | 0, t, h, _ => by
    obtain rfl := List.eq_nil_of_length_eq_zero h
    exact ⟨[], [], rfl, fun x hx => by simp at hx⟩
  | k + 1, [], h, _ => by simp at h
  | k + 1, d :: t, h, hr => by
    obtain ⟨h1, h2⟩ := fromB_iff.1 (hr d (by simp))
    obtain ⟨n, rfl⟩ := Int.eq_ofNat_of_zero_le h1
    obtain ⟨pre, post, e, hp⟩ := tails_split D k t (by simpa using h) (fun x hx => hr x (by simp [hx]))
    have hs : List.range D = List.range n ++ n :: (List.range (D - n - 1)).map (n + 1 + ·) := by
      have e1 : D = n + (1 + (D - n - 1)) := by omega
      conv => lhs; rw [e1]
      rw [List.range_add, List.range_add]
      simp [Nat.add_assoc]
    refine ⟨(List.range n).flatMap (fun (d : Nat) => (tailsL D k).map ((d : Int) :: ·)) ++ pre.map ((n : Int) :: ·), post.map ((n : Int) :: ·) ++ ((List.range (D - n - 1)).map (n + 1 + ·)).flatMap (fun (d : Nat) => (tailsL D k).map ((d : Int) :: ·)), ?_, ?_⟩
    · simp only [tailsL]
      rw [hs, List.flatMap_append, List.flatMap_cons, e]
      simp
    · intro x hx hl
      rcases List.mem_append.1 hx with hx | hx
      · simp only [List.mem_flatMap, List.mem_range, List.mem_map] at hx
        obtain ⟨m, hm, y, hy, rfl⟩ := hx
        rcases hl with hl | ⟨hl, -⟩ <;> omega
      · obtain ⟨y, hy, rfl⟩ := List.mem_map.1 hx
        rcases hl with hl | ⟨-, hl⟩
        · omega
        · exact hp y hy hl
/-- Is a plan followed? -/
def goB (p : Press) (l : List Draw) (x : List Int) : Bool := decide ((fol p x l 0 (List.replicate p.dies.length 0)).err = 0)
/-- The first of the good plans that cost least. -/
def pickP (p : Press) (l : List Draw) : Option (List Int) → List (List Int) → Option (List Int)
  | a, [] => a
  | a, x :: r => pickP p l (if goB p l x = true ∧ (∀ y, a = some y → costG p.change none x < costG p.change none y) then some x else a) r
theorem pick_append (p : Press) (l : List Draw) : ∀ (x : List (List Int)) (a : Option (List Int)) (y : List (List Int)), pickP p l a (x ++ y) = pickP p l (pickP p l a x) y
  | [], _, _ => rfl
  | _ :: x, _, y => pick_append p l x _ y
/-- .. of some, beside one: it is one of them. -/
theorem pick_is (p : Press) (l : List Draw) : ∀ (r : List (List Int)) (a : Option (List Int)) (y : List Int), pickP p l a r = some y → a = some y ∨ (y ∈ r ∧ goB p l y = true)
  | [], a, y, h => .inl h
  | x :: r, a, y, h => by
    rcases pick_is p l r _ y h with h1 | ⟨h1, h2⟩
    · split at h1
      · rename_i hc
        cases h1
        exact .inr ⟨by simp, hc.1⟩
      · exact .inl h1
    · exact .inr ⟨by simp [h1], h2⟩
theorem pick_keep (p : Press) (l : List Draw) (b : List Int) : ∀ (r : List (List Int)), (∀ x ∈ r, goB p l x = true → costG p.change none b ≤ costG p.change none x) → pickP p l (some b) r = some b
  | [], _ => rfl
  | x :: r, h => by
    show pickP p l (if _ then _ else _) r = _
    rw [if_neg]
    · exact pick_keep p l b r fun x hx => h x (by simp [hx])
    · rintro ⟨h1, h2⟩
      have := h x (by simp) h1
      have := h2 b rfl
      omega
theorem pick_best {p : Press} {l : List Draw} {b : List Int} {pre post : List (List Int)} (hb : goB p l b = true) (h1 : ∀ x ∈ pre, goB p l x = true → costG p.change none b < costG p.change none x) (h2 : ∀ x ∈ post, goB p l x = true → costG p.change none b ≤ costG p.change none x) :
    pickP p l none (pre ++ b :: post) = some b := by
  rw [pick_append]
  show pickP p l (if _ then _ else _) post = _
  rw [if_pos]
  · exact pick_keep p l b post h2
  · refine ⟨hb, fun y hy => ?_⟩
    rcases pick_is p l pre none y hy with h | ⟨h3, h4⟩
    · cases h
    · exact h1 y h3 h4
theorem pick_none (p : Press) (l : List Draw) : ∀ (r : List (List Int)), (∀ x ∈ r, goB p l x = false) → pickP p l none r = none
  | [], _ => rfl
  | x :: r, h => by
    show pickP p l (if _ then _ else _) r = _
    rw [if_neg]
    · exact pick_none p l r fun x hx => h x (by simp [hx])
    · rintro ⟨h1, -⟩
      rw [h x (by simp)] at h1
      cases h1
theorem go_goes {p : Press} (hp : pressOk p = true) {l : List Draw} {x : List Int} : goB p l x = true ↔ Goes p l s0 x := by
  have h := fol_goes (p := p) (press_parts hp).1.2 x l 0 (List.replicate p.dies.length 0) s0 (Alike.start _) (Nat.zero_le _)
  rw [List.drop_zero] at h
  unfold goB
  rw [decide_eq_true_eq]
  exact ⟨h.2, fun hg => (h.1 hg).1⟩
theorem goes_mem {p : Press} : ∀ (l : List Draw) (s : Sta) (x : List Int), Goes p l s x → x.length = l.length ∧ ∀ d ∈ x, fromB d 0 ((p.dies.length : Int) - 1) = true
  | [], _, [], _ => ⟨rfl, fun d hd => by simp at hd⟩
  | [], _, _ :: _, h => h.elim
  | _ :: _, _, [], h => h.elim
  | x :: l, s, d :: plan, ⟨n, hd, h1, h2, h3⟩ => by
    obtain ⟨a, b⟩ := goes_mem l _ plan h3
    refine ⟨by simp [a], fun e he => ?_⟩
    rcases List.mem_cons.1 he with rfl | he
    · rw [fromB_iff]; omega
    · exact b e he
/-- The document's best plan is the best rest. -/
theorem pick_all {p : Press} (hp : pressOk p = true) (l : List Draw) :
    pickP p l none (plansL p.dies.length l.length []) = (if (bestOf p l s0).good = true then some (bestOf p l s0).plan else none) ∧ ((bestOf p l s0).good = true → costG p.change none (bestOf p l s0).plan = (bestOf p l s0).cost) := by
  have e : plansL p.dies.length l.length [] = tailsL p.dies.length l.length := by simp [plansL]
  rw [e]
  by_cases hg : (bestOf p l s0).good = true
  · rw [if_pos hg]
    obtain ⟨a, b, c⟩ := best_good p l s0 hg
    have hc : costG p.change none (bestOf p l s0).plan = (bestOf p l s0).cost := by rw [← costS_none p.change l _ a, b]
    refine ⟨?_, fun _ => hc⟩
    obtain ⟨pre, post, hs, hpre⟩ := tails_split p.dies.length l.length (bestOf p l s0).plan c (goes_mem l s0 _ a).2
    rw [hs]
    refine pick_best ((go_goes hp).2 a) (fun x hx hgx => ?_) (fun x _ hgx => ?_)
    · have hx' := (go_goes hp).1 hgx
      obtain ⟨-, h⟩ := best_least p l s0 x hx'
      rw [hc, ← costS_none p.change l _ hx']
      rcases h with h | ⟨h, h'⟩
      · exact h
      · exact absurd h' (hpre x hx)
    · have hx' := (go_goes hp).1 hgx
      obtain ⟨-, h⟩ := best_least p l s0 x hx'
      rw [hc, ← costS_none p.change l _ hx']
      rcases h with h | ⟨h, -⟩ <;> omega
  · rw [if_neg hg]
    refine ⟨pick_none p l _ fun x _ => ?_, fun h => absurd h hg⟩
    cases h : goB p l x with
    | false => rfl
    | true => exact absurd (best_least p l s0 x ((go_goes hp).1 h)).1 hg
end Go.Proofs.Ytdadgljllnkppaa
