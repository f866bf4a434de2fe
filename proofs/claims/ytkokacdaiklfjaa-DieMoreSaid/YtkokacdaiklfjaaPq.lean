/- Numbers of the law DieMore: a plan that is followed is followed with a narrower press, with wider draws, with one die more, and but for its end. -/
import Derived.Test.YtkokacdaiklfjaaRf
import Derived.Test.YtkokacdaiklfjaaPc
import Derived.Test.YtkokacdaiklfjaaPd
namespace Go.Proofs.Ytkokacdaiklfjaa

theorem get_after0 {s : Sta} {len : Int} {n : Nat} (hn : n < 4) (h : ∀ j, j < 4 → 0 ≤ s.get j) (hl : 0 ≤ len) : ∀ j, j < 4 → 0 ≤ (s.after len n).get j := fun j hj => by
  rw [get_after s len hn hj]
  have := h j hj
  split <;> omega
theorem goes_map {p p' : Press} {f : Draw → Draw} (h4 : p.dies.length ≤ 4) (hn : p.dies.length ≤ p'.dies.length) (hf : ∀ x, (f x).len = x.len)
    (hd : ∀ n (x : Draw) u, n < p.dies.length → 0 ≤ u → doesB (p.die n) p.shrink x u = true → doesB (p'.die n) p'.shrink (f x) u = true) (ch : Int) :
    ∀ (l : List Draw) (s : Sta) (plan : List Int), (∀ x ∈ l, 0 ≤ x.len) → (∀ j, j < 4 → 0 ≤ s.get j) → Goes p l s plan → Goes p' (l.map f) s plan ∧ costS ch (l.map f) s plan = costS ch l s plan
  | [], _, [], _, _, _ => ⟨trivial, rfl⟩
  | [], _, _ :: _, _, _, h => h.elim
  | _ :: _, _, [], _, _, h => h.elim
  | x :: l, s, d :: plan, hl, hs, ⟨n, e, h1, h2, h3⟩ => by
    subst e
    have hx := hl x (by simp)
    obtain ⟨a, b⟩ := goes_map h4 hn hf hd ch l (s.after x.len n) plan (fun y hy => hl y (by simp [hy])) (get_after0 (by omega) hs hx) h3
    refine ⟨⟨n, rfl, by omega, hd n x _ h1 (hs n (by omega)) h2, by rw [hf]; exact a⟩, ?_⟩
    show stepCost ch s ((n : Int)).toNat + costS ch (l.map f) (s.after (f x).len ((n : Int)).toNat) plan = stepCost ch s ((n : Int)).toNat + costS ch l (s.after x.len ((n : Int)).toNat) plan
    rw [hf, Int.toNat_natCast, b]
theorem step_pos {ch : Int} (hch : 0 ≤ ch) (s : Sta) (n : Nat) : 0 ≤ stepCost ch s n := by
  unfold stepCost
  split <;> omega
theorem cost_pos {ch : Int} (hch : 0 ≤ ch) : ∀ (l : List Draw) (s : Sta) (plan : List Int), 0 ≤ costS ch l s plan
  | [], _, _ => by simp [costS]
  | _ :: _, _, [] => by simp [costS]
  | x :: l, s, d :: plan => by
    have := step_pos hch s d.toNat
    have := cost_pos hch l (s.after x.len d.toNat) plan
    show 0 ≤ stepCost ch s d.toNat + costS ch l (s.after x.len d.toNat) plan
    omega
theorem goes_take {p : Press} {ch : Int} (hch : 0 ≤ ch) : ∀ (m : Nat) (l : List Draw) (s : Sta) (plan : List Int), Goes p l s plan → Goes p (l.take m) s (plan.take m) ∧ costS ch (l.take m) s (plan.take m) ≤ costS ch l s plan
  | 0, l, s, plan, _ => ⟨by simp [Goes], by have := cost_pos hch l s plan; simpa [costS] using this⟩
  | m + 1, [], _, [], _ => ⟨trivial, Int.le_refl _⟩
  | m + 1, [], _, _ :: _, h => h.elim
  | m + 1, _ :: _, _, [], h => h.elim
  | m + 1, x :: l, s, d :: plan, ⟨n, e, h1, h2, h3⟩ => by
    subst e
    obtain ⟨a, b⟩ := goes_take hch m l (s.after x.len n) plan h3
    refine ⟨⟨n, rfl, h1, h2, a⟩, ?_⟩
    show stepCost ch s ((n : Int)).toNat + costS ch (l.take m) (s.after x.len ((n : Int)).toNat) (plan.take m) ≤ stepCost ch s ((n : Int)).toNat + costS ch l (s.after x.len ((n : Int)).toNat) plan
    rw [Int.toNat_natCast]
    omega
theorem s0_pos : ∀ j, j < 4 → 0 ≤ s0.get j := fun j _ => by
  match j with
  | 0 => exact Int.le_refl _
  | 1 => exact Int.le_refl _
  | 2 => exact Int.le_refl _
  | _ + 3 => exact Int.le_refl _
/-- The best plan, where there is one. -/
theorem plan_of {p : Press} {l : List Draw} (h1 : pressOk p = true) (h2 : drawsOk l = true) (he : planE p l = 0) : Goes p l s0 (planP p l) ∧ costS p.change l s0 (planP p l) = planC p l ∧ (planP p l).length = l.length := by
  have h0 : errOf p l true = 0 := errOf_ok h1 h2
  unfold planE at he
  rw [if_pos h0] at he
  by_cases g : (bestOf p l s0).good = true
  · obtain ⟨a, b, c⟩ := best_good p l s0 g
    unfold planP planC
    rw [if_pos ⟨h0, g⟩, if_pos ⟨h0, g⟩]
    exact ⟨a, b, c⟩
  · rw [if_neg g] at he; cases he
theorem plan_le {p : Press} {l : List Draw} {plan : List Int} (h1 : pressOk p = true) (h2 : drawsOk l = true) (hg : Goes p l s0 plan) : planE p l = 0 ∧ planC p l ≤ costS p.change l s0 plan := by
  have h0 : errOf p l true = 0 := errOf_ok h1 h2
  obtain ⟨a, b⟩ := best_least p l s0 plan hg
  unfold planE planC
  rw [if_pos h0, if_pos a, if_pos ⟨h0, a⟩]
  refine ⟨rfl, ?_⟩
  rcases b with b | ⟨b, -⟩ <;> omega
theorem follow_ok {p : Press} {l : List Draw} {plan : List Int} (h1 : pressOk p = true) (h2 : drawsOk l = true) (hg : Goes p l s0 plan) : (followR p l plan).err = 0 := by
  have hf : followR p l plan = fol p plan l 0 (List.replicate p.dies.length 0) := by unfold followR; rw [if_pos (errOf_ok h1 h2)]
  rw [hf]
  exact ((fol_goes (press_parts h1).1.2 plan l 0 _ s0 (Alike.start _) (Nat.zero_le _)).1 (by rw [List.drop_zero]; exact hg)).1

/-- A press whose die j wears by more at least, and whose leads shrink by less at most. -/
def lessP (p : Press) (j : Nat) (we sh : Int) : Press := ⟨p.dies.set j ⟨(p.die j).wide, ⟨we, (p.die j).wear.hi⟩⟩, ⟨p.shrink.lo, sh⟩, p.change⟩
theorem lessP_ok {p : Press} {j : Nat} {we sh : Int} (h : pressOk p = true) (hj : j < p.dies.length) (h1 : (p.die j).wear.lo ≤ we) (h2 : we ≤ (p.die j).wear.hi) (h3 : p.shrink.lo ≤ sh) (h4 : sh ≤ p.shrink.hi) : pressOk (lessP p j we sh) = true := by
  have hd := (press_parts h).2.1 _ (List.getElem_mem hj)
  rw [Press.die_eq p hj] at h1 h2
  simp only [pressOk, endB, Bool.and_eq_true, fromB_iff, withinB_iff, List.all_eq_true] at h ⊢
  obtain ⟨⟨a1, b1⟩, c1, d1⟩ := h
  refine ⟨⟨by simpa [lessP] using a1, ?_⟩, by simp only [lessP]; omega, d1⟩
  intro d hm
  simp only [lessP] at hm
  rcases List.mem_or_eq_of_mem_set hm with hm | rfl
  · exact b1 d hm
  · obtain ⟨e1, e2, e3, e4, e5⟩ := hd
    rw [Press.die_eq p hj]
    simp only [dieOk, Bool.and_eq_true, fromB_iff, withinB_iff]
    omega
theorem nano_we {wide we we' sh sh' u : Int} (h0 : 0 ≤ u) (h1 : we ≤ we') (h2 : sh' ≤ sh) (h3 : sh ≤ 1000) (h4 : 0 ≤ wide) (h5 : 0 ≤ we) : nano wide we sh u ≤ nano wide we' sh' u := by
  unfold nano
  have a := Int.mul_le_mul_of_nonneg_right h1 h0
  have b := Int.mul_nonneg h5 h0
  exact Int.mul_le_mul (by omega) (by omega) (by omega) (by omega)
theorem less_does {p : Press} {j : Nat} {we sh : Int} (h : pressOk p = true) (hj : j < p.dies.length) (h1 : (p.die j).wear.lo ≤ we) (_ : p.shrink.lo ≤ sh) (h4 : sh ≤ p.shrink.hi) (n : Nat) (x : Draw) (u : Int) (hn : n < p.dies.length) (hu : 0 ≤ u) (hd : doesB (p.die n) p.shrink x u = true) : doesB ((lessP p j we sh).die n) (lessP p j we sh).shrink x u = true := by
  obtain ⟨-, hdi, ⟨s1, s2, s3⟩, -⟩ := press_parts h
  have hdn := hdi _ (List.getElem_mem hn)
  obtain ⟨e1, e2, e3, e4, e5⟩ := hdn
  unfold doesB at hd ⊢
  rw [Bool.and_eq_true, decide_eq_true_eq, decide_eq_true_eq] at hd ⊢
  rw [Press.die_eq p hn] at hd
  have hn' : n < (lessP p j we sh).dies.length := by simpa [lessP] using hn
  rw [Press.die_eq _ hn']
  have hg : (lessP p j we sh).dies[n] = if j = n then ⟨(p.die j).wide, ⟨we, (p.die j).wear.hi⟩⟩ else p.dies[n] := by simp only [lessP, List.getElem_set]
  rw [hg]
  by_cases e : j = n
  · subst e
    rw [if_pos rfl, Press.die_eq p hj]
    rw [Press.die_eq p hj] at h1
    refine ⟨Int.le_trans hd.1 ?_, hd.2⟩
    exact nano_we hu h1 h4 (by omega) (by omega) e3
  · rw [if_neg e]
    refine ⟨Int.le_trans hd.1 ?_, hd.2⟩
    exact nano_we hu (Int.le_refl _) h4 (by omega) (by omega) e3
/-- Draws that ask for less. -/
def looseD (b : Int) (x : Draw) : Draw := ⟨x.len, ⟨max 0 (x.want.lo - b), min 20000 (x.want.hi + b)⟩⟩
theorem loose_ok {l : List Draw} {b : Int} (h : drawsOk l = true) (hb : 0 ≤ b) : drawsOk (l.map (looseD b)) = true := by
  obtain ⟨h1, h2⟩ := draws_parts h
  simp only [drawsOk, Bool.and_eq_true, decide_eq_true_eq, List.all_eq_true, List.length_map, List.mem_map]
  refine ⟨h1, ?_⟩
  rintro y ⟨x, hx, rfl⟩
  obtain ⟨⟨a1, a2⟩, a3, a4, a5⟩ := h2 x hx
  simp only [drawOk, looseD, Bool.and_eq_true, fromB_iff, withinB_iff]
  omega
theorem loose_does {p : Press} {b : Int} (h : pressOk p = true) (hb : 0 ≤ b) (n : Nat) (x : Draw) (u : Int) (_ : 0 ≤ x.len) (hx2 : x.want.hi ≤ 20000) (hn : n < p.dies.length) (hu : 0 ≤ u) (hd : doesB (p.die n) p.shrink x u = true) : doesB (p.die n) p.shrink (looseD b x) u = true := by
  obtain ⟨-, hdi, ⟨s1, s2, s3⟩, -⟩ := press_parts h
  obtain ⟨e1, e2, e3, e4, e5⟩ := hdi _ (List.getElem_mem hn)
  unfold doesB at hd ⊢
  rw [Bool.and_eq_true, decide_eq_true_eq, decide_eq_true_eq] at hd ⊢
  rw [Press.die_eq p hn] at hd ⊢
  have h0 : 0 ≤ thin p.dies[n] p.shrink u := by
    unfold thin nano
    have := Int.mul_nonneg e3 hu
    exact Int.mul_nonneg (by omega) (by omega)
  simp only [looseD]
  omega
/-- One die more. -/
def richP (p : Press) (d : Die) : Press := ⟨p.dies ++ [d], p.shrink, p.change⟩
theorem rich_die {p : Press} {d : Die} {n : Nat} (hn : n < p.dies.length) : (richP p d).die n = p.die n := by
  rw [Press.die_eq _ (show n < (richP p d).dies.length by simp [richP]; omega), Press.die_eq p hn]
  simp [richP, List.getElem_append_left hn]
/-- What the law asks of the best plan. -/
theorem more_plain {p : Press} {l : List Draw} (h1 : pressOk p = true) (h2 : drawsOk l = true) (he : planE p l = 0) :
    (∀ j we sh, j < p.dies.length → (p.die j).wear.lo ≤ we → we ≤ (p.die j).wear.hi → p.shrink.lo ≤ sh → sh ≤ p.shrink.hi → (followR (lessP p j we sh) l (planP p l)).err = 0 ∧ planE (lessP p j we sh) l = 0 ∧ planC (lessP p j we sh) l ≤ planC p l) ∧
    (∀ b, 0 ≤ b → (followR p (l.map (looseD b)) (planP p l)).err = 0 ∧ planE p (l.map (looseD b)) = 0 ∧ planC p (l.map (looseD b)) ≤ planC p l) ∧
    (∀ d, pressOk (richP p d) = true → planE (richP p d) l = 0 ∧ planC (richP p d) l ≤ planC p l) ∧
    (∀ m, planE p (l.take m) = 0 ∧ planC p (l.take m) ≤ planC p l) ∧ (l = [] → planC p l = 0) := by
  obtain ⟨hg, hc, hlen⟩ := plan_of h1 h2 he
  obtain ⟨⟨-, h4⟩, -, hsh, hch, -⟩ := press_parts h1
  obtain ⟨-, hdr⟩ := draws_parts h2
  have hl0 : ∀ x ∈ l, 0 ≤ x.len := fun x hx => by have := (hdr x hx).1; omega
  refine ⟨fun j we sh hj a1 a2 a3 a4 => ?_, fun b hb => ?_, fun d hd => ?_, fun m => ?_, fun e => ?_⟩
  · have hok := lessP_ok h1 hj a1 a2 a3 a4
    obtain ⟨g, e⟩ := goes_map (p' := lessP p j we sh) (f := fun x => x) h4 (by simp [lessP]) (fun _ => rfl) (less_does h1 hj a1 a3 a4) p.change l s0 (planP p l) hl0 s0_pos hg
    rw [List.map_id'] at g e
    obtain ⟨x, y⟩ := plan_le hok h2 g
    exact ⟨follow_ok hok h2 g, x, by rw [← hc]; exact y⟩
  · have hok := loose_ok h2 hb
    have key : ∀ (l' : List Draw) (s : Sta) (plan : List Int), (∀ x ∈ l', 0 ≤ x.len ∧ x.want.hi ≤ 20000) → (∀ j, j < 4 → 0 ≤ s.get j) → Goes p l' s plan → Goes p (l'.map (looseD b)) s plan ∧ costS p.change (l'.map (looseD b)) s plan = costS p.change l' s plan := by
      intro l'
      induction l' with
      | nil => intro s plan _ _ h; cases plan with
        | nil => exact ⟨trivial, rfl⟩
        | cons _ _ => exact h.elim
      | cons x l' ih => intro s plan hx hs h; cases plan with
        | nil => exact h.elim
        | cons d plan =>
          obtain ⟨n, e, a1, a2, a3⟩ := h
          subst e
          obtain ⟨b1, b2⟩ := hx x (by simp)
          obtain ⟨g, c⟩ := ih (s.after x.len n) plan (fun y hy => hx y (by simp [hy])) (get_after0 (by omega) hs b1) a3
          refine ⟨⟨n, rfl, a1, loose_does h1 hb n x _ b1 b2 a1 (hs n (by omega)) a2, g⟩, ?_⟩
          show stepCost p.change s ((n : Int)).toNat + costS p.change (l'.map (looseD b)) (s.after x.len ((n : Int)).toNat) plan = stepCost p.change s ((n : Int)).toNat + costS p.change l' (s.after x.len ((n : Int)).toNat) plan
          rw [Int.toNat_natCast, c]
    obtain ⟨g, e⟩ := key l s0 (planP p l) (fun x hx => ⟨hl0 x hx, (hdr x hx).2.2.2⟩) s0_pos hg
    obtain ⟨x, y⟩ := plan_le h1 hok g
    exact ⟨follow_ok h1 hok g, x, by rw [← hc, ← e]; exact y⟩
  · obtain ⟨g, e⟩ := goes_map (p' := richP p d) (f := fun x => x) h4 (by simp [richP]) (fun _ => rfl) (fun n x u hn _ h => by rw [rich_die hn]; exact h) p.change l s0 (planP p l) hl0 s0_pos hg
    rw [List.map_id'] at g e
    obtain ⟨x, y⟩ := plan_le hd h2 g
    exact ⟨x, by rw [← hc]; exact y⟩
  · have hok : drawsOk (l.take m) = true := by
      simp only [drawsOk, Bool.and_eq_true, decide_eq_true_eq, List.all_eq_true] at h2 ⊢
      exact ⟨by rw [List.length_take]; omega, fun x hx => h2.2 x (List.mem_of_mem_take hx)⟩
    obtain ⟨g, e⟩ := goes_take hch m l s0 (planP p l) hg
    obtain ⟨x, y⟩ := plan_le h1 hok g
    exact ⟨x, by rw [← hc]; exact Int.le_trans y e⟩
  · subst e
    rw [← hc]
    cases hp : planP p [] with
    | nil => rfl
    | cons a b => rfl
end Go.Proofs.Ytkokacdaiklfjaa
