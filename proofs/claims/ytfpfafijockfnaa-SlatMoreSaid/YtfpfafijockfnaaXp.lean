/- The plain part of the search for a setting: what is put into the heap comes out again, and how long it goes on. -/
import Derived.Test.YtfpfafijockfnaaXv
import Derived.Test.YtfpfafijockfnaaXw
namespace Go.Proofs.Ytfpfafijockfnaa

def wtS (s : Setg) : Nat := if s.height = 0 then (if s.side = 0 then 6561 else (41 - s.side.natAbs) * 81) else 41 - s.height.natAbs
def sumW : List Setg → Nat
  | [] => 0
  | s :: l => wtS s + sumW l
theorem sumW_append : ∀ a b, sumW (a ++ b) = sumW a + sumW b
  | [], b => by simp [sumW]
  | s :: a, b => by simp only [List.cons_append, sumW, sumW_append a b]; omega
theorem sumW_set : ∀ (l : List Setg) (i : Nat) (x : Setg), i < l.length → sumW (l.set i x) + wtS (l.getD i zS) = sumW l + wtS x
  | [], i, x, h => by simp at h
  | s :: l, 0, x, h => by simp only [List.set_cons_zero, sumW, List.getD_cons_zero]; omega
  | s :: l, i + 1, x, h => by
    have := sumW_set l i x (by simpa using h)
    simp only [List.set_cons_succ, sumW, List.getD_cons_succ]
    omega
theorem getD_set_ne {l : List Setg} {i j : Nat} {x : Setg} (h : i ≠ j) : (l.set i x).getD j zS = l.getD j zS := by
  simp only [List.getD_eq_getElem?_getD, List.getElem?_set_ne h]
theorem getD_set_eq {l : List Setg} {i : Nat} {x : Setg} (h : i < l.length) : (l.set i x).getD i zS = x := by
  simp [List.getD_eq_getElem?_getD, h]
theorem sumW_swap {l : List Setg} {a b : Nat} (ha : a < l.length) (hb : b < l.length) : sumW (swapS l a b) = sumW l := by
  unfold swapS
  have h1 := sumW_set l a (l.getD b zS) ha
  have h2 := sumW_set (l.set a (l.getD b zS)) b (l.getD a zS) (by simpa using hb)
  by_cases e : a = b
  · subst e
    rw [getD_set_eq ha] at h2
    omega
  · rw [getD_set_ne e] at h2
    omega
theorem upH_len : ∀ (f : Nat) (l : List Setg) (i : Nat), (upH f l i).length = l.length
  | 0, _, _ => rfl
  | f + 1, l, i => by
    unfold upH
    split
    · rfl
    · split
      · rw [upH_len f, swapS_len]
      · rfl
theorem upH_sum : ∀ (f : Nat) (l : List Setg) (i : Nat), i < l.length → sumW (upH f l i) = sumW l
  | 0, _, _, _ => rfl
  | f + 1, l, i, h => by
    unfold upH
    split
    · rfl
    · split
      · rw [upH_sum f _ _ (by rw [swapS_len]; omega), sumW_swap (by omega) h]
      · rfl
theorem upH_in : ∀ (f : Nat) (l : List Setg) (i : Nat), i < l.length → (∀ s ∈ l, InSet s) → ∀ s ∈ upH f l i, InSet s
  | 0, _, _, _, hl => hl
  | f + 1, l, i, h, hl => by
    unfold upH
    split
    · exact hl
    · split
      · exact upH_in f _ _ (by rw [swapS_len]; omega) (swapS_in hl (by omega) h)
      · exact hl
theorem putH_len (l : List Setg) (x : Setg) : (putH l x).length = l.length + 1 := by unfold putH; rw [upH_len]; simp
theorem putH_sum (l : List Setg) (x : Setg) : sumW (putH l x) = sumW l + wtS x := by
  unfold putH
  rw [upH_sum _ _ _ (by simp), sumW_append]
  simp [sumW]
theorem putH_in {l : List Setg} {x : Setg} (hl : ∀ s ∈ l, InSet s) (hx : InSet x) : ∀ s ∈ putH l x, InSet s := by
  unfold putH
  refine upH_in _ _ _ (by simp) fun s hs => ?_
  rcases List.mem_append.1 hs with h | h
  · exact hl s h
  · rw [List.mem_singleton.1 h]; exact hx
theorem sinkH_len : ∀ (f : Nat) (l : List Setg) (i : Nat), (sinkH f l i).length = l.length
  | 0, _, _ => rfl
  | f + 1, l, i => by
    unfold sinkH
    split
    · split
      · rw [sinkH_len f, swapS_len]
      · rfl
    · rfl
theorem sinkH_sum : ∀ (f : Nat) (l : List Setg) (i : Nat), sumW (sinkH f l i) = sumW l
  | 0, _, _ => rfl
  | f + 1, l, i => by
    unfold sinkH
    split
    · rename_i h
      split
      · rw [sinkH_sum f, sumW_swap (by omega) (next_le h).2]
      · rfl
    · rfl
theorem sinkH_in : ∀ (f : Nat) (l : List Setg) (i : Nat), (∀ s ∈ l, InSet s) → ∀ s ∈ sinkH f l i, InSet s
  | 0, _, _, hl => hl
  | f + 1, l, i, hl => by
    unfold sinkH
    split
    · rename_i h
      split
      · exact sinkH_in f _ _ (swapS_in hl (by omega) (next_le h).2)
      · exact hl
    · exact hl
theorem take_last : ∀ (l : List Setg) (_x : Setg), l ≠ [] → sumW (l.take (l.length - 1)) + wtS (l.getD (l.length - 1) zS) = sumW l
  | [], _, h => absurd rfl h
  | [s], _, _ => by simp [sumW]
  | s :: t :: l, x, _ => by
    have := take_last (t :: l) x (by simp)
    simp only [List.length_cons, Nat.add_sub_cancel] at this ⊢
    rw [List.take_succ_cons, List.getD_cons_succ]
    simp only [sumW] at this ⊢
    omega
theorem leftH_len {l : List Setg} (_h : l ≠ []) : (leftH l).length = l.length - 1 := by
  unfold leftH
  rw [sinkH_len]
  simp
theorem leftH_sum {l : List Setg} (h : l ≠ []) : sumW (leftH l) + wtS (l.getD 0 zS) = sumW l := by
  have hp := List.length_pos_iff.2 h
  unfold leftH
  rw [sinkH_sum]
  have h1 := sumW_set l 0 (l.getD (l.length - 1) zS) hp
  have h2 := take_last (l.set 0 (l.getD (l.length - 1) zS)) zS (by intro e; have := congrArg List.length e; simp at this; exact h this)
  rw [List.length_set] at h2
  by_cases e : l.length = 1
  · rw [e] at h1 h2 ⊢
    simp only [Nat.sub_self] at h1 h2 ⊢
    rw [getD_set_eq hp] at h2
    omega
  · rw [getD_set_ne (by omega)] at h2
    omega
theorem leftH_in {l : List Setg} (h : l ≠ []) (hl : ∀ s ∈ l, InSet s) : ∀ s ∈ leftH l, InSet s := by
  have hp := List.length_pos_iff.2 h
  unfold leftH
  refine sinkH_in _ _ _ fun s hs => ?_
  rcases List.mem_or_eq_of_mem_set (List.mem_of_mem_take hs) with h2 | rfl
  · exact hl s h2
  · exact in_getD hl (by omega)
theorem wt_pos {s : Setg} (h : InSet s) : 1 ≤ wtS s := by
  obtain ⟨⟨h1, h2⟩, h3, h4⟩ := h
  unfold wtS
  split
  · split
    · omega
    · have : s.side.natAbs ≤ 40 := by omega
      have h5 : 1 ≤ 41 - s.side.natAbs := by omega
      calc 1 ≤ 1 * 81 := by omega
        _ ≤ (41 - s.side.natAbs) * 81 := Nat.mul_le_mul_right 81 h5
  · omega
theorem len_le_sum : ∀ (l : List Setg), (∀ s ∈ l, InSet s) → l.length ≤ sumW l
  | [], _ => Nat.le_refl _
  | s :: l, h => by
    have h1 := wt_pos (h s (by simp))
    have h2 := len_le_sum l fun x hx => h x (by simp [hx])
    simp only [List.length_cons, sumW]
    omega
theorem fur_sum {s : Setg} (h : InSet s) : sumW (furL s) + 1 = wtS s := by
  obtain ⟨sd, ht⟩ := s
  obtain ⟨⟨h1, h2⟩, h3, h4⟩ := h
  dsimp only at h1 h2 h3 h4
  unfold furL wtS
  dsimp only
  by_cases hz : ht = 0
  · subst hz
    have e0 : outL 0 = [-1, 1] := by decide
    rw [if_pos rfl, if_pos rfl, e0]
    by_cases hs : sd = 0
    · subst hs
      rw [e0]
      decide
    · rw [if_neg hs]
      by_cases hp : 0 ≤ sd
      · by_cases h40 : sd < 40
        · have e : outL sd = [sd + 1] := by unfold outL; rw [if_neg (by omega), if_pos ⟨hp, h40⟩]; rfl
          rw [e]
          have k1 : wtS ⟨sd + 1, 0⟩ = (41 - (sd + 1).natAbs) * 81 := by unfold wtS; dsimp only; rw [if_pos rfl, if_neg (by omega)]
          have k2 : wtS ⟨sd, -1⟩ = 40 := by unfold wtS; dsimp only; rw [if_neg (by omega)]; decide
          have k3 : wtS ⟨sd, 1⟩ = 40 := by unfold wtS; dsimp only; rw [if_neg (by omega)]; decide
          simp only [List.map_cons, List.map_nil, List.cons_append, List.nil_append, sumW, k1, k2, k3]
          omega
        · have e : outL sd = [] := by unfold outL; rw [if_neg (by omega), if_neg (by omega)]; rfl
          rw [e]
          have k2 : wtS ⟨sd, -1⟩ = 40 := by unfold wtS; dsimp only; rw [if_neg (by omega)]; decide
          have k3 : wtS ⟨sd, 1⟩ = 40 := by unfold wtS; dsimp only; rw [if_neg (by omega)]; decide
          simp only [List.map_cons, List.map_nil, List.nil_append, sumW, k2, k3]
          omega
      · by_cases h40 : -40 < sd
        · have e : outL sd = [sd - 1] := by unfold outL; rw [if_pos (by omega), if_neg (by omega)]; rfl
          rw [e]
          have k1 : wtS ⟨sd - 1, 0⟩ = (41 - (sd - 1).natAbs) * 81 := by unfold wtS; dsimp only; rw [if_pos rfl, if_neg (by omega)]
          have k2 : wtS ⟨sd, -1⟩ = 40 := by unfold wtS; dsimp only; rw [if_neg (by omega)]; decide
          have k3 : wtS ⟨sd, 1⟩ = 40 := by unfold wtS; dsimp only; rw [if_neg (by omega)]; decide
          simp only [List.map_cons, List.map_nil, List.cons_append, List.nil_append, sumW, k1, k2, k3]
          omega
        · have e : outL sd = [] := by unfold outL; rw [if_neg (by omega), if_neg (by omega)]; rfl
          rw [e]
          have k2 : wtS ⟨sd, -1⟩ = 40 := by unfold wtS; dsimp only; rw [if_neg (by omega)]; decide
          have k3 : wtS ⟨sd, 1⟩ = 40 := by unfold wtS; dsimp only; rw [if_neg (by omega)]; decide
          simp only [List.map_cons, List.map_nil, List.nil_append, sumW, k2, k3]
          omega
  · rw [if_neg hz, if_neg hz, List.nil_append]
    by_cases hp : 0 ≤ ht
    · by_cases h40 : ht < 40
      · have e : outL ht = [ht + 1] := by unfold outL; rw [if_neg (by omega), if_pos ⟨hp, h40⟩]; rfl
        have k : wtS ⟨sd, ht + 1⟩ = 41 - (ht + 1).natAbs := by unfold wtS; dsimp only; rw [if_neg (by omega)]
        rw [e]
        simp only [List.map_cons, List.map_nil, sumW, k]
        omega
      · have e : outL ht = [] := by unfold outL; rw [if_neg (by omega), if_neg (by omega)]; rfl
        rw [e]
        simp only [List.map_nil, sumW]
        omega
    · by_cases h40 : -40 < ht
      · have e : outL ht = [ht - 1] := by unfold outL; rw [if_pos (by omega), if_neg (by omega)]; rfl
        have k : wtS ⟨sd, ht - 1⟩ = 41 - (ht - 1).natAbs := by unfold wtS; dsimp only; rw [if_neg (by omega)]
        rw [e]
        simp only [List.map_cons, List.map_nil, sumW, k]
        omega
      · have e : outL ht = [] := by unfold outL; rw [if_neg (by omega), if_neg (by omega)]; rfl
        rw [e]
        simp only [List.map_nil, sumW]
        omega
/-- All are put in. -/
def putAll (h : List Setg) (l : List Setg) : List Setg := l.foldl putH h
theorem putAll_snoc (h l : List Setg) (x : Setg) : putAll h (l ++ [x]) = putH (putAll h l) x := by simp [putAll]
theorem putAll_sum : ∀ (l h : List Setg), sumW (putAll h l) = sumW h + sumW l
  | [], h => by simp [putAll, sumW]
  | x :: l, h => by
    show sumW (putAll (putH h x) l) = _
    rw [putAll_sum l, putH_sum]
    simp only [sumW]
    omega
theorem putAll_in : ∀ (l h : List Setg), (∀ s ∈ h, InSet s) → (∀ s ∈ l, InSet s) → ∀ s ∈ putAll h l, InSet s
  | [], _, hh, _ => hh
  | x :: l, h, hh, hl => putAll_in l (putH h x) (putH_in hh (hl x (by simp))) fun s hs => hl s (by simp [hs])
/-- How many leads are surely within a limit, with a setting. -/
def cntL (leads : List Lead) (lim : Int) (s : Setg) : Nat := (leads.filter fun l => leadIn (aftL l s) lim).length
/-- The search: what comes next, the heap, the best one so far. -/
def bestT (leads : List Lead) (lim : Int) : Nat → Option Setg → List Setg → Setg → Int → Setg × Int
  | 0, _, _, b, m => (b, m)
  | _ + 1, none, _, b, m => (b, m)
  | f + 1, some s, h, b, m =>
    if m < leads.length then
      (if putAll h (furL s) = [] then bestT leads lim f none [] (if m < (cntL leads lim s : Int) then s else b) (max m (cntL leads lim s : Int))
       else bestT leads lim f (some ((putAll h (furL s)).getD 0 zS)) (leftH (putAll h (furL s))) (if m < (cntL leads lim s : Int) then s else b) (max m (cntL leads lim s : Int)))
    else (b, m)
def tuneS (leads : List Lead) (lim : Int) : Setg × Int := bestT leads lim 7000 (some zS) [] zS (-1)
end Go.Proofs.Ytfpfafijockfnaa
