/- Walks: settings of the shaper: their amounts, which one is to be preferred. -/
import Derived.Test.YtfpfafijockfnaaSf
import Derived.Deep.DeepCutAuto
namespace Go.Proofs.Ytfpfafijockfnaa
open Go.RowKit Go.Shelf

structure Setg where
  side : Int
  height : Int
  deriving DecidableEq
def amtS (s : Setg) : Int := max s.side (-s.side) + max s.height (-s.height)
def cmpJ (a b : Int) : Int := if a < b then -1 else if b < a then 1 else 0
def orL : List Int → Int
  | [] => 0
  | x :: r => if x = 0 then orL r else x
def befB (s t : Setg) : Bool := decide (orL [cmpJ (amtS s) (amtS t), cmpJ s.side t.side, cmpJ s.height t.height] < 0)
def SetBd (s : Setg) : Prop := (-1000000 ≤ s.side ∧ s.side ≤ 1000000) ∧ -1000000 ≤ s.height ∧ s.height ≤ 1000000
set_option maxHeartbeats 2000000 in
theorem amounts5_any (a b : Int) (w : World) (ha : -1000000 ≤ a ∧ a ≤ 1000000) (hb : -1000000 ≤ b ∧ b ≤ 1000000) : Calls Try.prog 101 #[.agg #[.int .i64 a, .int .i64 b]] w (Ret (.int .i64 (amtS ⟨a, b⟩)) w) := by
  have hb1 : Below w.heap.size w (w.alloc (.cells #[.int .i64 a, .int .i64 b] 102)) := (Below.refl _ _).alloc (Nat.le_refl _) _
  have e1 : IntKind.i64.wrap (-a) = -a := IntWalk.i64_in _ ⟨by omega, by omega⟩
  have e2 : IntKind.i64.wrap (-b) = -b := IntWalk.i64_in _ ⟨by omega, by omega⟩
  obtain ⟨x, hx⟩ : ∃ x : Int, (if a < -a then -a else a) = x := ⟨_, rfl⟩
  obtain ⟨y, hy⟩ : ∃ y : Int, (if b < -b then -b else b) = y := ⟨_, rfl⟩
  have ex : max a (-a) = x := by rw [← hx]; split <;> omega
  have ey : max b (-b) = y := by rw [← hy]; split <;> omega
  have HE : Hid (amtS ⟨a, b⟩ = x + y) := Lib.hid (by unfold amtS; dsimp only; rw [ex, ey])
  have e3 : IntKind.i64.wrap (x + y) = x + y := IntWalk.i64_in _ ⟨by omega, by omega⟩
  clear ex ey
  go_enter Try.func101, Try.ntmps101
  go_wp2_with fail
  go_ret
  exact ⟨ret_int HE.out.symm, hb1⟩
set_option maxHeartbeats 400000 in
theorem nan5_any (a : Int) (w : World) : Calls Try.prog 108 #[.int .i64 a] w fun e w' => e = .returned (.bool false) ∧ w = w' := by
  go_enter Try.func108, Try.ntmps108
  go_wp2
  go_ret
  exact ⟨by simp, rfl⟩
set_option maxHeartbeats 2000000 in
theorem cmp5_any (a b : Int) (w : World) : Calls Try.prog 100 #[.int .i64 a, .int .i64 b] w fun e w' => e = .returned (.int .i64 (cmpJ a b)) ∧ w = w' := by
  unfold cmpJ
  rcases Int.lt_trichotomy a b with h | h | h
  · have h' : decide (a < b) = true := decide_eq_true h
    rw [if_pos h]
    go_enter Try.func100, Try.ntmps100
    go_wp2_with (go_at_call 108; refine (nan5_any _ _).mono ?_; rintro e w' ⟨rfl, rfl⟩)
    go_ret
    exact ⟨rfl, rfl⟩
  · subst h
    rw [if_neg (by omega), if_neg (by omega)]
    go_enter Try.func100, Try.ntmps100
    go_wp2_with (go_at_call 108; refine (nan5_any _ _).mono ?_; rintro e w' ⟨rfl, rfl⟩)
    go_ret
    exact ⟨rfl, rfl⟩
  · have h1 : ¬ a < b := by omega
    rw [if_neg h1, if_pos h]
    go_enter Try.func100, Try.ntmps100
    go_wp2_with (go_at_call 108; refine (nan5_any _ _).mono ?_; rintro e w' ⟨rfl, rfl⟩)
    go_ret
    exact ⟨rfl, rfl⟩
theorem orL_at {l : List Int} {k : Nat} (h : k < l.length) : orL (l.drop k) = if l[k] = 0 then orL (l.drop (k + 1)) else l[k] := by
  rw [List.drop_eq_getElem_cons h]
  rfl
set_option maxRecDepth 100000 in
set_option maxHeartbeats 2000000 in
theorem or5_any (A : Option Addr) (c : Nat) (l : List Int) (w : World) (hl : l.length ≤ 1000) (hA : IntSl w w.heap.size A l) : Calls Try.prog 99 #[.slice A l.length c] w fun e w' => e = .returned (.int .i64 (orL l)) ∧ w = w' := by
  have HA := Lib.hid hA
  clear hA
  have hl0 : (0 : Int) ≤ l.length := by omega
  have hl1 : (l.length : Int) ≤ 1000 := by omega
  go_enter Try.func99, Try.ntmps99
  go_wp2_with fail
  go_loop [8] (fun i => ∃ k : Nat, k ≤ l.length ∧ i = .int .i64 k ∧ Hid (orL (l.drop k) = orL l)) (fun i => l.length - (intOf i).toNat)
  case atStart => exact ⟨0, Nat.zero_le _, rfl, Lib.hid rfl⟩
  case round =>
    obtain ⟨k, hk, rfl, HR⟩ := hrel
    by_cases hlt : k < l.length
    · obtain ⟨b, off, rfl, hb, hs⟩ := HA.out (by intro e; rw [e] at hlt; simp at hlt)
      have h0 := hs k hlt
      have HX := Lib.hid (orL_at hlt)
      generalize l[k] = x at *
      clear hs
      have hk0 : (0 : Int) ≤ k := by omega
      have hk1 : (k : Int) < l.length := by omega
      by_cases hx : x = 0
      · subst hx
        go_wp2_with fail
        go_round
        case rel => exact ⟨k + 1, by omega, by go_num, Lib.hid (by rw [← HR.out, HX.out, if_pos rfl])⟩
        case measure => simp [intOf]; omega
      · have hx' : (x == 0) = false := by rw [beq_eq_false_iff_ne]; exact hx
        have hx2 : (x != 0) = true := by simp [bne, hx']
        have HE : Hid (orL l = x) := Lib.hid (by rw [← HR.out, HX.out, if_neg hx])
        go_wp2_with fail
        go_ret
        exact ⟨ret_int HE.out.symm, rfl⟩
    · obtain rfl : k = l.length := by omega
      have HE : Hid (orL l = 0) := Lib.hid (by rw [← HR.out, List.drop_length]; rfl)
      go_wp2_with fail
      go_ret
      exact ⟨ret_int HE.out.symm, rfl⟩
/-- What lies in the boxes of isBefore. -/
structure IbS (w : World) (a b c d : Int) (W : World) : Prop where
  hb : Below w.heap.size w W
  k2 : Blk W w.heap.size 102 #[.int .i64 a, .int .i64 b]
  k3 : Blk W (w.heap.size + 1) 102 #[.int .i64 c, .int .i64 d]
theorem IbS.call {w : World} {a b c d : Int} {W W' : World} (h : IbS w a b c d W) (hb : Below W.heap.size W W') : IbS w a b c d W' :=
  ⟨h.hb.trans (hb.mono h.hb.size), h.k2.below hb h.k2.lt, h.k3.below hb h.k3.lt⟩
theorem three_sl {W : World} {g : Nat} {x y z : Int} (h : Blk W g 3 #[.int .i64 x, .int .i64 y, .int .i64 z]) : IntSl W W.heap.size (some ⟨g, 0, none⟩) [x, y, z] := fun _ => ⟨g, 0, rfl, h.lt, fun i hi => by
  match i, hi with
  | 0, _ => exact h.cell 0
  | 1, _ => exact h.cell 1
  | 2, _ => exact h.cell 2⟩
set_option maxRecDepth 100000 in
set_option maxHeartbeats 2000000 in
theorem bef5_any (a b c d : Int) (w : World) (ha : -1000000 ≤ a ∧ a ≤ 1000000) (hb : -1000000 ≤ b ∧ b ≤ 1000000) (hc : -1000000 ≤ c ∧ c ≤ 1000000) (hd : -1000000 ≤ d ∧ d ≤ 1000000) :
    Calls Try.prog 81 #[.agg #[.int .i64 a, .int .i64 b], .agg #[.int .i64 c, .int .i64 d]] w (Ret (.bool (befB ⟨a, b⟩ ⟨c, d⟩)) w) := by
  have HS : Hid (IbS w a b c d ((w.alloc (.cells #[.int .i64 a, .int .i64 b] 102)).alloc (.cells #[.int .i64 c, .int .i64 d] 102))) := Lib.hid ⟨by repeat (first | exact Below.refl _ _ | assumption | refine Below.drew ?_ | refine Below.alloc ?_ (by first | omega | (simp only [World.size_alloc]; omega) | simp) _ | refine Below.setCell ?_ (by first | omega | (simp only [World.size_alloc]; omega) | simp) _), (Blk.new _ _ _).alloc _, blk5 _ _ (by simp) rfl⟩
  have HA1 := Lib.hid fun W => amounts5_any a b W ha hb
  have HA2 := Lib.hid fun W => amounts5_any c d W hc hd
  have HBF : Hid (befB ⟨a, b⟩ ⟨c, d⟩ = decide (orL [cmpJ (amtS ⟨a, b⟩) (amtS ⟨c, d⟩), cmpJ a c, cmpJ b d] < 0)) := Lib.hid rfl
  generalize amtS ⟨a, b⟩ = m1 at HA1 HBF
  generalize amtS ⟨c, d⟩ = m2 at HA2 HBF
  have HC1 := Lib.hid fun W => cmp5_any m1 m2 W
  have HC2 := Lib.hid fun W => cmp5_any a c W
  have HC3 := Lib.hid fun W => cmp5_any b d W
  generalize cmpJ m1 m2 = x at HC1 HBF
  generalize cmpJ a c = y at HC2 HBF
  generalize cmpJ b d = z at HC3 HBF
  have HOR := Lib.hid fun (W : World) g h => or5_any (some ⟨g, 0, none⟩) 3 [x, y, z] W (by simp) h
  generalize orL [x, y, z] = r at HOR HBF
  generalize befB ⟨a, b⟩ ⟨c, d⟩ = bb at HBF ⊢
  clear ha hb hc hd
  go_enter Try.func81, Try.ntmps81
  go_wp2_with fail
  generalize World.alloc (World.alloc w _) _ = V at HS ⊢
  replace HS := Lib.hid (HS.out.call (Below.refl _ _).drew)
  refine wp_region_held_drew (S := fun W => Blk W w.heap.size 102 #[.int .i64 a, .int .i64 b] ∧ Blk W (w.heap.size + 1) 102 #[.int .i64 c, .int .i64 d]) (by kernel_rfl) ⟨HS.out.k2, HS.out.k3⟩ (fun hH0 => ?_)
  generalize World.drew _ = V0 at *
  simp only [List.size_toArray, List.length_cons, List.length_nil, Nat.reduceAdd, Array.replicate_succ, Array.replicate_zero, List.push_toArray, List.nil_append, List.cons_append]
  refine wpAnyH_take (i := 0 ) (v := ?_) rfl (by kernel_rfl) (by kernel_rfl) (by kernel_rfl) (fun _ _ _ h => h) (Or.inl ⟨by rfl, ?_⟩) (by assumption) ?_; rotate_left; (· (intro w0 hSw; obtain ⟨k2, k3⟩ := hSw; have s0 := k2.cell 0; have s1 := k2.cell 1; have s2 := k3.cell 0; have s3 := k3.cell 1; clear k2 k3; go_simp); first | done | with_reducible rfl); (try simp only [Act.put, List.getElem_toArray, List.getElem_cons_zero, List.setIfInBounds_toArray, List.set_cons_zero, List.set_cons_succ])
  refine wpAnyH_take (i := 2 ) (v := ?_) rfl (by kernel_rfl) (by kernel_rfl) (by kernel_rfl) (fun _ _ _ h => h) (Or.inl ⟨by rfl, ?_⟩) (by assumption) ?_; rotate_left; (· (intro w0 hSw; obtain ⟨k2, k3⟩ := hSw; have s0 := k2.cell 0; have s1 := k2.cell 1; have s2 := k3.cell 0; have s3 := k3.cell 1; clear k2 k3; go_simp); first | done | with_reducible rfl); (try simp only [Act.put, List.getElem_toArray, List.getElem_cons_succ, List.getElem_cons_zero, List.setIfInBounds_toArray, List.set_cons_zero, List.set_cons_succ])
  refine wpAnyH_take (i := 5 ) (v := ?_) rfl (by kernel_rfl) (by kernel_rfl) (by kernel_rfl) (fun _ _ _ h => h) (Or.inl ⟨by rfl, ?_⟩) (by assumption) ?_; rotate_left; (· (intro w0 hSw; obtain ⟨k2, k3⟩ := hSw; have s0 := k2.cell 0; have s1 := k2.cell 1; have s2 := k3.cell 0; have s3 := k3.cell 1; clear k2 k3; go_simp); first | done | with_reducible rfl); (try simp only [Act.put, List.getElem_toArray, List.getElem_cons_succ, List.getElem_cons_zero, List.setIfInBounds_toArray, List.set_cons_zero, List.set_cons_succ])
  refine wpAnyH_take (i := 6 ) (v := ?_) rfl (by kernel_rfl) (by kernel_rfl) (by kernel_rfl) (fun _ _ _ h => h) (Or.inl ⟨by rfl, ?_⟩) (by assumption) ?_; rotate_left; (· (intro w0 hSw; obtain ⟨k2, k3⟩ := hSw; have s0 := k2.cell 0; have s1 := k2.cell 1; have s2 := k3.cell 0; have s3 := k3.cell 1; clear k2 k3; go_simp); first | done | with_reducible rfl); (try simp only [Act.put, List.getElem_toArray, List.getElem_cons_succ, List.getElem_cons_zero, List.setIfInBounds_toArray, List.set_cons_zero, List.set_cons_succ])
  refine wpAnyH_take (i := 7 ) (v := ?_) rfl (by kernel_rfl) (by kernel_rfl) (by kernel_rfl) (fun _ _ _ h => h) (Or.inl ⟨by rfl, ?_⟩) (by assumption) ?_; rotate_left; (· (intro w0 hSw; obtain ⟨k2, k3⟩ := hSw; have s0 := k2.cell 0; have s1 := k2.cell 1; have s2 := k3.cell 0; have s3 := k3.cell 1; clear k2 k3; go_simp); first | done | with_reducible rfl); (try simp only [Act.put, List.getElem_toArray, List.getElem_cons_succ, List.getElem_cons_zero, List.setIfInBounds_toArray, List.set_cons_zero, List.set_cons_succ])
  refine wpAnyH_take (i := 8 ) (v := ?_) rfl (by kernel_rfl) (by kernel_rfl) (by kernel_rfl) (fun _ _ _ h => h) (Or.inl ⟨by rfl, ?_⟩) (by assumption) ?_; rotate_left; (· (intro w0 hSw; obtain ⟨k2, k3⟩ := hSw; have s0 := k2.cell 0; have s1 := k2.cell 1; have s2 := k3.cell 0; have s3 := k3.cell 1; clear k2 k3; go_simp); first | done | with_reducible rfl); (try simp only [Act.put, List.getElem_toArray, List.getElem_cons_succ, List.getElem_cons_zero, List.setIfInBounds_toArray, List.set_cons_zero, List.set_cons_succ])
  refine wpAnyH_take (i := 10 ) (v := ?_) rfl (by kernel_rfl) (by kernel_rfl) (by kernel_rfl) (fun _ _ _ h => h) (Or.inl ⟨by rfl, ?_⟩) (by assumption) ?_; rotate_left; (· (intro w0 hSw; obtain ⟨k2, k3⟩ := hSw; have s0 := k2.cell 0; have s1 := k2.cell 1; have s2 := k3.cell 0; have s3 := k3.cell 1; clear k2 k3; go_simp); first | done | with_reducible rfl); (try simp only [Act.put, List.getElem_toArray, List.getElem_cons_succ, List.getElem_cons_zero, List.setIfInBounds_toArray, List.set_cons_zero, List.set_cons_succ])
  refine wpAnyH_take (i := 11 ) (v := ?_) rfl (by kernel_rfl) (by kernel_rfl) (by kernel_rfl) (fun _ _ _ h => h) (Or.inl ⟨by rfl, ?_⟩) (by assumption) ?_; rotate_left; (· (intro w0 hSw; obtain ⟨k2, k3⟩ := hSw; have s0 := k2.cell 0; have s1 := k2.cell 1; have s2 := k3.cell 0; have s3 := k3.cell 1; clear k2 k3; go_simp); first | done | with_reducible rfl); (try simp only [Act.put, List.getElem_toArray, List.getElem_cons_succ, List.getElem_cons_zero, List.setIfInBounds_toArray, List.set_cons_zero, List.set_cons_succ])
  refine wpAnyH_take (i := 12 ) (v := ?_) rfl (by kernel_rfl) (by kernel_rfl) (by kernel_rfl) (fun _ _ _ h => h) (Or.inl ⟨by rfl, ?_⟩) (by assumption) ?_; rotate_left; (· (intro w0 hSw; obtain ⟨k2, k3⟩ := hSw; have s0 := k2.cell 0; have s1 := k2.cell 1; have s2 := k3.cell 0; have s3 := k3.cell 1; clear k2 k3; go_simp); first | done | with_reducible rfl); (try simp only [Act.put, List.getElem_toArray, List.getElem_cons_succ, List.getElem_cons_zero, List.setIfInBounds_toArray, List.set_cons_zero, List.set_cons_succ])
  refine wpAnyH_take (i := 13 ) (v := ?_) rfl (by kernel_rfl) (by kernel_rfl) (by kernel_rfl) (fun _ _ _ h => h) (Or.inl ⟨by rfl, ?_⟩) (by assumption) ?_; rotate_left; (· (intro w0 hSw; obtain ⟨k2, k3⟩ := hSw; have s0 := k2.cell 0; have s1 := k2.cell 1; have s2 := k3.cell 0; have s3 := k3.cell 1; clear k2 k3; go_simp); first | done | with_reducible rfl); (try simp only [Act.put, List.getElem_toArray, List.getElem_cons_succ, List.getElem_cons_zero, List.setIfInBounds_toArray, List.set_cons_zero, List.set_cons_succ])
  refine wpAnyH_ready (rs := [1]) (by kernel_rfl) (by simp) ?_
  refine AllReadyH.cons (by simp only [List.getElem?_toArray, List.getElem?_cons_succ, List.getElem?_cons_zero]; rfl) (fun K hK => ?_) AllReadyH.nil
  go_simp
  refine (HA1.out _).mono ?_
  rintro e V1 ⟨rfl, hb⟩
  replace HS := Lib.hid (HS.out.call hb)
  clear hb
  refine hK.out _ _ ⟨HS.out.k2, HS.out.k3⟩ (fun hH1 => ?_)
  clear hK K
  try simp only [List.setIfInBounds_toArray, List.set_cons_zero, List.set_cons_succ]
  refine wpAnyH_ready (rs := [3]) (by kernel_rfl) (by simp) ?_
  refine AllReadyH.cons (by simp only [List.getElem?_toArray, List.getElem?_cons_succ, List.getElem?_cons_zero]; rfl) (fun K hK => ?_) AllReadyH.nil
  go_simp
  refine (HA2.out _).mono ?_
  rintro e V2 ⟨rfl, hb⟩
  replace HS := Lib.hid (HS.out.call hb)
  clear hb
  refine hK.out _ _ ⟨HS.out.k2, HS.out.k3⟩ (fun hH2 => ?_)
  clear hK K
  try simp only [List.setIfInBounds_toArray, List.set_cons_zero, List.set_cons_succ]
  refine wpAnyH_ready (rs := [4]) (by kernel_rfl) (by simp) ?_
  refine AllReadyH.cons (by simp only [List.getElem?_toArray, List.getElem?_cons_succ, List.getElem?_cons_zero]; rfl) (fun K hK => ?_) AllReadyH.nil
  go_simp
  refine (HC1.out _).mono ?_
  rintro e V3 ⟨rfl, rfl⟩
  refine hK.out _ _ ⟨HS.out.k2, HS.out.k3⟩ (fun hH3 => ?_)
  clear hK K
  try simp only [List.setIfInBounds_toArray, List.set_cons_zero, List.set_cons_succ]
  refine wpAnyH_ready (rs := [9]) (by kernel_rfl) (by simp) ?_
  refine AllReadyH.cons (by simp only [List.getElem?_toArray, List.getElem?_cons_succ, List.getElem?_cons_zero]; rfl) (fun K hK => ?_) AllReadyH.nil
  go_simp
  refine (HC2.out _).mono ?_
  rintro e V4 ⟨rfl, rfl⟩
  refine hK.out _ _ ⟨HS.out.k2, HS.out.k3⟩ (fun hH4 => ?_)
  clear hK K
  try simp only [List.setIfInBounds_toArray, List.set_cons_zero, List.set_cons_succ]
  refine wpAnyH_ready (rs := [14]) (by kernel_rfl) (by simp) ?_
  refine AllReadyH.cons (by simp only [List.getElem?_toArray, List.getElem?_cons_succ, List.getElem?_cons_zero]; rfl) (fun K hK => ?_) AllReadyH.nil
  go_simp
  refine (HC3.out _).mono ?_
  rintro e V5 ⟨rfl, rfl⟩
  refine hK.out _ _ ⟨HS.out.k2, HS.out.k3⟩ (fun hH5 => ?_)
  clear hK K
  try simp only [List.setIfInBounds_toArray, List.set_cons_zero, List.set_cons_succ]
  refine wpAnyH_ready (rs := [15]) (by kernel_rfl) (by simp) ?_
  refine AllReadyH.cons (by simp only [List.getElem?_toArray, List.getElem?_cons_succ, List.getElem?_cons_zero]; rfl) (fun K hK => ?_) AllReadyH.nil
  go_simp
  have hb : Below V2.heap.size V2 (V2.alloc (.cells #[.int .i64 x, .int .i64 y, .int .i64 z] 3)) := (Below.refl _ _).alloc (Nat.le_refl _) _
  replace HS := Lib.hid (HS.out.call hb)
  have HK := Lib.hid (three_sl (Blk.new V2 3 #[.int .i64 x, .int .i64 y, .int .i64 z]))
  clear hb
  refine hK.out _ _ ⟨HS.out.k2, HS.out.k3⟩ (fun hH6 => ?_)
  clear hK K
  try simp only [List.setIfInBounds_toArray, List.set_cons_zero, List.set_cons_succ]
  refine wpAnyH_ready (rs := [16]) (by kernel_rfl) (by simp) ?_
  refine AllReadyH.cons (by simp only [List.getElem?_toArray, List.getElem?_cons_succ, List.getElem?_cons_zero]; rfl) (fun K hK => ?_) AllReadyH.nil
  go_simp
  refine (HOR.out _ _ HK.out).mono ?_
  rintro e V7 ⟨rfl, rfl⟩
  refine hK.out _ _ ⟨HS.out.k2, HS.out.k3⟩ (fun hH7 => ?_)
  clear hK K
  try simp only [List.setIfInBounds_toArray, List.set_cons_zero, List.set_cons_succ]
  refine wpAnyH_take (i := 17 ) (v := ?_) rfl (by kernel_rfl) (by kernel_rfl) (by kernel_rfl) (fun _ _ _ h => h) (Or.inl ⟨by rfl, ?_⟩) (by assumption) ?_; rotate_left; (· (intro w0 hSw; obtain ⟨k2, k3⟩ := hSw; have s0 := k2.cell 0; have s1 := k2.cell 1; have s2 := k3.cell 0; have s3 := k3.cell 1; clear k2 k3; go_simp); first | done | with_reducible rfl); (try simp only [Act.put, List.getElem_toArray, List.getElem_cons_succ, List.getElem_cons_zero, List.setIfInBounds_toArray, List.set_cons_zero, List.set_cons_succ])
  refine wpAnyH_take (i := 18 ) (v := ?_) rfl (by kernel_rfl) (by kernel_rfl) (by kernel_rfl) (fun _ _ _ h => h) (Or.inl ⟨by rfl, ?_⟩) (by assumption) ?_; rotate_left; (· (intro w0 hSw; obtain ⟨k2, k3⟩ := hSw; have s0 := k2.cell 0; have s1 := k2.cell 1; have s2 := k3.cell 0; have s3 := k3.cell 1; clear k2 k3; go_simp); first | done | with_reducible rfl); (try simp only [Act.put, List.getElem_toArray, List.getElem_cons_succ, List.getElem_cons_zero, List.setIfInBounds_toArray, List.set_cons_zero, List.set_cons_succ])
  refine wpAnyH_done (by kernel_rfl) ?_ _
  go_wp2_with fail
  go_ret
  exact ⟨ret_bool HBF.out.symm, HS.out.hb⟩
end Go.Proofs.Ytfpfafijockfnaa