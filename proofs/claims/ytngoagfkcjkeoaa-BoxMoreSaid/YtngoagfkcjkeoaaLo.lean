/- worst, Most, Lack. -/
import Derived.Test.YtngoagfkcjkeoaaLn
namespace Go.Proofs.Ytngoagfkcjkeoaa
open Go.RowKit Go.Shelf

theorem worst_snoc (f : Nat → Int) : ∀ (r : List Nat) (w : Nat × Int) (x : Nat), worstS f (r ++ [x]) w = if (worstS f r w).2 < f x then (x, f x) else worstS f r w
  | [], w, x => rfl
  | s :: r, w, x => by rw [List.cons_append, worst_cons, worst_cons, worst_snoc f r _ x]
def wstL (f : Nat → Int) : List Nat → Nat × Int
  | [] => (0, 0)
  | s :: r => worstS f r (s, f s)
theorem wst_next (f : Nat → Int) (l : List Nat) (k : Nat) (h : k < l.length) : wstL f (l.take (k + 1)) = if k = 0 ∨ (wstL f (l.take k)).2 < f l[k] then (l[k], f l[k]) else wstL f (l.take k) := by
  rw [List.take_add_one, List.getElem?_eq_getElem h]
  simp only [Option.toList_some]
  cases l with
  | nil => simp at h
  | cons s r =>
    cases k with
    | zero => simp [wstL, worstS]
    | succ k =>
      simp only [List.take_succ_cons, List.cons_append, wstL, worst_snoc]
      simp
theorem lackP_eq (need : List Int) (l : List Pile) (b : Int) : lackP need l b = wstL (lackS need l b) (setsS need.length) := by
  unfold lackP wstL
  cases setsS need.length <;> rfl
theorem lk_cells {W : World} {b n : Nat} {v : Value} {f : Nat → Int} {l : List Nat} (h : W.ownsRow b 81 2 v n (lkV f l)) (hn : n = l.length) : ∃ A c, v = .slice A l.length c ∧ (l ≠ [] → ∃ g, A = some ⟨g, 0, none⟩ ∧ g < W.heap.size ∧ ∀ i (hi : i < l.length), W.cell? ⟨g, i * 2, none⟩ = some (.int .i64 (l[i] : Int)) ∧ W.cell? ⟨g, i * 2 + 1, none⟩ = some (.int .i64 (f l[i]))) := by
  subst hn
  obtain ⟨h1, ⟨rfl, h2⟩ | ⟨g, cap, cur, rfl, h3, h4, h5, h6, h7, h8⟩⟩ := h
  · exact ⟨none, 0, by rw [h2], fun hne => absurd (List.eq_nil_of_length_eq_zero h2) hne⟩
  · refine ⟨_, _, rfl, fun _ => ⟨g, rfl, (Array.getElem?_eq_some_iff.1 h4).1, fun i hi => ?_⟩⟩
    have key : ∀ j, j < l.length * 2 → ∀ u, (lkV f l)[j]? = some u → W.cell? ⟨g, j, none⟩ = some u := fun j hj u hu => by
      rw [cell_of_row W g j cur 81 (0, 0) h4]
      rw [← h8, List.getElem?_take, if_pos hj] at hu
      simpa using hu
    obtain ⟨b0, b1⟩ := lkV_at f l i hi
    exact ⟨key _ (by omega) _ b0, key _ (by omega) _ b1⟩
structure WoS (w : World) (x : Nat × Int) (W : World) : Prop where
  hb : Below w.heap.size w W
  k2 : Blk W w.heap.size 81 #[.int .i64 (x.1 : Int), .int .i64 x.2]
theorem WoS.call {w : World} {x : Nat × Int} {W W' : World} (h : WoS w x W) (hb : Below W.heap.size W W') : WoS w x W' := ⟨h.hb.trans (hb.mono h.hb.size), h.k2.below hb h.k2.lt⟩
theorem WoS.put {w : World} {x : Nat × Int} {W : World} (h : WoS w x W) (y : Nat × Int) : WoS w y ((W.setCell ⟨w.heap.size, 0, none⟩ (.int .i64 (y.1 : Int))).setCell ⟨w.heap.size, 1, none⟩ (.int .i64 y.2)) :=
  ⟨(h.hb.setCell (by simp only []; omega) _).setCell (by simp only []; omega) _, (h.k2.set_ 0 _).set_ 1 _⟩
set_option maxRecDepth 100000 in
set_option maxHeartbeats 4000000 in
theorem worst_any (w : World) (A : Option Addr) (c : Nat) (l : List Nat) (f : Nat → Int) (hl : l.length ≤ 1000) (hA : l ≠ [] → ∃ g, A = some ⟨g, 0, none⟩ ∧ g < w.heap.size ∧ ∀ i (hi : i < l.length), w.cell? ⟨g, i * 2, none⟩ = some (.int .i64 (l[i] : Int)) ∧ w.cell? ⟨g, i * 2 + 1, none⟩ = some (.int .i64 (f l[i]))) :
    Calls Try.prog 43 #[.slice A l.length c] w (Ret (.agg #[.int .i64 ((wstL f l).1 : Int), .int .i64 (wstL f l).2]) w) := by
  have HA := Lib.hid hA
  have HS : Hid (WoS w (0, 0) (w.alloc (.cells #[.int .i64 0, .int .i64 0] 81))) := Lib.hid ⟨(Below.refl _ _).alloc (Nat.le_refl _) _, Blk.new _ _ _⟩
  have hl0 : (0 : Int) ≤ l.length := by omega
  have hl1 : (l.length : Int) ≤ 1000 := by omega
  clear hA
  go_enter Try.func43, Try.ntmps43
  go_upto_region 1 with fail
  generalize World.alloc w _ = V0 at HS ⊢
  go_wp2_with fail
  go_loopw [7] (fun i wr => ∃ k : Nat, k ≤ l.length ∧ i = .int .i64 k ∧ Hid (WoS w (wstL f (l.take k)) wr)) (fun i _ => l.length - (intOf i).toNat)
  case atStart => exact ⟨0, Nat.zero_le _, rfl, HS⟩
  case round =>
    clear HS
    obtain ⟨k, hk, rfl, HS⟩ := hrel
    by_cases hlt : k < l.length
    · obtain ⟨g, rfl, hg, hat⟩ := HA.out (by intro e; rw [e] at hlt; simp at hlt)
      obtain ⟨x0, x1⟩ := hat k hlt
      rw [← HS.out.hb.cell (p := ⟨g, _, none⟩) hg] at x0 x1
      have hkn : (k : Int) < l.length := by omega
      have hk0 : (0 : Int) ≤ k := by omega
      have HX := Lib.hid (wst_next f l k hlt)
      generalize l[k] = s at *
      generalize f s = fs at *
      have HS1 := Lib.hid (HS.out.call ((Below.refl _ _).alloc (Nat.le_refl _) (.cells #[.int .i64 (s : Int), .int .i64 fs] 81)))
      have HK := Lib.hid (Blk.new wr 81 #[.int .i64 (s : Int), .int .i64 fs])
      have hlg := HS.out.k2.lt
      clear hat hg
      go_upto_region 4 with fail
      clear x0 x1 HS
      have hgne : wr.heap.size ≠ w.heap.size := by omega
      clear hlg
      generalize wr.heap.size = g4 at *
      generalize World.alloc wr _ = W1 at *
      have y0 := HK.out.cell 0
      have y1 := HK.out.cell 1
      have z0 := HS1.out.k2.cell 0
      have z1 := HS1.out.k2.cell 1
      have q0 := HS1.out.k2.frozen 0
      have q1 := HS1.out.k2.frozen 1
      have hlg := HS1.out.k2.lt
      have HP := Lib.hid (HS1.out.put (s, fs))
      by_cases h0 : k = 0
      · have h0' : ((k : Int) == 0) = true := by rw [beq_iff_eq]; omega
        have hX : wstL f (l.take (k + 1)) = (s, fs) := by rw [HX.out, if_pos (.inl h0)]
        have HK0 := Lib.hid h0
        clear h0
        go_wp2_with fail
        go_roundw
        case rel => exact ⟨k + 1, by omega, by go_num, by rw [hX]; exact HP⟩
        case measure => exact meas9 hlt
      · have h0' : ((k : Int) == 0) = false := by rw [beq_eq_false_iff_ne]; omega
        generalize wstL f (l.take k) = wk at *
        by_cases hgt : wk.2 < fs
        · have hX : wstL f (l.take (k + 1)) = (s, fs) := by rw [HX.out, if_pos (.inr hgt)]
          go_wp2_with fail
          go_roundw
          case rel => exact ⟨k + 1, by omega, by go_num, by rw [hX]; exact HP⟩
          case measure => exact meas9 hlt
        · have hX : wstL f (l.take (k + 1)) = wk := by rw [HX.out, if_neg (by intro h; rcases h with h | h; exact h0 h; exact hgt h)]
          go_wp2_with fail
          go_roundw
          case rel => exact ⟨k + 1, by omega, by go_num, by rw [hX]; exact HS1⟩
          case measure => exact meas9 hlt
    · obtain rfl : k = l.length := by omega
      rw [List.take_length] at HS
      have z0 := HS.out.k2.cell 0
      have z1 := HS.out.k2.cell 1
      have q0 := HS.out.k2.frozen 0
      have q1 := HS.out.k2.frozen 1
      have hlg := HS.out.k2.lt
      have HP := Lib.hid (HS.out.put (wstL f l))
      go_wp2_with fail
      exact bodyPost_ret (results_blk rfl _ rfl HP.out.k2 (by kernel_rfl) (by kernel_rfl)) rfl ⟨rfl, HP.out.hb⟩
end Go.Proofs.Ytngoagfkcjkeoaa
