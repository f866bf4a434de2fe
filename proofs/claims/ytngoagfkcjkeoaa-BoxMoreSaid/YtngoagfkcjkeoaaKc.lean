/- Walks: times, as a list of its own; rows of the document's Fill in memory. -/
import Derived.Test.YtngoagfkcjkeoaaKb
namespace Go.Proofs.Ytngoagfkcjkeoaa
open Go.RowKit Go.Shelf

set_option maxRecDepth 100000 in
set_option maxHeartbeats 2000000 in
theorem rtimesO_any (w : World) (A : Option Addr) (c : Nat) (need : List Int) (b : Int) (hl : need.length ≤ 8) (hn : ∀ n ∈ need, 0 ≤ n ∧ n ≤ 48) (hb : 0 ≤ b ∧ b ≤ 1048576) (hA : IntSl w w.heap.size A need) :
    Calls Try.prog 50 #[.slice A need.length c, .int .i64 b] w fun e w' => ∃ v, e = .returned v ∧ w'.ownsRow w.heap.size 3 1 v need.length (intsV9 (need.map (b * ·))) ∧ Below w.heap.size w w' := by
  have HA := Lib.hid hA
  have HN := Lib.hid hn
  obtain ⟨hb0, hb1⟩ := hb
  have hl0 : (0 : Int) ≤ need.length := by omega
  have hl1 : (need.length : Int) ≤ 8 := by omega
  obtain ⟨i0, hi, hz0, hz1, hz2⟩ := info9 intInfo9
  have HI := Lib.hid (And.intro hi (And.intro hz0 (And.intro hz1 hz2)))
  clear hi hz0 hz1 hz2 hA hn
  go_enter Try.func50, Try.ntmps50
  go_wp2_with fail
  go_loopw [5, 6] (fun v i wr => ∃ (k : Nat) (s0 : Value), k ≤ need.length ∧ s0 = v ∧ i = .int .i64 k ∧ Hid (wr.ownsRow w.heap.size 3 1 s0 k (intsV9 ((need.take k).map (b * ·)))) ∧ Hid (Below w.heap.size w wr)) (fun _ i _ => need.length - (intOf i).toNat)
  case atStart => exact ⟨0, _, by omega, rfl, rfl, Lib.hid (World.ownsRow_nil _ _ _ _), Lib.hid (Below.refl _ _)⟩
  case round =>
    obtain ⟨k, s0, hk, rfl, rfl, HW, HB⟩ := hrel
    by_cases hlt : k < need.length
    · obtain ⟨g, off, rfl, hg, hat⟩ := HA.out (by intro e; rw [e] at hlt; simp at hlt)
      have x0 := hat k hlt
      rw [← HB.out.cell (p := ⟨g, _, none⟩) hg] at x0
      obtain ⟨n0, n1⟩ := HN.out need[k] (List.getElem_mem hlt)
      have HX := Lib.hid (map_take_next b need k hlt)
      have hki : (k : Int) < need.length := by omega
      have hk0 : (0 : Int) ≤ k := by omega
      generalize need[k] = x at *
      have m0 : 0 ≤ b * x := Int.mul_nonneg hb0 n0
      have m1 : b * x ≤ 1048576 * 48 := Int.mul_le_mul hb1 n1 n0 (by omega)
      have hw : IntKind.i64.wrap (b * x) = b * x := IntWalk.i64_in _ ⟨by omega, by omega⟩
      generalize hmm : b * x = M at *
      have hb6 : Below wr.heap.size wr (wr.alloc (.cells #[.int .i64 M] 3)) := (Below.refl _ _).alloc (Nat.le_refl _) _
      have HO5 := Lib.hid (own_low9 HW.out hb6)
      have HB6 := Lib.hid (HB.out.trans (hb6.mono HB.out.size))
      have hsz := HB6.out.size
      have hk10 : k ≤ 10 := by omega
      have HBK := Lib.hid (Blk.new wr 3 #[.int .i64 M])
      clear hb6 HW hat hg
      go_wp2_with (at_builtin; refine wpList_append_own _ rfl _ _ 22 rfl w.heap.size 3 i0 _ 1 8 und_ints9 HI.out.1 HI.out.2.1 HI.out.2.2.1 HI.out.2.2.2 rfl (by decide) s0 k (intsV9 ((need.take k).map (b * ·))) rfl HO5.out ⟨wr.heap.size, 0, none⟩ 1 1 (intsV9 [M]) rfl rfl (one_news9 (HBK.out.cell 0)) (intsV9_one _) (by unfold maxLen; omega) (by omega) hsz ?_; intro v' w2 hown hgr hnn; clear hnn; have HO := Lib.hid hown; have HG := Lib.hid hgr; clear hown hgr)
      go_roundw
      case rel => exact ⟨k + 1, _, by omega, rfl, by go_num, Lib.hid (by rw [HX.out]; exact HO.out), Lib.hid (Below.grown HB6.out HG.out hsz fun j e => (HO5.out.lt j e).1)⟩
      case measure => exact meas9 hlt
    · obtain rfl : k = need.length := by omega
      rw [List.take_length] at HW
      go_wp2_with fail
      go_ret
      exact ⟨_, rfl, HW.out, HB.out⟩
theorem own_setOther9 {W : World} {B : Nat} {e : TypeId} {size : Nat} {v : Value} {k : Nat} {xs : List Value} (h : W.ownsRow B e size v k xs) {g : Nat} {cs : Array Value} {t : TypeId} (hg : Blk W g t cs) (ht : t ≠ e) (o : Nat) (u : Value) : (W.setCell ⟨g, o, none⟩ u).ownsRow B e size v k xs := by
  refine ⟨h.1, ?_⟩
  rcases h.2 with h2 | ⟨g', cap, cur, h1, h2, h3, h4⟩
  · exact .inl h2
  · refine .inr ⟨g', cap, cur, h1, h2, (Below.heap_setCell W ⟨g, o, none⟩ u g' (fun e' => ?_)).trans h3, h4⟩
    obtain rfl : g' = g := e'
    rw [show W.heap[g']? = _ from hg] at h3
    cases h3
    exact ht rfl
theorem own_blk9 {W : World} {B : Nat} {e : TypeId} {size g n cap k : Nat} {xs : List Value} (h : W.ownsRow B e size (.slice (some ⟨g, 0, none⟩) n cap) k xs) : ∃ cur, Blk W g e cur := by
  rcases h.2 with ⟨h2, -⟩ | ⟨g', cap', cur, h1, -, h3, -⟩
  · cases h2
  · rw [Value.slice.injEq] at h1
    obtain ⟨h1, -⟩ := h1
    have : g = g' := by simpa using h1
    subst this
    exact ⟨cur, h3⟩
/-- Rows that are done: each is a block of its own. -/
def RowsK (W : World) (B gl N : Nat) (vs : List Value) (O : List (List Int)) : Prop := vs.length = O.length ∧ ∀ (i : Nat) (h : i < vs.length) (h' : i < O.length), ∃ g, vs[i] = .slice (some ⟨g, 0, none⟩) O[i].length O[i].length ∧ g ≠ gl ∧ B ≤ g ∧ g < N ∧ Blk W g 3 (intsV9 O[i]).toArray
section
variable {W W' : World} {B gl N : Nat} {vs : List Value} {O : List (List Int)}
theorem RowsK.keep (h : RowsK W B gl N vs O) (hk : ∀ g cs, g < N → g ≠ gl → Blk W g 3 cs → Blk W' g 3 cs) : RowsK W' B gl N vs O := ⟨h.1, fun i a b => by
  obtain ⟨g, h1, h2, h3, h4, h5⟩ := h.2 i a b
  exact ⟨g, h1, h2, h3, h4, hk g _ h4 h2 h5⟩⟩
theorem RowsK.more (h : RowsK W B gl N vs O) {N' : Nat} (hN : N ≤ N') : RowsK W B gl N' vs O := ⟨h.1, fun i a b => by
  obtain ⟨g, h1, h2, h3, h4, h5⟩ := h.2 i a b
  exact ⟨g, h1, h2, h3, by omega, h5⟩⟩
theorem RowsK.call (h : RowsK W B gl N vs O) (hb : Below W.heap.size W W') : RowsK W' B gl N vs O := h.keep fun _ _ _ _ hg => hg.below hb hg.lt
theorem RowsK.far (h : RowsK W B gl N vs O) {g : Nat} (hg : g = gl ∨ N ≤ g) (o : Nat) (u : Value) : RowsK (W.setCell ⟨g, o, none⟩ u) B gl N vs O := h.keep fun _ _ h1 h2 hb => hb.far (by simp only []; omega) u
theorem RowsK.grown {v : Value} {size k : Nat} {xs : List Value} {B' : Nat} (h : RowsK W B gl N vs O) (hr : W.ownsRow B' 22 size v k xs) (hg : W.grownBy W' v.ownBlock) : RowsK W' B gl N vs O := h.keep fun g cs _ _ hb => keepI9_own hr (by decide) hg g cs hb
theorem RowsK.snoc (h : RowsK W B gl N vs O) {g : Nat} {x : List Int} (hg : g ≠ gl) (hB : B ≤ g) (hN : g < N) (hb : Blk W g 3 (intsV9 x).toArray) : RowsK W B gl N (vs ++ [.slice (some ⟨g, 0, none⟩) x.length x.length]) (O ++ [x]) := by
  refine ⟨by simp [h.1], fun i a b => ?_⟩
  by_cases hi : i < vs.length
  · rw [List.getElem_append_left hi]
    have hi' : i < O.length := by rw [← h.1]; exact hi
    simp only [List.getElem_append_left hi']
    exact h.2 i hi hi'
  · have hi' : ¬ i < O.length := by rw [← h.1]; exact hi
    have e1 : i - vs.length = 0 := by simp at a; omega
    have e2 : i - O.length = 0 := by rw [← h.1]; exact e1
    rw [List.getElem_append_right (by omega)]
    simp only [List.getElem_append_right (show O.length ≤ i by omega), e1, e2, List.getElem_cons_zero]
    exact ⟨g, rfl, hg, hB, hN, hb⟩
theorem RowsK.out {v : Value} {B' : Nat} (h : RowsK W B gl N vs O) (hN : N ≤ W.heap.size) (hr : W.ownsRow B' 22 1 v O.length vs) : ∃ A c, v = .slice A O.length c ∧ RowSl W A O := by
  rcases hr.2 with ⟨rfl, h2⟩ | ⟨g, cap, cur, rfl, h1, h2, h3⟩
  · exact ⟨none, 0, by rw [h2], fun hne => absurd (List.eq_nil_of_length_eq_zero h2) hne⟩
  · refine ⟨_, cap, rfl, fun hne => ⟨g, rfl, (hr.lt g rfl).2, fun i hi => ?_⟩⟩
    have hi' : i < vs.length := by rw [h.1]; exact hi
    obtain ⟨g', e1, -, -, e4, e5⟩ := h.2 i hi' hi
    refine ⟨some ⟨g', 0, none⟩, O[i].length, ?_, fun _ => ⟨g', 0, rfl, by omega, fun j hj => ?_⟩⟩
    · rw [hr.cellAt i (by simpa using hi), List.getElem?_eq_getElem hi', e1]
    · rw [Nat.zero_add, e5.cell]
      unfold intsV9
      simp [hj]
end
end Go.Proofs.Ytngoagfkcjkeoaa
