/- Walks: the document's times, lack, Lack. -/
import Derived.Test.YtngoagfkcjkeoaaRc
import Derived.Test.YtngoagfkcjkeoaaLp
namespace Go.Proofs.Ytngoagfkcjkeoaa
open Go.RowKit Go.Shelf

def intsV9 (l : List Int) : List Value := l.map fun i => Value.int .i64 i
theorem intsV9_one (l : List Int) : ∀ u ∈ intsV9 l, u.oneCell' = true := fun u hu => by
  simp only [intsV9, List.mem_map] at hu
  obtain ⟨i, -, rfl⟩ := hu
  rfl
theorem und_ints9 : Try.prog.underlying 22 = some (.slice 3) := by kernel_rfl
theorem intInfo9 : (Try.prog.info? 3).map (fun i => (i.zero, i.size, i.bytes)) = some (some (.int .i64 0), 1, 8) := by kernel_rfl
theorem one_news9 {W : World} {g : Nat} {d : Int} (h : W.cell? ⟨g, 0, none⟩ = some (.int .i64 d)) : ∀ (j : Nat) u, (intsV9 [d])[j]? = some u → W.cell? ((⟨g, 0, none⟩ : Addr).add j) = some u := fun j u hj => by
  cases j with
  | zero => simp only [intsV9, List.map_cons, List.getElem?_cons_zero, Option.some.injEq] at hj; rw [← hj]; exact h
  | succ j => simp [intsV9] at hj
theorem own_ints9 {w : World} {B k : Nat} {v : Value} {l : List Int} (h : w.ownsRow B 3 1 v k (intsV9 l)) (hk : l.length = k) : ∃ A c, v = .slice A k c ∧ IntSl w w.heap.size A l := by
  have h0 := h
  rcases h.2 with ⟨rfl, h2⟩ | ⟨g, cap, cur, rfl, h1, h2, h3⟩
  · exact ⟨none, 0, by rw [h2], fun hne => absurd (List.eq_nil_of_length_eq_zero (hk.trans h2)) hne⟩
  · refine ⟨some ⟨g, 0, none⟩, cap, rfl, fun _ => ⟨g, 0, rfl, (h0.lt g rfl).2, fun i hi => ?_⟩⟩
    rw [Nat.zero_add, h0.cellAt i (by omega)]
    simp [intsV9, hi]
theorem needF_map (b : Int) : ∀ (need : List Int) (s i : Nat), needF (need.map (b * ·)) s i = needF need s i * b
  | [], _, _ => by simp [needF]
  | n :: r, s, i => by
    have h := needF_map b r s (i + 1)
    simp only [List.map_cons, needF, h, Int.add_mul]
    split
    · rw [Int.mul_comm]
    · rw [Int.zero_mul]
def RetTi (need : List Int) (b : Int) (w : World) (e : Ending) (w' : World) : Prop := ∃ A c, e = .returned (.slice A need.length c) ∧ IntSl w' w'.heap.size A (need.map (b * ·)) ∧ Below w.heap.size w w'
theorem map_take_next (b : Int) (l : List Int) (k : Nat) (h : k < l.length) : intsV9 ((l.take (k + 1)).map (b * ·)) = intsV9 ((l.take k).map (b * ·)) ++ intsV9 [b * l[k]] := by
  rw [List.take_add_one, List.getElem?_eq_getElem h]
  simp only [Option.toList_some, List.map_append, List.map_cons, List.map_nil, intsV9]
set_option maxRecDepth 100000 in
set_option maxHeartbeats 2000000 in
theorem rtimes_any (w : World) (A : Option Addr) (c : Nat) (need : List Int) (b : Int) (hl : need.length ≤ 8) (hn : ∀ n ∈ need, 0 ≤ n ∧ n ≤ 48) (hb : 0 ≤ b ∧ b ≤ 1048576) (hA : IntSl w w.heap.size A need) :
    Calls Try.prog 50 #[.slice A need.length c, .int .i64 b] w (RetTi need b w) := by
  have HA := Lib.hid hA
  have HN := Lib.hid hn
  obtain ⟨hb0, hb1⟩ := hb
  have hl0 : (0 : Int) ≤ need.length := by omega
  have hl1 : (need.length : Int) ≤ 8 := by omega
  obtain ⟨i0, hi, hz0, hz1, hz2⟩ := info9 intInfo9
  have HI := Lib.hid (And.intro hi (And.intro hz0 (And.intro hz1 hz2)))
  clear hi hz0 hz1 hz2 hA hn
  go_enter Try.func50, Try.ntmps50
  go_wp2_with fail
  go_loopw [5, 6] (fun v i wr => ∃ (k : Nat) (s0 : Value), k ≤ need.length ∧ s0 = v ∧ i = .int .i64 k ∧ Hid (wr.ownsRow w.heap.size 3 1 s0 k (intsV9 ((need.take k).map (b * ·)))) ∧ Hid (Below w.heap.size w wr)) (fun _ i _ => need.length - (intOf i).toNat)
  case atStart => exact ⟨0, _, by omega, rfl, rfl, Lib.hid (World.ownsRow_nil _ _ _ _), Lib.hid (Below.refl _ _)⟩
  case round =>
    obtain ⟨k, s0, hk, rfl, rfl, HW, HB⟩ := hrel
    by_cases hlt : k < need.length
    · obtain ⟨g, off, rfl, hg, hat⟩ := HA.out (by intro e; rw [e] at hlt; simp at hlt)
      have x0 := hat k hlt
      rw [← HB.out.cell (p := ⟨g, _, none⟩) hg] at x0
      obtain ⟨n0, n1⟩ := HN.out need[k] (List.getElem_mem hlt)
      have HX := Lib.hid (map_take_next b need k hlt)
      have hki : (k : Int) < need.length := by omega
      have hk0 : (0 : Int) ≤ k := by omega
      generalize need[k] = x at *
      have m0 : 0 ≤ b * x := Int.mul_nonneg hb0 n0
      have m1 : b * x ≤ 1048576 * 48 := Int.mul_le_mul hb1 n1 n0 (by omega)
      have hw : IntKind.i64.wrap (b * x) = b * x := IntWalk.i64_in _ ⟨by omega, by omega⟩
      generalize hmm : b * x = M at *
      have hb6 : Below wr.heap.size wr (wr.alloc (.cells #[.int .i64 M] 3)) := (Below.refl _ _).alloc (Nat.le_refl _) _
      have HO5 := Lib.hid (own_low9 HW.out hb6)
      have HB6 := Lib.hid (HB.out.trans (hb6.mono HB.out.size))
      have hsz := HB6.out.size
      have hk10 : k ≤ 10 := by omega
      have HBK := Lib.hid (Blk.new wr 3 #[.int .i64 M])
      clear hb6 HW hat hg
      go_wp2_with (at_builtin; refine wpList_append_own _ rfl _ _ 22 rfl w.heap.size 3 i0 _ 1 8 und_ints9 HI.out.1 HI.out.2.1 HI.out.2.2.1 HI.out.2.2.2 rfl (by decide) s0 k (intsV9 ((need.take k).map (b * ·))) rfl HO5.out ⟨wr.heap.size, 0, none⟩ 1 1 (intsV9 [M]) rfl rfl (one_news9 (HBK.out.cell 0)) (intsV9_one _) (by unfold maxLen; omega) (by omega) hsz ?_; intro v' w2 hown hgr hnn; clear hnn; have HO := Lib.hid hown; have HG := Lib.hid hgr; clear hown hgr)
      go_roundw
      case rel => exact ⟨k + 1, _, by omega, rfl, by go_num, Lib.hid (by rw [HX.out]; exact HO.out), Lib.hid (Below.grown HB6.out HG.out hsz fun j e => (HO5.out.lt j e).1)⟩
      case measure => exact meas9 hlt
    · obtain rfl : k = need.length := by omega
      rw [List.take_length] at HW
      obtain ⟨A2, c2, rfl, hsl⟩ := own_ints9 HW.out (by simp)
      have HSL := Lib.hid hsl
      clear hsl HW
      go_wp2_with fail
      go_ret
      exact ⟨A2, c2, rfl, HSL.out, HB.out⟩
end Go.Proofs.Ytngoagfkcjkeoaa
