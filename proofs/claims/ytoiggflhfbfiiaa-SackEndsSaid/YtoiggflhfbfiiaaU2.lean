/- Walk of the reference's Corners. -/
import Derived.Test.YtoiggflhfbfiiaaU1
namespace Go.Proofs.Ytoiggflhfbfiiaa
open Go.RowKit Go.Shelf

def cornersR (s : Sack) : List Cor := [⟨s.w.lo, s.c.lo, s.l.lo⟩, ⟨s.w.hi, s.c.lo, s.l.lo⟩, ⟨s.w.lo, s.c.hi, s.l.lo⟩, ⟨s.w.hi, s.c.hi, s.l.lo⟩, ⟨s.w.lo, s.c.lo, s.l.hi⟩, ⟨s.w.hi, s.c.lo, s.l.hi⟩, ⟨s.w.lo, s.c.hi, s.l.hi⟩, ⟨s.w.hi, s.c.hi, s.l.hi⟩]
def sackC (s : Sack) : Array Value := #[.int .i64 s.w.lo, .int .i64 s.w.hi, .int .i64 s.c.lo, .int .i64 s.c.hi, .int .i64 s.l.lo, .int .i64 s.l.hi]
theorem alloc_new_at {W : World} {o : Obj} {B : Nat} (h : B = W.heap.size) : (W.alloc o).heap[B]? = some o := by subst h; exact World.alloc_heap_new W o
theorem corn_keep {w W V V' : World} {e t : TypeId} {size : Nat} {v : Value} {k : Nat} {xs : List Value} {cs : Array Value} (ho : W.ownsRow (w.heap.size + 1) e size v k xs) (hk : Blk W w.heap.size t cs) (hB : Below w.heap.size w W) (hb : Below W.heap.size W V) (hg : V.grownBy V' v.ownBlock) : Blk V' w.heap.size t cs ∧ Below w.heap.size w V' := by
  have hlt := hk.lt
  refine ⟨(hk.below hb hlt).kept hg fun e => ?_, hB.trans ((hb.mono hB.size).grown hg (Nat.le_trans hB.size hb.size) fun j hj => ?_)⟩
  · have := own_ge ho _ e.symm
    omega
  · have := own_ge ho j hj
    omega
def RetCors (w : World) (s : Sack) (e : Ending) (w' : World) : Prop := ∃ A c, e = .returned (.slice A 8 c) ∧ CorSl w' w'.heap.size A (cornersR s) ∧ Below w.heap.size w w'

set_option maxRecDepth 100000 in
set_option maxHeartbeats 4000000 in
theorem corners_any' (w : World) (s : Sack) :
    Calls Try.prog 60 #[.agg #[.int .i64 s.w.lo, .int .i64 s.w.hi, .int .i64 s.c.lo, .int .i64 s.c.hi, .int .i64 s.l.lo, .int .i64 s.l.hi]] w (RetCors w s) := by
  have hb0 : Below w.heap.size w (w.alloc (.cells (sackC s) 57)) := (Below.refl _ _).alloc (Nat.le_refl _) _
  have hB0 := Blk.new w 57 (sackC s)
  have e0 : sackC s = #[.int .i64 s.w.lo, .int .i64 s.w.hi, .int .i64 s.c.lo, .int .i64 s.c.hi, .int .i64 s.l.lo, .int .i64 s.l.hi] := rfl
  rw [e0] at hb0 hB0
  clear e0
  obtain ⟨i0, hi, hz0, hz1, hz2⟩ := info_parts corInfo
  go_enter Try.func60, Try.ntmps60
  go_wp2
  have hsz0 : w.heap.size + 1 ≤ (World.alloc w (.cells #[.int .i64 s.w.lo, .int .i64 s.w.hi, .int .i64 s.c.lo, .int .i64 s.c.hi, .int .i64 s.l.lo, .int .i64 s.l.hi] 57)).heap.size := by simp
  generalize World.alloc w _ = W0 at hb0 hB0 hsz0 ⊢
  go_loopw [3, 4] (fun v i wr => ∃ k : Nat, k ≤ 8 ∧ i = .int .i64 k ∧ Hid (wr.ownsRow (w.heap.size + 1) 96 3 v k (corVs ((cornersR s).take k))) ∧ Hid (Blk wr w.heap.size 57 #[.int .i64 s.w.lo, .int .i64 s.w.hi, .int .i64 s.c.lo, .int .i64 s.c.hi, .int .i64 s.l.lo, .int .i64 s.l.hi]) ∧ Below w.heap.size w wr) (fun _ i _ => 8 - (intOf i).toNat)
  case atStart => exact ⟨0, by omega, rfl, World.ownsRow_nil _ _ _ _, hB0, hb0⟩
  case round =>
    clear hB0 hb0 hsz0
    obtain ⟨k, hk, rfl, HO, HK, hB⟩ := hrel
    by_cases hlt : k < 8
    · have c0 := HK.out.cell 0
      have c1 := HK.out.cell 1
      have c2 := HK.out.cell 2
      have c3 := HK.out.cell 3
      have c4 := HK.out.cell 4
      have c5 := HK.out.cell 5
      have hp := HK.out.lt
      have h8 : k = 0 ∨ k = 1 ∨ k = 2 ∨ k = 3 ∨ k = 4 ∨ k = 5 ∨ k = 6 ∨ k = 7 := by omega
      clear hlt hk
      rcases h8 with rfl | rfl | rfl | rfl | rfl | rfl | rfl | rfl
      · go_wp2_with (at_builtin; refine wpList_append_own _ rfl _ _ 41 rfl (w.heap.size + 1) 96 i0 _ 3 24 corsSl hi hz0 hz1 hz2 rfl (by decide) _ 0 _ rfl (own_call HO.out (by repeat (first | exact Below.refl _ _ | assumption | refine Below.drew ?_ | refine Below.alloc ?_ (by first | omega | (simp only [World.size_alloc]; omega) | simp) _ | refine Below.setCell ?_ (by first | omega | (simp only [World.size_alloc]; omega) | simp) _))) ⟨wr.heap.size + 1, 0, none⟩ 1 1 [.int .i64 s.w.lo, .int .i64 s.c.lo, .int .i64 s.l.lo] rfl rfl (World.news_of_block (cs := #[.int .i64 s.w.lo, .int .i64 s.c.lo, .int .i64 s.l.lo]) (t := 96) (fr := (0, 0)) (alloc_new_at (by simp))) (by simp [Value.oneCell']) (by unfold maxLen; omega) (by omega) (by have := hB.size; simp; omega) ?_; intro v' w1 hown1 hg1 _; have HO1 := Lib.hid hown1; have HG1 := Lib.hid hg1; clear hown1 hg1)
        obtain ⟨K2, B2⟩ := corn_keep HO.out HK.out hB (by repeat (first | exact Below.refl _ _ | assumption | refine Below.drew ?_ | refine Below.alloc ?_ (by first | omega | (simp only [World.size_alloc]; omega) | simp) _ | refine Below.setCell ?_ (by first | omega | (simp only [World.size_alloc]; omega) | simp) _)) HG1.out
        have HK2 := Lib.hid K2
        clear K2 c0 c1 c2 c3 c4 c5
        go_roundw
        case rel => exact ⟨1, by omega, rfl, HO1.out, HK2, B2⟩
        case measure => simp [intOf]
      · go_wp2_with (at_builtin; refine wpList_append_own _ rfl _ _ 41 rfl (w.heap.size + 1) 96 i0 _ 3 24 corsSl hi hz0 hz1 hz2 rfl (by decide) _ 1 _ rfl (own_call HO.out (by repeat (first | exact Below.refl _ _ | assumption | refine Below.drew ?_ | refine Below.alloc ?_ (by first | omega | (simp only [World.size_alloc]; omega) | simp) _ | refine Below.setCell ?_ (by first | omega | (simp only [World.size_alloc]; omega) | simp) _))) ⟨wr.heap.size + 1, 0, none⟩ 1 1 [.int .i64 s.w.hi, .int .i64 s.c.lo, .int .i64 s.l.lo] rfl rfl (World.news_of_block (cs := #[.int .i64 s.w.hi, .int .i64 s.c.lo, .int .i64 s.l.lo]) (t := 96) (fr := (0, 0)) (alloc_new_at (by simp))) (by simp [Value.oneCell']) (by unfold maxLen; omega) (by omega) (by have := hB.size; simp; omega) ?_; intro v' w1 hown1 hg1 _; have HO1 := Lib.hid hown1; have HG1 := Lib.hid hg1; clear hown1 hg1)
        obtain ⟨K2, B2⟩ := corn_keep HO.out HK.out hB (by repeat (first | exact Below.refl _ _ | assumption | refine Below.drew ?_ | refine Below.alloc ?_ (by first | omega | (simp only [World.size_alloc]; omega) | simp) _ | refine Below.setCell ?_ (by first | omega | (simp only [World.size_alloc]; omega) | simp) _)) HG1.out
        have HK2 := Lib.hid K2
        clear K2 c0 c1 c2 c3 c4 c5
        go_roundw
        case rel => exact ⟨2, by omega, rfl, HO1.out, HK2, B2⟩
        case measure => simp [intOf]
      · go_wp2_with (at_builtin; refine wpList_append_own _ rfl _ _ 41 rfl (w.heap.size + 1) 96 i0 _ 3 24 corsSl hi hz0 hz1 hz2 rfl (by decide) _ 2 _ rfl (own_call HO.out (by repeat (first | exact Below.refl _ _ | assumption | refine Below.drew ?_ | refine Below.alloc ?_ (by first | omega | (simp only [World.size_alloc]; omega) | simp) _ | refine Below.setCell ?_ (by first | omega | (simp only [World.size_alloc]; omega) | simp) _))) ⟨wr.heap.size + 1, 0, none⟩ 1 1 [.int .i64 s.w.lo, .int .i64 s.c.hi, .int .i64 s.l.lo] rfl rfl (World.news_of_block (cs := #[.int .i64 s.w.lo, .int .i64 s.c.hi, .int .i64 s.l.lo]) (t := 96) (fr := (0, 0)) (alloc_new_at (by simp))) (by simp [Value.oneCell']) (by unfold maxLen; omega) (by omega) (by have := hB.size; simp; omega) ?_; intro v' w1 hown1 hg1 _; have HO1 := Lib.hid hown1; have HG1 := Lib.hid hg1; clear hown1 hg1)
        obtain ⟨K2, B2⟩ := corn_keep HO.out HK.out hB (by repeat (first | exact Below.refl _ _ | assumption | refine Below.drew ?_ | refine Below.alloc ?_ (by first | omega | (simp only [World.size_alloc]; omega) | simp) _ | refine Below.setCell ?_ (by first | omega | (simp only [World.size_alloc]; omega) | simp) _)) HG1.out
        have HK2 := Lib.hid K2
        clear K2 c0 c1 c2 c3 c4 c5
        go_roundw
        case rel => exact ⟨3, by omega, rfl, HO1.out, HK2, B2⟩
        case measure => simp [intOf]
      · go_wp2_with (at_builtin; refine wpList_append_own _ rfl _ _ 41 rfl (w.heap.size + 1) 96 i0 _ 3 24 corsSl hi hz0 hz1 hz2 rfl (by decide) _ 3 _ rfl (own_call HO.out (by repeat (first | exact Below.refl _ _ | assumption | refine Below.drew ?_ | refine Below.alloc ?_ (by first | omega | (simp only [World.size_alloc]; omega) | simp) _ | refine Below.setCell ?_ (by first | omega | (simp only [World.size_alloc]; omega) | simp) _))) ⟨wr.heap.size + 1, 0, none⟩ 1 1 [.int .i64 s.w.hi, .int .i64 s.c.hi, .int .i64 s.l.lo] rfl rfl (World.news_of_block (cs := #[.int .i64 s.w.hi, .int .i64 s.c.hi, .int .i64 s.l.lo]) (t := 96) (fr := (0, 0)) (alloc_new_at (by simp))) (by simp [Value.oneCell']) (by unfold maxLen; omega) (by omega) (by have := hB.size; simp; omega) ?_; intro v' w1 hown1 hg1 _; have HO1 := Lib.hid hown1; have HG1 := Lib.hid hg1; clear hown1 hg1)
        obtain ⟨K2, B2⟩ := corn_keep HO.out HK.out hB (by repeat (first | exact Below.refl _ _ | assumption | refine Below.drew ?_ | refine Below.alloc ?_ (by first | omega | (simp only [World.size_alloc]; omega) | simp) _ | refine Below.setCell ?_ (by first | omega | (simp only [World.size_alloc]; omega) | simp) _)) HG1.out
        have HK2 := Lib.hid K2
        clear K2 c0 c1 c2 c3 c4 c5
        go_roundw
        case rel => exact ⟨4, by omega, rfl, HO1.out, HK2, B2⟩
        case measure => simp [intOf]
      · go_wp2_with (at_builtin; refine wpList_append_own _ rfl _ _ 41 rfl (w.heap.size + 1) 96 i0 _ 3 24 corsSl hi hz0 hz1 hz2 rfl (by decide) _ 4 _ rfl (own_call HO.out (by repeat (first | exact Below.refl _ _ | assumption | refine Below.drew ?_ | refine Below.alloc ?_ (by first | omega | (simp only [World.size_alloc]; omega) | simp) _ | refine Below.setCell ?_ (by first | omega | (simp only [World.size_alloc]; omega) | simp) _))) ⟨wr.heap.size + 1, 0, none⟩ 1 1 [.int .i64 s.w.lo, .int .i64 s.c.lo, .int .i64 s.l.hi] rfl rfl (World.news_of_block (cs := #[.int .i64 s.w.lo, .int .i64 s.c.lo, .int .i64 s.l.hi]) (t := 96) (fr := (0, 0)) (alloc_new_at (by simp))) (by simp [Value.oneCell']) (by unfold maxLen; omega) (by omega) (by have := hB.size; simp; omega) ?_; intro v' w1 hown1 hg1 _; have HO1 := Lib.hid hown1; have HG1 := Lib.hid hg1; clear hown1 hg1)
        obtain ⟨K2, B2⟩ := corn_keep HO.out HK.out hB (by repeat (first | exact Below.refl _ _ | assumption | refine Below.drew ?_ | refine Below.alloc ?_ (by first | omega | (simp only [World.size_alloc]; omega) | simp) _ | refine Below.setCell ?_ (by first | omega | (simp only [World.size_alloc]; omega) | simp) _)) HG1.out
        have HK2 := Lib.hid K2
        clear K2 c0 c1 c2 c3 c4 c5
        go_roundw
        case rel => exact ⟨5, by omega, rfl, HO1.out, HK2, B2⟩
        case measure => simp [intOf]
      · go_wp2_with (at_builtin; refine wpList_append_own _ rfl _ _ 41 rfl (w.heap.size + 1) 96 i0 _ 3 24 corsSl hi hz0 hz1 hz2 rfl (by decide) _ 5 _ rfl (own_call HO.out (by repeat (first | exact Below.refl _ _ | assumption | refine Below.drew ?_ | refine Below.alloc ?_ (by first | omega | (simp only [World.size_alloc]; omega) | simp) _ | refine Below.setCell ?_ (by first | omega | (simp only [World.size_alloc]; omega) | simp) _))) ⟨wr.heap.size + 1, 0, none⟩ 1 1 [.int .i64 s.w.hi, .int .i64 s.c.lo, .int .i64 s.l.hi] rfl rfl (World.news_of_block (cs := #[.int .i64 s.w.hi, .int .i64 s.c.lo, .int .i64 s.l.hi]) (t := 96) (fr := (0, 0)) (alloc_new_at (by simp))) (by simp [Value.oneCell']) (by unfold maxLen; omega) (by omega) (by have := hB.size; simp; omega) ?_; intro v' w1 hown1 hg1 _; have HO1 := Lib.hid hown1; have HG1 := Lib.hid hg1; clear hown1 hg1)
        obtain ⟨K2, B2⟩ := corn_keep HO.out HK.out hB (by repeat (first | exact Below.refl _ _ | assumption | refine Below.drew ?_ | refine Below.alloc ?_ (by first | omega | (simp only [World.size_alloc]; omega) | simp) _ | refine Below.setCell ?_ (by first | omega | (simp only [World.size_alloc]; omega) | simp) _)) HG1.out
        have HK2 := Lib.hid K2
        clear K2 c0 c1 c2 c3 c4 c5
        go_roundw
        case rel => exact ⟨6, by omega, rfl, HO1.out, HK2, B2⟩
        case measure => simp [intOf]
      · go_wp2_with (at_builtin; refine wpList_append_own _ rfl _ _ 41 rfl (w.heap.size + 1) 96 i0 _ 3 24 corsSl hi hz0 hz1 hz2 rfl (by decide) _ 6 _ rfl (own_call HO.out (by repeat (first | exact Below.refl _ _ | assumption | refine Below.drew ?_ | refine Below.alloc ?_ (by first | omega | (simp only [World.size_alloc]; omega) | simp) _ | refine Below.setCell ?_ (by first | omega | (simp only [World.size_alloc]; omega) | simp) _))) ⟨wr.heap.size + 1, 0, none⟩ 1 1 [.int .i64 s.w.lo, .int .i64 s.c.hi, .int .i64 s.l.hi] rfl rfl (World.news_of_block (cs := #[.int .i64 s.w.lo, .int .i64 s.c.hi, .int .i64 s.l.hi]) (t := 96) (fr := (0, 0)) (alloc_new_at (by simp))) (by simp [Value.oneCell']) (by unfold maxLen; omega) (by omega) (by have := hB.size; simp; omega) ?_; intro v' w1 hown1 hg1 _; have HO1 := Lib.hid hown1; have HG1 := Lib.hid hg1; clear hown1 hg1)
        obtain ⟨K2, B2⟩ := corn_keep HO.out HK.out hB (by repeat (first | exact Below.refl _ _ | assumption | refine Below.drew ?_ | refine Below.alloc ?_ (by first | omega | (simp only [World.size_alloc]; omega) | simp) _ | refine Below.setCell ?_ (by first | omega | (simp only [World.size_alloc]; omega) | simp) _)) HG1.out
        have HK2 := Lib.hid K2
        clear K2 c0 c1 c2 c3 c4 c5
        go_roundw
        case rel => exact ⟨7, by omega, rfl, HO1.out, HK2, B2⟩
        case measure => simp [intOf]
      · go_wp2_with (at_builtin; refine wpList_append_own _ rfl _ _ 41 rfl (w.heap.size + 1) 96 i0 _ 3 24 corsSl hi hz0 hz1 hz2 rfl (by decide) _ 7 _ rfl (own_call HO.out (by repeat (first | exact Below.refl _ _ | assumption | refine Below.drew ?_ | refine Below.alloc ?_ (by first | omega | (simp only [World.size_alloc]; omega) | simp) _ | refine Below.setCell ?_ (by first | omega | (simp only [World.size_alloc]; omega) | simp) _))) ⟨wr.heap.size + 1, 0, none⟩ 1 1 [.int .i64 s.w.hi, .int .i64 s.c.hi, .int .i64 s.l.hi] rfl rfl (World.news_of_block (cs := #[.int .i64 s.w.hi, .int .i64 s.c.hi, .int .i64 s.l.hi]) (t := 96) (fr := (0, 0)) (alloc_new_at (by simp))) (by simp [Value.oneCell']) (by unfold maxLen; omega) (by omega) (by have := hB.size; simp; omega) ?_; intro v' w1 hown1 hg1 _; have HO1 := Lib.hid hown1; have HG1 := Lib.hid hg1; clear hown1 hg1)
        obtain ⟨K2, B2⟩ := corn_keep HO.out HK.out hB (by repeat (first | exact Below.refl _ _ | assumption | refine Below.drew ?_ | refine Below.alloc ?_ (by first | omega | (simp only [World.size_alloc]; omega) | simp) _ | refine Below.setCell ?_ (by first | omega | (simp only [World.size_alloc]; omega) | simp) _)) HG1.out
        have HK2 := Lib.hid K2
        clear K2 c0 c1 c2 c3 c4 c5
        go_roundw
        case rel => exact ⟨8, by omega, rfl, HO1.out, HK2, B2⟩
        case measure => simp [intOf]
    · obtain rfl : k = 8 := by omega
      go_wp2
      go_ret
      obtain ⟨A, c, rfl, h1⟩ := CorSl.of_own (show CorsAt wr (w.heap.size + 1) u3 (cornersR s) from HO.out)
      exact ⟨A, c, rfl, h1, hB⟩
end Go.Proofs.Ytoiggflhfbfiiaa
