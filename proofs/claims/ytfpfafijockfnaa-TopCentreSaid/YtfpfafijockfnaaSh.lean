/- Walk of sum: reaches that are added, as many as come. -/
import Derived.Test.YtfpfafijockfnaaSg
namespace Go.Proofs.Ytfpfafijockfnaa
open Go.RowKit Go.Shelf

def SpAt (w : World) (b off : Nat) (l : List Span) : Prop := ∀ i (h : i < l.length), w.cell? ⟨b, off + i * 2, none⟩ = some (.int .i64 l[i].lo) ∧ w.cell? ⟨b, off + i * 2 + 1, none⟩ = some (.int .i64 l[i].hi)
def sumS (l : List Span) : Span := l.foldl addS ⟨0, 0⟩
theorem sumS_snoc (l : List Span) (s : Span) : sumS (l ++ [s]) = addS (sumS l) s := by simp [sumS]
theorem sumS_take {l : List Span} {k : Nat} (h : k < l.length) : sumS (l.take (k + 1)) = addS (sumS (l.take k)) l[k] := by
  rw [List.take_succ_eq_append_getElem h, sumS_snoc]
theorem sumS_far {l : List Span} (hf : ∀ s ∈ l, Far s) : ∀ k, k ≤ l.length → -(1000000 * (k : Int)) ≤ (sumS (l.take k)).lo ∧ (sumS (l.take k)).lo ≤ 1000000 * k ∧ -(1000000 * (k : Int)) ≤ (sumS (l.take k)).hi ∧ (sumS (l.take k)).hi ≤ 1000000 * k
  | 0, _ => by simp [sumS]
  | k + 1, h => by
    have ih := sumS_far hf k (by omega)
    rw [sumS_take (by omega)]
    obtain ⟨a, b, c, d⟩ := hf l[k] (List.getElem_mem (by omega))
    simp only [addS]
    omega
structure SuS (w : World) (s : Span) (W : World) : Prop where
  below : Below w.heap.size w W
  b0 : Blk W w.heap.size 99 #[.int .i64 0, .int .i64 0]
  b1 : Blk W (w.heap.size + 1) 99 #[.int .i64 s.lo, .int .i64 s.hi]
set_option maxRecDepth 100000 in
set_option maxHeartbeats 2000000 in
theorem sum5_any (w : World) (b off c : Nat) (l : List Span) (hb : b < w.heap.size) (h : SpAt w b off l) (hl : l.length ≤ 10) (hf : ∀ s ∈ l, Far s) :
    Calls Try.prog 80 #[.slice (some ⟨b, off, none⟩) l.length c] w (Ret (.agg #[.int .i64 (sumS l).lo, .int .i64 (sumS l).hi]) w) := by
  have hb0 : Below w.heap.size w ((w.alloc (.cells #[.int .i64 0, .int .i64 0] 99)).alloc (.cells #[.int .i64 0, .int .i64 0] 99)) := by repeat (first | exact Below.refl _ _ | assumption | refine Below.drew ?_ | refine Below.alloc ?_ (by first | omega | (simp only [World.size_alloc]; omega) | simp) _ | refine Below.setCell ?_ (by first | omega | (simp only [World.size_alloc]; omega) | simp) _)
  have HS : Hid (SuS w (sumS (l.take 0)) ((w.alloc (.cells #[.int .i64 0, .int .i64 0] 99)).alloc (.cells #[.int .i64 0, .int .i64 0] 99))) := Lib.hid ⟨hb0, (Blk.new _ _ _).alloc _, blk5 _ _ (by simp) rfl⟩
  have HA := Lib.hid h
  have HF := Lib.hid (sumS_far hf)
  have HG := Lib.hid hf
  have hl0 : (0 : Int) ≤ l.length := by omega
  have hl' : (l.length : Int) ≤ 10 := by omega
  clear hb0 h hf
  go_enter Try.func80, Try.ntmps80
  go_wp2_with fail
  generalize World.alloc (World.alloc w _) _ = W0 at HS ⊢
  go_loopw [8] (fun i wr => ∃ k : Nat, k ≤ l.length ∧ i = .int .i64 k ∧ Hid (SuS w (sumS (l.take k)) wr)) (fun i _ => l.length - (intOf i).toNat)
  case atStart => exact ⟨0, by omega, rfl, HS⟩
  case round =>
    clear HS
    obtain ⟨k, hk, rfl, HS⟩ := hrel
    by_cases hlt : k < l.length
    · obtain ⟨c0, c1⟩ := HA.out k hlt
      rw [← HS.out.below.cell (p := ⟨b, _, none⟩) hb] at c0 c1
      obtain ⟨f1, f2, f3, f4⟩ := HF.out k hk
      obtain ⟨g1, g2, g3, g4⟩ := HG.out l[k] (List.getElem_mem hlt)
      have HN := Lib.hid (sumS_take hlt)
      have hbz : b < wr.heap.size := by have := HS.out.below.size; omega
      have hsz := HS.out.below.size
      have hk0 : (0 : Int) ≤ k := by omega
      have hkl : (k : Int) < l.length := by omega
      generalize sumS (l.take k) = s at *
      generalize l[k] = x at *
      have x0 := HS.out.b1.cell 0
      have x1 := HS.out.b1.cell 1
      have y0 := HS.out.b1.frozen 0
      have y1 := HS.out.b1.frozen 1
      have hq1 := HS.out.b1.lt
      have w1 : IntKind.i64.wrap (s.lo + x.lo) = s.lo + x.lo := IntWalk.i64_in _ ⟨by omega, by omega⟩
      have w2 : IntKind.i64.wrap (s.hi + x.hi) = s.hi + x.hi := IntWalk.i64_in _ ⟨by omega, by omega⟩
      have hne : w.heap.size + 1 ≠ wr.heap.size := by omega
      have HS2 : Hid (SuS w (addS s x) (((wr.setCell ⟨w.heap.size + 1, 0, none⟩ (.int .i64 (s.lo + x.lo))).setCell ⟨w.heap.size + 1, 1, none⟩ (.int .i64 (s.hi + x.hi))).alloc (.cells #[.int .i64 x.lo, .int .i64 x.hi] 99))) := by
        refine Lib.hid ⟨((HS.out.below.setCell (by simp) _).setCell (by simp) _).alloc (by simp; omega) _, ((HS.out.b0.far (by simp) _).far (by simp) _).alloc _, ((HS.out.b1.set_ 0 _).set_ 1 _).alloc _⟩
      rw [← HN.out] at HS2
      clear HS HN f1 f2 f3 f4 g1 g2 g3 g4
      go_wp2_with fail
      go_roundw
      case rel => exact ⟨k + 1, by omega, by go_num, HS2⟩
      case measure => simp [intOf]; omega
    · obtain rfl : k = l.length := by omega
      rw [List.take_length] at HS
      have x0 := HS.out.b1.cell 0
      have x1 := HS.out.b1.cell 1
      have y0 := HS.out.b0.cell 0
      have y1 := HS.out.b0.cell 1
      have z0 := HS.out.b0.frozen 0
      have z1 := HS.out.b0.frozen 1
      generalize sumS l = s at *
      go_wp2_with fail
      exact bodyPost_ret (results_blk rfl _ rfl ((HS.out.b0.set_ 0 (.int .i64 s.lo)).set_ 1 (.int .i64 s.hi)) (by kernel_rfl) (by kernel_rfl)) rfl ⟨rfl, (HS.out.below.setCell (by simp) _).setCell (by simp) _⟩
end Go.Proofs.Ytfpfafijockfnaa
