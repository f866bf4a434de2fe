/- Walks of the document's own definitions: the least and the greatest width; whether a die does for a draw; the span. -/
import Derived.Test.YtdadgljllnkppaaRp
import Derived.Test.YtdadgljllnkppaaWi
namespace Go.Proofs.Ytdadgljllnkppaa
open Go.RowKit Go.Shelf

theorem wr64 {x : Int} (h : -9223372036854775808 ≤ x) (h' : x ≤ 9223372036854775807) : wrap64 x = x := by unfold wrap64; omega
theorem nano_wrap {wide wear shrink u : Int} (a0 : 1 ≤ wide) (a1 : wide ≤ 20000) (b0 : 0 ≤ wear) (b1 : wear ≤ 200) (c0 : 0 ≤ shrink) (c1 : shrink ≤ 300) (d0 : 0 ≤ u) (d1 : u ≤ 9000) :
    wrap64 (wrap64 (wide + wrap64 (wear * u)) * (1000 - shrink)) = nano wide wear shrink u := by
  have hbd := nano_bd a0 a1 b0 b1 c0 c1 d0 d1
  have hbd2 := hbd.2
  unfold nano at hbd2
  have w1 : wrap64 (wear * u) = wear * u := wr64 (by omega) (by omega)
  have w2 : wrap64 (wide + wear * u) = wide + wear * u := wr64 (by omega) (by omega)
  have w4 : wrap64 ((wide + wear * u) * (1000 - shrink)) = (wide + wear * u) * (1000 - shrink) := wr64 (by omega) (by omega)
  rw [w1, w2, w4]
  rfl
set_option maxRecDepth 100000 in
set_option maxHeartbeats 2000000 in
theorem rthin_any (w : World) (A : Option Addr) (c : Nat) (p : Press) (k : Nat) (u : Int) (hk : k < p.dies.length) (hA : DieSl w w.heap.size A p.dies) (hd : DieIn p.dies[k]) (hs : ShrIn p.shrink) (u0 : 0 ≤ u) (u1 : u ≤ 9000) : Calls Try.prog 35 #[.agg #[.slice A p.dies.length c, .int .i64 p.shrink.lo, .int .i64 p.shrink.hi, .int .i64 p.change], .int .i64 (k : Int), .int .i64 u] w (Ret (.int .i64 (thin p.dies[k] p.shrink u)) w) := by
  obtain ⟨b, off, rfl, hb, hat⟩ := hA (by intro e; rw [e] at hk; simp at hk); obtain ⟨x0, x1, x2⟩ := hat k hk; simp only [dieF] at x0 x1 x2; clear hat; obtain ⟨d1, d2, d3, d4, d5⟩ := hd; obtain ⟨g1, g2, g3⟩ := hs; have hkn : (k : Int) < p.dies.length := (by omega); have hk0 : (0 : Int) ≤ k := (by omega)
  have HN : Hid (wrap64 (wrap64 (p.dies[k].wide + wrap64 (p.dies[k].wear.lo * u)) * (1000 - p.shrink.hi)) = thin p.dies[k] p.shrink u) := Lib.hid (nano_wrap d1 d2 d3 (by omega) (by omega) g3 u0 u1)
  generalize p.dies[k] = d at *
  go_enter Try.func35, Try.ntmps35
  go_wp2_with fail
  go_ret
  exact ⟨ret_int HN.out, by repeat (first | exact Below.refl _ _ | assumption | refine Below.drew ?_ | refine Below.alloc ?_ (by first | omega | (simp only [World.size_alloc]; omega) | simp) _ | refine Below.setCell ?_ (by first | omega | (simp only [World.size_alloc]; omega) | simp) _)⟩
set_option maxRecDepth 100000 in
set_option maxHeartbeats 2000000 in
theorem rthick_any (w : World) (A : Option Addr) (c : Nat) (p : Press) (k : Nat) (u : Int) (hk : k < p.dies.length) (hA : DieSl w w.heap.size A p.dies) (hd : DieIn p.dies[k]) (hs : ShrIn p.shrink) (u0 : 0 ≤ u) (u1 : u ≤ 9000) : Calls Try.prog 36 #[.agg #[.slice A p.dies.length c, .int .i64 p.shrink.lo, .int .i64 p.shrink.hi, .int .i64 p.change], .int .i64 (k : Int), .int .i64 u] w (Ret (.int .i64 (thick p.dies[k] p.shrink u)) w) := by
  obtain ⟨b, off, rfl, hb, hat⟩ := hA (by intro e; rw [e] at hk; simp at hk); obtain ⟨x0, x1, x2⟩ := hat k hk; simp only [dieF] at x0 x1 x2; clear hat; obtain ⟨d1, d2, d3, d4, d5⟩ := hd; obtain ⟨g1, g2, g3⟩ := hs; have hkn : (k : Int) < p.dies.length := (by omega); have hk0 : (0 : Int) ≤ k := (by omega)
  have HN : Hid (wrap64 (wrap64 (p.dies[k].wide + wrap64 (p.dies[k].wear.hi * u)) * (1000 - p.shrink.lo)) = thick p.dies[k] p.shrink u) := Lib.hid (nano_wrap d1 d2 (by omega) d5 g1 (by omega) u0 u1)
  generalize p.dies[k] = d at *
  go_enter Try.func36, Try.ntmps36
  go_wp2_with fail
  go_ret
  exact ⟨ret_int HN.out, by repeat (first | exact Below.refl _ _ | assumption | refine Below.drew ?_ | refine Below.alloc ?_ (by first | omega | (simp only [World.size_alloc]; omega) | simp) _ | refine Below.setCell ?_ (by first | omega | (simp only [World.size_alloc]; omega) | simp) _)⟩
end Go.Proofs.Ytdadgljllnkppaa
