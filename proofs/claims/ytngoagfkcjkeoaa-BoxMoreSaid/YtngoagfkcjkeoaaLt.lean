/- Walks: the closure of assign. -/
import Derived.Test.YtngoagfkcjkeoaaLs
namespace Go.Proofs.Ytngoagfkcjkeoaa
open Go.RowKit Go.Shelf

set_option maxRecDepth 100000 in
set_option maxHeartbeats 2000000 in
theorem assign1_any (w : World) (gt gs gq r m o q : Nat) (cf : Nat → Int × Int) (p : Int) (hm : m ≤ 8) (ho : o < 256) (hq8 : q < 8) (hT : TabAt w r m cf) (hc : CountIn cf) (hp : -1000000000 ≤ p ∧ p ≤ 1000000000)
    (k1 : Blk w gt 73 #[.int .i64 (m : Int), .map (some r)]) (k2 : Blk w gs 114 #[.int .i64 (o : Int), .int .i64 (q : Int), .int .i64 0]) (k3 : Blk w gq 3 #[.int .i64 (q : Int)]) :
    Calls Try.prog 66 #[.int .i64 p, .pointer (some ⟨gt, 0, none⟩), .pointer (some ⟨gs, 0, none⟩), .pointer (some ⟨gq, 0, none⟩)] w (Ret (.bool (canSellC cf m o q p)) w) := by
  have x0 := k1.cell 0
  have x1 := k1.cell 1
  have y0 := k2.cell 0
  have z0 := k3.cell 0
  have HC := Lib.hid (canSell_any w r m o q cf p hm ho hq8 hT hc hp)
  clear hT hc k1 k2 k3
  generalize canSellC cf m o q p = z at *
  go_enter Try.func66, Try.ntmps66
  go_wp2_with fail
  refine HC.out.mono ?_
  rintro e w' ⟨rfl, hb⟩
  have HB := Lib.hid hb
  clear hb
  go_wp2_with fail
  go_ret
  exact ⟨rfl, HB.out⟩
end Go.Proofs.Ytngoagfkcjkeoaa
