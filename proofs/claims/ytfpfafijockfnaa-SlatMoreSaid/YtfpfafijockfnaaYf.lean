/- best: the last turn, and what is known. -/
import Derived.Test.YtfpfafijockfnaaYe
namespace Go.Proofs.Ytfpfafijockfnaa
open Go.RowKit Go.Shelf

set_option maxRecDepth 100000 in
set_option maxHeartbeats 4000000 in
theorem pr_nil (g : Int → Int → Option Int) (L U bl kb fb ub cb km cm n t : Nat) (W : World) (hE : EnvP g L U bl kb fb ub cb km cm n W) :
    Calls Try.prog 64 #[.agg #[.int .i64 (L : Int), .int .i64 t], .pointer (some ⟨bl, 0, none⟩), .pointer (some ⟨kb, 0, none⟩), .pointer (some ⟨fb, 0, none⟩), .pointer (some ⟨ub, 0, none⟩), .pointer (some ⟨cb, 0, none⟩)] W (RetPr g L U km n (pairT g L U 0 t) 0 W) := by
  have HS := Lib.hid (BpS.start (i := (L : Int)) (t := t) hE)
  have HLT := Lib.hid hE.lts
  clear hE
  go_enter Try.func64, Try.ntmps64
  go_upto_region 1 with fail
  generalize World.alloc (World.alloc W _) _ = V at HS ⊢
  have x0 := HS.out.kt.cell 0
  have x1 := HS.out.env.xl.cell 0
  have HT := Lib.hid (there_mid (o := 0) HS.out.kr (by simp))
  have HR := Lib.hid (ret_store (n := n) (r := ([], 0)) (k := 0) (A := none) (c := 0) HS.out.hg (HS.out.env.known.more (by omega)) HS.out.kr HLT.out.2.2.2.2.2.1 (World.ownsRow_nil _ _ _ _))
  have HK := Lib.hid (set2_blk (x := .slice none 0 0) (y := .int .i64 0) HS.out.kr)
  go_wp2_with (refine wpList_store_mid (by rfl) 83 (.tmp 7) (.tmp 19) (by rfl) (W.heap.size + 1) 0 #[.slice none 0 0, .int .i64 0] (by rfl) (by rfl) HT.out (by kernel_rfl) (by simp [Value.oneCell']) ?_)
  exact bodyPost_ret (results_blk rfl _ rfl HK.out (by kernel_rfl) (by kernel_rfl)) rfl HR.out
set_option maxRecDepth 100000 in
set_option maxHeartbeats 4000000 in
theorem pr_hit (g : Int → Int → Option Int) (L U bl kb fb ub cb km cm n k t : Nat) (W : World) (v : Value) (i : Int) (hi : i = (L : Int) - (k + 1 : Nat)) (_hk : k + 1 ≤ L) (_hL : L ≤ 7) (hE : EnvP g L U bl kb fb ub cb km cm n W)
    (hG : GoodP g L U W i t v) (hlook : ∀ V, V.heap[km]? = W.heap[km]? → (Instr.lookup 123 (.map (some km)) (.agg #[.int .i64 i, .int .i64 t]) true).run Try.prog V = .ok (.tuple #[v, .bool true]) V) :
    Calls Try.prog 64 #[.agg #[.int .i64 i, .int .i64 t], .pointer (some ⟨bl, 0, none⟩), .pointer (some ⟨kb, 0, none⟩), .pointer (some ⟨fb, 0, none⟩), .pointer (some ⟨ub, 0, none⟩), .pointer (some ⟨cb, 0, none⟩)] W (RetPr g L U km n (pairT g L U (k + 1) t) (k + 1) W) := by
  obtain ⟨A, c, rfl, hp⟩ := hG (k + 1) t hi rfl
  have HS := Lib.hid (BpS.start (i := i) (t := t) hE)
  have HLT := Lib.hid hE.lts
  have hb : Below W.heap.size W ((W.alloc (.cells #[.int .i64 i, .int .i64 t] 126)).alloc (.cells #[.slice none 0 0, .int .i64 0] 83)) := ((Below.refl _ _).alloc (Nat.le_refl _) _).alloc (by simp) _
  have hlk := hlook _ (hb.block km hE.known.lt)
  have HP := Lib.hid (hp.below hb)
  have hsz : ((W.alloc (.cells #[.int .i64 i, .int .i64 t] 126)).alloc (.cells #[.slice none 0 0, .int .i64 0] 83)).heap.size = W.heap.size + 1 + 1 := by simp
  generalize pairT g L U (k + 1) t = r at *
  have hne : (i == (L : Int)) = false := by rw [beq_eq_false_iff_ne]; omega
  clear hE hlook hb hG hp hi
  go_enter Try.func64, Try.ntmps64
  go_upto_region 1 with fail
  generalize World.alloc (World.alloc W _) _ = V at *
  have x0 := HS.out.kt.cell 0
  have x1 := HS.out.kt.cell 1
  have y0 := HS.out.env.xl.cell 0
  have y1 := HS.out.env.xk.cell 0
  go_upto_region 4 with fail
  have HK8 := Lib.hid (Blk.new V 83 #[.slice A r.1.length c, .int .i64 r.2])
  replace HS := Lib.hid (HS.out.call ((Below.refl _ _).alloc (Nat.le_refl _) (.cells #[.slice A r.1.length c, .int .i64 r.2] 83)))
  replace HP := Lib.hid (HP.out.below ((Below.refl _ _).alloc (Nat.le_refl _) (.cells #[.slice A r.1.length c, .int .i64 r.2] 83)))
  rw [hsz] at HK8
  clear x0 x1 y0 y1 hlk hsz hne
  generalize World.alloc V _ = V2 at HS HP HK8 ⊢
  have x0 := HK8.out.cell 0
  have x1 := HK8.out.cell 1
  have HT := Lib.hid (there_mid (o := 0) HS.out.kr (by simp))
  have HR := Lib.hid (ret_store (n := n) (r := r) (k := k + 1) HS.out.hg (HS.out.env.known.more (by omega)) HS.out.kr HLT.out.2.2.2.2.2.1 HP.out)
  have HK := Lib.hid (set2_blk (x := .slice A r.1.length c) (y := .int .i64 r.2) HS.out.kr)
  go_wp2_with (refine wpList_store_mid (by rfl) 83 (.tmp 7) (.tmp 27) (by rfl) (W.heap.size + 1) 0 #[.slice A r.1.length c, .int .i64 r.2] (by rfl) (by rfl) HT.out (by kernel_rfl) (by simp [Value.oneCell']) ?_)
  exact bodyPost_ret (results_blk rfl _ rfl HK.out (by kernel_rfl) (by kernel_rfl)) rfl HR.out
end Go.Proofs.Ytfpfafijockfnaa
