/- The function that tries all dies for the next draw: no draws are left; what is known. -/
import Derived.Test.YtdadgljllnkppaaBs
namespace Go.Proofs.Ytdadgljllnkppaa
open Go.RowKit Go.Shelf

def RetTry (p : Press) (L : List Draw) (m n : Nat) (r : Rst) (k : Nat) (W : World) (e : Ending) (W' : World) : Prop :=
  ∃ A c, e = .returned (.agg #[.slice A r.plan.length c, .int .i64 r.cost, .bool r.good]) ∧ PlanAt W' (.slice A r.plan.length c) r.plan ∧ W.grownBy W' (some m) ∧ KnownAt W' m (n + cnt k) (Good p L W')
theorem grown_below {W W' : World} {m : Nat} (h : Below W.heap.size W W') : W.grownBy W' (some m) := ⟨h.os, h.tape, h.output, h.size, fun i hi _ => h.block i hi⟩
theorem KnownAt.call {p : Press} {L : List Draw} {W W' : World} {m n : Nat} (h : KnownAt W m n (Good p L W)) (hb : Below W.heap.size W W') : KnownAt W' m n (Good p L W') := (h.below hb h.lt).imp fun _ _ hG => hG.keep (.below hb)
set_option maxRecDepth 100000 in
set_option maxHeartbeats 2000000 in
theorem try_nil (p : Press) (L : List Draw) (A T : Option Addr) (c ct kb pb tb m b off n : Nat) (W : World) (s : Sta) (hE : Env p L A c kb pb tb m b off n W) :
    Calls Try.prog 102 #[.agg #[.int .i64 s.a, .int .i64 s.b, .int .i64 s.c, .int .i64 s.d, .int .i64 s.on], .slice T 0 ct, .pointer (some ⟨kb, 0, none⟩), .pointer (some ⟨pb, 0, none⟩), .pointer (some ⟨tb, 0, none⟩)] W (RetTry p L m n ⟨[], 0, true⟩ 0 W) := by
  have HE := Lib.hid hE
  clear hE
  go_enter Try.func102, Try.ntmps102
  go_wp2
  go_step3
  go_wp2
  have hb : Below W.heap.size W (((W.alloc (.cells #[.int .i64 s.a, .int .i64 s.b, .int .i64 s.c, .int .i64 s.d, .int .i64 s.on] 161)).alloc (.cells #[.slice T 0 ct] 27)).alloc (.cells #[.slice none 0 0, .int .i64 0, .bool true] 122)) := by repeat (first | exact Below.refl _ _ | assumption | refine Below.drew ?_ | refine Below.alloc ?_ (by first | omega | (simp only [World.size_alloc]; omega) | simp) _ | refine Below.setCell ?_ (by first | omega | (simp only [World.size_alloc]; omega) | simp) _)
  exact bodyPost_ret (v := .agg #[.slice none 0 0, .int .i64 0, .bool true]) (by simp [results, Try.results102, go_sem]) rfl ⟨none, 0, rfl, World.ownsRow_nil _ _ _ _, grown_below hb, (HE.out.known.call hb).more (by omega)⟩
/-- The boxes of try: a state, the draws that are left, what is returned. -/
structure TryB (W : World) (T : Option Addr) (ct k : Nat) (s : Sta) (V : World) : Prop where
  below : Below W.heap.size W V
  b5 : Blk V W.heap.size 161 #[.int .i64 s.a, .int .i64 s.b, .int .i64 s.c, .int .i64 s.d, .int .i64 s.on]
  b6 : Blk V (W.heap.size + 1) 27 #[.slice T k ct]
  b7 : Blk V (W.heap.size + 1 + 1) 122 #[.slice none 0 0, .int .i64 0, .bool false]
theorem TryB.start (W : World) (T : Option Addr) (ct k : Nat) (s : Sta) : TryB W T ct k s (((W.alloc (.cells #[.int .i64 s.a, .int .i64 s.b, .int .i64 s.c, .int .i64 s.d, .int .i64 s.on] 161)).alloc (.cells #[.slice T k ct] 27)).alloc (.cells #[.slice none 0 0, .int .i64 0, .bool false] 122)) :=
  ⟨by repeat (first | exact Below.refl _ _ | assumption | refine Below.drew ?_ | refine Below.alloc ?_ (by first | omega | (simp only [World.size_alloc]; omega) | simp) _ | refine Below.setCell ?_ (by first | omega | (simp only [World.size_alloc]; omega) | simp) _), ((Blk.new _ _ _).alloc _).alloc _, (blk_at _ _ (by simp)).alloc _, blk_at _ _ (by simp)⟩
theorem TryB.call {W V V' : World} {T : Option Addr} {ct k : Nat} {s : Sta} (h : TryB W T ct k s V) (hb : Below V.heap.size V V') : TryB W T ct k s V' :=
  ⟨h.below.trans (hb.mono h.below.size), h.b5.below hb h.b5.lt, h.b6.below hb h.b6.lt, h.b7.below hb h.b7.lt⟩
set_option maxRecDepth 100000 in
set_option maxHeartbeats 2000000 in
theorem try_hit (p : Press) (L : List Draw) (A T A2 : Option Addr) (c c2 ct kb pb tb m b off n k : Nat) (W : World) (s : Sta) (r : Rst) (hl : 0 < k) (hk : (k : Int) ≤ 9223372036854775807) (hE : Env p L A c kb pb tb m b off n W) (hr : PlanAt W (.slice A2 r.plan.length c2) r.plan)
    (hlook : ∀ V, V.heap[m]? = W.heap[m]? → (Instr.lookup 158 (.map (some m)) (.agg #[.int .i64 s.a, .int .i64 s.b, .int .i64 s.c, .int .i64 s.d, .int .i64 s.on]) true).run Try.prog V = .ok (.tuple #[.agg #[.slice A2 r.plan.length c2, .int .i64 r.cost, .bool r.good], .bool true]) V) :
    Calls Try.prog 102 #[.agg #[.int .i64 s.a, .int .i64 s.b, .int .i64 s.c, .int .i64 s.d, .int .i64 s.on], .slice T k ct, .pointer (some ⟨kb, 0, none⟩), .pointer (some ⟨pb, 0, none⟩), .pointer (some ⟨tb, 0, none⟩)] W (RetTry p L m n r k W) := by
  have HE := Lib.hid hE
  have HR := Lib.hid hr
  have hk0 : ((k : Int) == 0) = false := by
    rw [beq_eq_false_iff_ne]
    omega
  have HK := Lib.hid hE.known
  have hS := TryB.start W T ct k s
  have hE1 := hE.call hS.below
  have hlk := hlook _ (hS.below.block m hE.known.lt)
  have HS := Lib.hid hS
  replace HE := Lib.hid hE1
  clear hE hr hlook hS hE1
  go_enter Try.func102, Try.ntmps102
  go_wp2
  generalize World.alloc (World.alloc (World.alloc W _) _) _ = W0 at HS HE hlk ⊢
  have x0 : W0.cell? ⟨kb, 0, none⟩ = some (.map (some m)) := HE.out.bk.cell 0
  have y0 := HS.out.b5.cell 0
  have y1 := HS.out.b5.cell 1
  have y2 := HS.out.b5.cell 2
  have y3 := HS.out.b5.cell 3
  have y4 := HS.out.b5.cell 4
  have z0 := HS.out.b6.cell 0
  go_step3
  go_wp2_with (refine wpList_store_row rfl 122 (.tmp 7) (.tmp 25) rfl (W.heap.size + 1 + 1) #[_, _, _] rfl rfl 122 _ (HS.out.b7.alloc _) (by kernel_rfl) rfl (by kernel_rfl) ?_)
  rw [Exit.noGoto_ret]
  have hk1 : KeepI W W0 := .below HS.out.below
  have hk2 : KeepI W0 (W0.alloc (.cells #[.slice A2 r.plan.length c2, .int .i64 r.cost, .bool r.good] 122)) := .below ((Below.refl _ _).alloc (Nat.le_refl _) _)
  have hk3 := KeepI.row (W := W0.alloc (.cells #[.slice A2 r.plan.length c2, .int .i64 r.cost, .bool r.good] 122)) (HS.out.b7.alloc _) (by decide) #[.slice A2 r.plan.length c2, .int .i64 r.cost, .bool r.good]
  have hB : Below W.heap.size W ((W0.alloc (.cells #[.slice A2 r.plan.length c2, .int .i64 r.cost, .bool r.good] 122)).setRow (W.heap.size + 1 + 1) #[.slice A2 r.plan.length c2, .int .i64 r.cost, .bool r.good]) := below_setRow (HS.out.below.alloc HS.out.below.size _) (by omega) _
  exact bodyPost_ret (results_blk rfl _ rfl ((HS.out.b7.alloc _).row _) (by kernel_rfl) (by kernel_rfl)) rfl
    ⟨A2, c2, rfl, HR.out.keep ((hk1.trans hk2).trans hk3), grown_below hB, ((HK.out.call hB).more (by omega))⟩
end Go.Proofs.Ytdadgljllnkppaa
