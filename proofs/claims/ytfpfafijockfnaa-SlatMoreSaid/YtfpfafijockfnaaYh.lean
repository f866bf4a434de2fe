/- Pair: which upper slat is glued to each lower one. -/
import Derived.Test.YtfpfafijockfnaaYg
namespace Go.Proofs.Ytfpfafijockfnaa
open Go.RowKit Go.Shelf Go.WideShapes Go.MapKept
open Go.WideElems (Fit)
open Go.Maps (Keyed)

theorem fit_one5 {es : Array MapEntry} {ck : Nat} (F : Fit Try.prog 126 R05 es ck) {e0 e1 : MapEntry} (h0 : e0 ∈ es.toList) (h1 : e1 ∈ es.toList) (h : e0.key = e1.key) : e0 = e1 := by
  have hp := ((stamped_iff es ck).1 F.stamped).2.2
  rw [List.pairwise_iff_getElem] at hp
  obtain ⟨i, hi, rfl⟩ := List.mem_iff_getElem.1 h0
  obtain ⟨j, hj, rfl⟩ := List.mem_iff_getElem.1 h1
  rcases Nat.lt_trichotomy i j with hij | rfl | hij
  · exact (hp i j hi hj hij h).elim
  · rfl
  · exact (hp j i hj hi hij h.symm).elim

/-- p, ok := known[t], in all worlds in which the map is the same. -/
theorem MemoAt.look_all {W : World} {b n : Nat} {G : Int → Int → Value → Prop} (h : MemoAt W b n G) {s t : Int} (hs : In64 s) (ht : In64 t) :
    (∀ V : World, V.heap[b]? = W.heap[b]? → (Instr.lookup 123 (.map (some b)) (.agg #[.int .i64 s, .int .i64 t]) true).run Try.prog V = .ok (.tuple #[.agg #[.slice none 0 0, .int .i64 0], .bool false]) V) ∨
    ∃ v, G s t v ∧ ∀ V : World, V.heap[b]? = W.heap[b]? → (Instr.lookup 123 (.map (some b)) (.agg #[.int .i64 s, .int .i64 t]) true).run Try.prog V = .ok (.tuple #[v, .bool true]) V := by
  obtain ⟨es, clock, hb, F, -, hG⟩ := h
  obtain ⟨l, hl⟩ := key_turn hs ht
  rcases Maps.fit_look true keyed_turn und_memo (zeroPairing W) hb F hl with ⟨-, h2, -⟩ | ⟨e0, y, hm, hk, -, -⟩
  · refine .inl fun V hV => ?_
    rcases Maps.fit_look true keyed_turn und_memo (zeroPairing V) (hV.trans hb) F hl with ⟨h1, -⟩ | ⟨e1, y1, hm1, hk1, -, -⟩
    · exact h1
    · exact (h2 e1 hm1 hk1).elim
  · obtain ⟨s', t', e1, e2⟩ := hG e0 hm
    obtain ⟨rfl, rfl⟩ := keyV_inj (e1.symm.trans hk)
    refine .inr ⟨e0.val, e2, fun V hV => ?_⟩
    rcases Maps.fit_look true keyed_turn und_memo (zeroPairing V) (hV.trans hb) F hl with ⟨-, h2, -⟩ | ⟨e1, y1, hm1, hk1, h1, -⟩
    · exact (h2 e0 hm hk).elim
    · obtain rfl := fit_one5 F hm hm1 (hk.trans hk1.symm)
      exact h1
theorem pr_any (g : Int → Int → Option Int) (L U bl kb fb ub cb km cm : Nat) (hL : L ≤ 7) (hU : U ≤ 7) (hgo : GOk g) : ∀ (k n t : Nat) (W : World) (i : Int), i = (L : Int) - k → k ≤ L → t < 128 → EnvP g L U bl kb fb ub cb km cm n W → n + cnt5 k ≤ 900000 →
    Calls Try.prog 64 #[.agg #[.int .i64 i, .int .i64 t], .pointer (some ⟨bl, 0, none⟩), .pointer (some ⟨kb, 0, none⟩), .pointer (some ⟨fb, 0, none⟩), .pointer (some ⟨ub, 0, none⟩), .pointer (some ⟨cb, 0, none⟩)] W (RetPr g L U km n (pairT g L U k t) k W)
  | 0, n, t, W, i, hi, _, _, hE, _ => by
    obtain rfl : i = (L : Int) := by omega
    exact pr_nil g L U bl kb fb ub cb km cm n t W hE
  | k + 1, n, t, W, i, hi, hk, ht, hE, hn => by
    rcases hE.known.look_all (s := i) (t := (t : Int)) (by unfold In64; omega) (by unfold In64; omega) with h | ⟨v, hG, h⟩
    · exact pr_miss g L U bl kb fb ub cb km cm n k t W i hi hk hL hU hgo ht hE hn (fun V t' n' h1 h2 h3 => pr_any g L U bl kb fb ub cb km cm hL hU hgo k n' t' V (i + 1) (by omega) (by omega) h2 h1 h3) h
    · exact pr_hit g L U bl kb fb ub cb km cm n k t W v i hi hk hL hE hG h
def RetBp (r : Prg) (w : World) (e : Ending) (w' : World) : Prop := ∃ A c, e = .returned (.agg #[.slice A r.1.length c, .int .i64 r.2]) ∧ PlanAt w' (.slice A r.1.length c) r.1 ∧ Below w.heap.size w w'
structure BpE (g : Int → Int → Option Int) (L U cm : Nat) (w W : World) : Prop where
  hb : Below w.heap.size w W
  env : EnvP g L U w.heap.size (w.heap.size + 1 + 1 + 1 + 1 + 1) (w.heap.size + 1 + 1 + 1 + 1 + 1 + 1) (w.heap.size + 1) (w.heap.size + 1 + 1) (w.heap.size + 1 + 1 + 1 + 1) cm 0 W
  kr : Blk W (w.heap.size + 1 + 1 + 1) 83 #[.slice none 0 0, .int .i64 0]
theorem al_low {B : Nat} {W : World} (o : Obj) (h : B ≤ W.heap.size) : Below B W (W.alloc o) := (Below.refl _ _).alloc h o
theorem BpE.start {g : Int → Int → Option Int} {L U cm : Nat} {w : World} (hc : PairsAt w cm 49 g) : BpE g L U cm w (((((((w.alloc (.cells #[.int .i64 (L : Int)] 3)).alloc (.cells #[.int .i64 (U : Int)] 3)).alloc (.cells #[.map (some cm)] 85)).alloc (.cells #[.slice none 0 0, .int .i64 0] 83)).alloc (.map #[] 0)).alloc (.cells #[.map (some (w.heap.size + 1 + 1 + 1 + 1))] 123)).alloc (.cells #[.func (.func 64) #[] #[.pointer (some ⟨w.heap.size, 0, none⟩), .pointer (some ⟨w.heap.size + 1 + 1 + 1 + 1 + 1, 0, none⟩), .pointer (some ⟨w.heap.size + 1 + 1 + 1 + 1 + 1 + 1, 0, none⟩), .pointer (some ⟨w.heap.size + 1, 0, none⟩), .pointer (some ⟨w.heap.size + 1 + 1, 0, none⟩)]] 124)) := by
  have hb0 : Below w.heap.size w ((((w.alloc (.cells #[.int .i64 (L : Int)] 3)).alloc (.cells #[.int .i64 (U : Int)] 3)).alloc (.cells #[.map (some cm)] 85)).alloc (.cells #[.slice none 0 0, .int .i64 0] 83)) := ((((Below.refl _ _).alloc (Nat.le_refl _) _).alloc (by simp) _).alloc (by simp; omega) _).alloc (by simp; omega) _
  have hb : Below w.heap.size w (((((((w.alloc (.cells #[.int .i64 (L : Int)] 3)).alloc (.cells #[.int .i64 (U : Int)] 3)).alloc (.cells #[.map (some cm)] 85)).alloc (.cells #[.slice none 0 0, .int .i64 0] 83)).alloc (.map #[] 0)).alloc (.cells #[.map (some (w.heap.size + 1 + 1 + 1 + 1))] 123)).alloc (.cells #[.func (.func 64) #[] #[.pointer (some ⟨w.heap.size, 0, none⟩), .pointer (some ⟨w.heap.size + 1 + 1 + 1 + 1 + 1, 0, none⟩), .pointer (some ⟨w.heap.size + 1 + 1 + 1 + 1 + 1 + 1, 0, none⟩), .pointer (some ⟨w.heap.size + 1, 0, none⟩), .pointer (some ⟨w.heap.size + 1 + 1, 0, none⟩)]] 124)) := ((hb0.alloc (by simp; omega) _).alloc (by simp; omega) _).alloc (by simp; omega) _
  have hm : (((((w.alloc (.cells #[.int .i64 (L : Int)] 3)).alloc (.cells #[.int .i64 (U : Int)] 3)).alloc (.cells #[.map (some cm)] 85)).alloc (.cells #[.slice none 0 0, .int .i64 0] 83)).alloc (.map #[] 0)).heap[w.heap.size + 1 + 1 + 1 + 1]? = some (.map #[] 0) := by
    have := World.alloc_heap_new ((((w.alloc (.cells #[.int .i64 (L : Int)] 3)).alloc (.cells #[.int .i64 (U : Int)] 3)).alloc (.cells #[.map (some cm)] 85)).alloc (.cells #[.slice none 0 0, .int .i64 0] 83)) (.map #[] 0)
    simpa using this
  have hmm : MemoAt (((((((w.alloc (.cells #[.int .i64 (L : Int)] 3)).alloc (.cells #[.int .i64 (U : Int)] 3)).alloc (.cells #[.map (some cm)] 85)).alloc (.cells #[.slice none 0 0, .int .i64 0] 83)).alloc (.map #[] 0)).alloc (.cells #[.map (some (w.heap.size + 1 + 1 + 1 + 1))] 123)).alloc (.cells #[.func (.func 64) #[] #[.pointer (some ⟨w.heap.size, 0, none⟩), .pointer (some ⟨w.heap.size + 1 + 1 + 1 + 1 + 1, 0, none⟩), .pointer (some ⟨w.heap.size + 1 + 1 + 1 + 1 + 1 + 1, 0, none⟩), .pointer (some ⟨w.heap.size + 1, 0, none⟩), .pointer (some ⟨w.heap.size + 1 + 1, 0, none⟩)]] 124)) (w.heap.size + 1 + 1 + 1 + 1) 0 (GoodP g L U (((((((w.alloc (.cells #[.int .i64 (L : Int)] 3)).alloc (.cells #[.int .i64 (U : Int)] 3)).alloc (.cells #[.map (some cm)] 85)).alloc (.cells #[.slice none 0 0, .int .i64 0] 83)).alloc (.map #[] 0)).alloc (.cells #[.map (some (w.heap.size + 1 + 1 + 1 + 1))] 123)).alloc (.cells #[.func (.func 64) #[] #[.pointer (some ⟨w.heap.size, 0, none⟩), .pointer (some ⟨w.heap.size + 1 + 1 + 1 + 1 + 1, 0, none⟩), .pointer (some ⟨w.heap.size + 1 + 1 + 1 + 1 + 1 + 1, 0, none⟩), .pointer (some ⟨w.heap.size + 1, 0, none⟩), .pointer (some ⟨w.heap.size + 1 + 1, 0, none⟩)]] 124))) :=
    ⟨#[], 0, (Below.heap_alloc _ _ _ (by simp)).trans ((Below.heap_alloc _ _ _ (by simp)).trans hm), ⟨by simp, stamped_empty 0, fun x hx => by simp at hx⟩, by simp, fun e he => by simp at he⟩
  refine ⟨hb, ⟨?_, ?_, ?_, ?_, ?_, hc.below hb hc.lt, hmm, by have := hc.lt; omega⟩, ?_⟩
  · exact ((((((Blk.new w 3 #[.int .i64 (L : Int)]).alloc _).alloc _).alloc _).alloc _).alloc _).alloc _
  · exact (blk5 _ _ (by simp) rfl).alloc _
  · exact blk5 _ _ (by simp) rfl
  · exact (((((blk5 _ _ (by simp) rfl).alloc _).alloc _).alloc _).alloc _).alloc _
  · exact ((((blk5 _ _ (by simp) rfl).alloc _).alloc _).alloc _).alloc _
  · exact (((blk5 _ _ (by simp) rfl).alloc _).alloc _).alloc _
set_option maxRecDepth 100000 in
set_option maxHeartbeats 4000000 in
theorem bestPairing5_any (g : Int → Int → Option Int) (L U cm : Nat) (w : World) (hL : L ≤ 7) (hU : U ≤ 7) (hgo : GOk g) (hc : PairsAt w cm 49 g) :
    Calls Try.prog 37 #[.int .i64 (L : Int), .int .i64 (U : Int), .map (some cm)] w (RetBp (pairT g L U L 0) w) := by
  have hmm := @run_makeMap Try.prog
  have HS := Lib.hid (BpE.start (L := L) (U := U) hc)
  have HPR := Lib.hid fun (W : World) (h : BpE g L U cm w W) => pr_any g L U _ _ _ _ _ _ cm hL hU hgo L 0 0 W 0 (by omega) (Nat.le_refl _) (by omega) h.env (by
    have hx : L = 0 ∨ L = 1 ∨ L = 2 ∨ L = 3 ∨ L = 4 ∨ L = 5 ∨ L = 6 ∨ L = 7 := by omega
    rcases hx with rfl | rfl | rfl | rfl | rfl | rfl | rfl | rfl <;> decide)
  generalize pairT g L U L 0 = r at HPR ⊢
  clear hc hgo
  go_enter Try.func37, Try.ntmps37
  go_upto_region 4 with fail
  generalize World.alloc (World.alloc (World.alloc (World.alloc (World.alloc (World.alloc (World.alloc w _) _) _) _) _) _) _ = V at HS ⊢
  have x0 := HS.out.env.xf.cell 0
  clear hmm
  go_wp2_with fail
  refine (HPR.out _ HS.out).mono ?_
  rintro e V2 ⟨A, c, rfl, hp, hgr, -⟩
  obtain ⟨es, ck, hmp⟩ := HS.out.env.known.isMap
  have HKR := Lib.hid (HS.out.kr.grJ hgr hmp)
  have HBB := Lib.hid (below_low (Nat.le_refl _) HS.out.hb hgr (by omega))
  have HP := Lib.hid (hp.keepJ (KeepJ.set2 HKR.out (by decide) (.slice A r.1.length c) (.int .i64 r.2)))
  have HT := Lib.hid (there_mid (o := 0) HKR.out (by simp))
  have HK := Lib.hid (set2_blk (x := .slice A r.1.length c) (y := .int .i64 r.2) HKR.out)
  have HB := Lib.hid (below_set2 (x := .slice A r.1.length c) (y := .int .i64 r.2) HBB.out (g := w.heap.size + 1 + 1 + 1) (by omega))
  clear hp hgr hmp x0 HPR HS
  go_wp2_with (refine wpList_store_mid (by rfl) 83 (.tmp 6) (.tmp 13) (by rfl) (w.heap.size + 1 + 1 + 1) 0 #[.slice A r.1.length c, .int .i64 r.2] (by rfl) (by rfl) HT.out (by kernel_rfl) (by simp [Value.oneCell']) ?_)
  exact bodyPost_ret (results_blk rfl _ rfl HK.out (by kernel_rfl) (by kernel_rfl)) rfl ⟨A, c, rfl, HP.out, HB.out⟩

def pairE (j : Jig) (l u : List Slat) (lim : Int) : Int := slErr j l u [lim] true
def pairR (j : Jig) (l u : List Slat) (lim : Int) : Prg × Int := if pairE j l u lim = 0 then (pairT (pairS j l u lim) l.length u.length l.length 0, 0) else (([], 0), pairE j l u lim)
def RetPa (r : Prg × Int) (w : World) (e : Ending) (w' : World) : Prop := ∃ A c, e = .returned (.tuple #[.slice A r.1.1.length c, .int .i64 r.1.2, .int .i64 r.2]) ∧ PlanAt w' (.slice A r.1.1.length c) r.1.1 ∧ Below w.heap.size w w'
theorem pairS_ok {j : Jig} {l u : List Slat} {lim : Int} (hj : JigIn j) : GOk (pairS j l u lim) := fun i k m h => by
  unfold pairS at h
  split at h
  · split at h
    · rename_i a b _ _
      split at h
      · have h1 := Option.some.inj h
        have h2 := List.countP_le_length (p := (leadIn · lim)) (l := leadsOf j a b)
        rw [leads_len] at h2
        have h3 := hj.n1
        have h4 := hj.n0
        omega
      · exact absurd h (by simp)
    · exact absurd h (by simp)
  · exact absurd h (by simp)
set_option maxRecDepth 100000 in
set_option maxHeartbeats 8000000 in
theorem pairW_any (w : World) (A B : Option Addr) (ca cb : Nat) (j : Jig) (l u : List Slat) (lim : Int) (h1 : l.length ≤ 9223372036854775807) (h2 : u.length ≤ 9223372036854775807) (hA : SlatSl w w.heap.size A l) (hB : SlatSl w w.heap.size B u) :
    Calls Try.prog 13 #[.agg #[.int .i64 j.glue.lo, .int .i64 j.glue.hi, .int .i64 j.lead.lo, .int .i64 j.lead.hi, .int .i64 j.side.lo, .int .i64 j.side.hi, .int .i64 j.height.lo, .int .i64 j.height.hi, .int .i64 j.play, .int .i64 j.grooves], .slice A l.length ca, .slice B u.length cb, .int .i64 lim] w (RetPa (pairR j l u lim) w) := by
  have HS : Hid (TuS w j (w.alloc (.cells #[.int .i64 j.glue.lo, .int .i64 j.glue.hi, .int .i64 j.lead.lo, .int .i64 j.lead.hi, .int .i64 j.side.lo, .int .i64 j.side.hi, .int .i64 j.height.lo, .int .i64 j.height.hi, .int .i64 j.play, .int .i64 j.grooves] 25))) := Lib.hid ⟨(Below.refl _ _).alloc (Nat.le_refl _) _, Blk.new _ _ _⟩
  have HFE : Hid (∀ W, TuS w j W → ∀ g, Blk W g 3 #[.int .i64 lim] → Calls Try.prog 36 #[.agg #[.int .i64 j.glue.lo, .int .i64 j.glue.hi, .int .i64 j.lead.lo, .int .i64 j.lead.hi, .int .i64 j.side.lo, .int .i64 j.side.hi, .int .i64 j.height.lo, .int .i64 j.height.hi, .int .i64 j.play, .int .i64 j.grooves], .slice A l.length ca, .slice B u.length cb, .slice (some ⟨g, 0, none⟩) 1 1, .bool true] W (Ret (.int .i64 (pairE j l u lim)) W)) := Lib.hid fun W hW g hg => slErr_any W A B (some ⟨g, 0, none⟩) ca cb 1 j l u [lim] true h1 h2 (by simp) (hA.on hW.hb (Nat.le_refl _)) (hB.on hW.hb (Nat.le_refl _)) (one_lim hg)
  have HGB : Hid (pairE j l u lim = 0 → (∀ W, TuS w j W → Calls Try.prog 38 #[.agg #[.int .i64 j.glue.lo, .int .i64 j.glue.hi, .int .i64 j.lead.lo, .int .i64 j.lead.hi, .int .i64 j.side.lo, .int .i64 j.side.hi, .int .i64 j.height.lo, .int .i64 j.height.hi, .int .i64 j.play, .int .i64 j.grooves], .slice A l.length ca, .slice B u.length cb, .int .i64 lim] W (RetGl (pairS j l u lim) W)) ∧ ∀ W cm, PairsAt W cm 49 (pairS j l u lim) → Calls Try.prog 37 #[.int .i64 (l.length : Int), .int .i64 (u.length : Int), .map (some cm)] W (RetBp (pairR j l u lim).1 W)) := Lib.hid fun h => by
    obtain ⟨k1, ⟨k2, k3⟩, ⟨k4, k7, -⟩, k5, -⟩ := slErr_0 h
    have k8 := lims_in k5 lim (by simp)
    refine ⟨fun W hW => glued5_any W A B ca cb j l u lim (jigIn_of k1) (fun s hs => slatIn_of (List.all_eq_true.1 k2 s hs)) (fun s hs => slatIn_of (List.all_eq_true.1 k3 s hs)) k4 k7 k8.1 k8.2 (hA.on hW.hb (Nat.le_refl _)) (hB.on hW.hb (Nat.le_refl _)), fun W cm hc => ?_⟩
    have h9 := bestPairing5_any (pairS j l u lim) l.length u.length cm W k4 k7 (pairS_ok (jigIn_of k1)) hc
    rw [show (pairR j l u lim).1 = pairT (pairS j l u lim) l.length u.length l.length 0 by unfold pairR; rw [if_pos h]]
    exact h9
  have HR : Hid ((pairE j l u lim = 0 → (pairR j l u lim).2 = 0) ∧ (pairE j l u lim ≠ 0 → pairR j l u lim = (([], 0), pairE j l u lim))) := Lib.hid ⟨fun h => by unfold pairR; rw [if_pos h], fun h => by unfold pairR; rw [if_neg h]⟩
  have hl0 : (0 : Int) ≤ l.length := by omega
  have hl1 : (l.length : Int) ≤ 9223372036854775807 := by omega
  have hu0 : (0 : Int) ≤ u.length := by omega
  have hu1 : (u.length : Int) ≤ 9223372036854775807 := by omega
  generalize pairR j l u lim = pr at *
  generalize pairE j l u lim = te at *
  generalize pairS j l u lim = gs at *
  clear hA hB h1 h2
  have KJ := Lib.hid HS.out.kj
  go_enter Try.func13, Try.ntmps13
  go_wp2_with (with_reducible refine wpList_load_mid (by with_unfolding_all rfl) 25 _ (by with_unfolding_all rfl) _ _ (by with_unfolding_all rfl) [.int .i64 j.glue.lo, .int .i64 j.glue.hi, .int .i64 j.lead.lo, .int .i64 j.lead.hi, .int .i64 j.side.lo, .int .i64 j.side.hi, .int .i64 j.height.lo, .int .i64 j.height.hi, .int .i64 j.play, .int .i64 j.grooves] _ KJ.out.range (by with_unfolding_all rfl) (by with_unfolding_all rfl) (by kernel_rfl) ?_)
  have hb1 := (Below.refl (w.alloc (.cells #[.int .i64 j.glue.lo, .int .i64 j.glue.hi, .int .i64 j.lead.lo, .int .i64 j.lead.hi, .int .i64 j.side.lo, .int .i64 j.side.hi, .int .i64 j.height.lo, .int .i64 j.height.hi, .int .i64 j.play, .int .i64 j.grooves] 25)).heap.size (w.alloc (.cells #[.int .i64 j.glue.lo, .int .i64 j.glue.hi, .int .i64 j.lead.lo, .int .i64 j.lead.hi, .int .i64 j.side.lo, .int .i64 j.side.hi, .int .i64 j.height.lo, .int .i64 j.height.hi, .int .i64 j.play, .int .i64 j.grooves] 25))).alloc (Nat.le_refl _) (.cells #[.int .i64 lim] 3)
  replace HS := Lib.hid (HS.out.call hb1)
  refine (HFE.out _ HS.out (w.heap.size + 1) (blk5 _ _ (by simp) rfl)).mono ?_
  rintro e W1 ⟨rfl, hb⟩
  replace HS := Lib.hid (HS.out.call hb)
  clear hb hb1 KJ HFE
  by_cases h0 : te = 0
  · obtain ⟨hgl, hbp⟩ := HGB.out h0
    have HG := Lib.hid hgl
    have HP := Lib.hid hbp
    have HR0 := Lib.hid (HR.out.1 h0)
    subst h0
    have KJ := Lib.hid HS.out.kj
    clear hgl hbp HGB HR
    go_wp2_with (with_reducible refine wpList_load_mid (by with_unfolding_all rfl) 25 _ (by with_unfolding_all rfl) _ _ (by with_unfolding_all rfl) [.int .i64 j.glue.lo, .int .i64 j.glue.hi, .int .i64 j.lead.lo, .int .i64 j.lead.hi, .int .i64 j.side.lo, .int .i64 j.side.hi, .int .i64 j.height.lo, .int .i64 j.height.hi, .int .i64 j.play, .int .i64 j.grooves] _ KJ.out.range (by with_unfolding_all rfl) (by with_unfolding_all rfl) (by kernel_rfl) ?_)
    refine (HG.out _ HS.out).mono ?_
    rintro e W2 ⟨cm, hcm, rfl, hpa, hb⟩
    have HPA := Lib.hid hpa
    replace HS := Lib.hid (HS.out.call hb)
    clear hb hpa hcm HG KJ
    go_wp2_with fail
    refine (HP.out _ _ HPA.out).mono ?_
    rintro e W3 ⟨A9, c9, rfl, hp9, hb⟩
    replace HS := Lib.hid (HS.out.call hb)
    have HQ := Lib.hid hp9
    clear hb hp9 HP HPA
    obtain ⟨⟨qs, qn⟩, pe⟩ := pr
    go_upto_region 5 with fail
    have hbz : Below W3.heap.size W3 (W3.alloc (.cells #[.slice A9 qs.length c9, .int .i64 qn] 83)) := (Below.refl _ _).alloc (Nat.le_refl _) _
    have HBX := Lib.hid (Blk.new W3 83 #[.slice A9 qs.length c9, .int .i64 qn])
    replace HS := Lib.hid (HS.out.call hbz)
    replace HQ := Lib.hid (HQ.out.below hbz)
    clear hbz
    generalize hV7 : World.alloc W3 _ = V7 at HS HQ HBX ⊢
    clear hV7
    generalize W3.heap.size = g7 at HBX ⊢
    replace HS := Lib.hid (HS.out.call (Below.refl _ _).drew)
    replace HQ := Lib.hid (HQ.out.below (Below.refl _ _).drew)
    replace HBX := Lib.hid (HBX.out.below (Below.refl _ _).drew HBX.out.lt)
    refine wp_region_held_drew (S := fun W => Blk W g7 83 #[.slice A9 qs.length c9, .int .i64 qn]) (by kernel_rfl) HBX.out (fun hH0 => ?_)
    generalize World.drew _ = V0 at *
    simp only [List.size_toArray, List.length_cons, List.length_nil, Nat.reduceAdd, Array.replicate_succ, Array.replicate_zero, List.push_toArray, List.nil_append, List.cons_append]
    refine wpAnyH_take (i := 0 ) (v := ?_) rfl (by kernel_rfl) (by kernel_rfl) (by kernel_rfl) (fun _ _ _ h => h) (Or.inl ⟨by rfl, ?_⟩) (by assumption) ?_; rotate_left; (· (intro w0 hSw; have s0 := hSw.cell 0; have s1 := hSw.cell 1; clear hSw; go_simp); first | done | with_reducible rfl); (try simp only [Act.put, List.getElem_toArray, List.getElem_cons_zero, List.setIfInBounds_toArray, List.set_cons_zero, List.set_cons_succ])
    refine wpAnyH_take (i := 1 ) (v := ?_) rfl (by kernel_rfl) (by kernel_rfl) (by kernel_rfl) (fun _ _ _ h => h) (Or.inl ⟨by rfl, ?_⟩) (by assumption) ?_; rotate_left; (· (intro w0 hSw; have s0 := hSw.cell 0; have s1 := hSw.cell 1; clear hSw; go_simp); first | done | with_reducible rfl); (try simp only [Act.put, List.getElem_toArray, List.getElem_cons_succ, List.getElem_cons_zero, List.setIfInBounds_toArray, List.set_cons_zero, List.set_cons_succ])
    refine wpAnyH_take (i := 2 ) (v := ?_) rfl (by kernel_rfl) (by kernel_rfl) (by kernel_rfl) (fun _ _ _ h => h) (Or.inl ⟨by rfl, ?_⟩) (by assumption) ?_; rotate_left; (· (intro w0 hSw; have s0 := hSw.cell 0; have s1 := hSw.cell 1; clear hSw; go_simp); first | done | with_reducible rfl); (try simp only [Act.put, List.getElem_toArray, List.getElem_cons_succ, List.getElem_cons_zero, List.setIfInBounds_toArray, List.set_cons_zero, List.set_cons_succ])
    refine wpAnyH_take (i := 3 ) (v := ?_) rfl (by kernel_rfl) (by kernel_rfl) (by kernel_rfl) (fun _ _ _ h => h) (Or.inl ⟨by rfl, ?_⟩) (by assumption) ?_; rotate_left; (· (intro w0 hSw; have s0 := hSw.cell 0; have s1 := hSw.cell 1; clear hSw; go_simp); first | done | with_reducible rfl); (try simp only [Act.put, List.getElem_toArray, List.getElem_cons_succ, List.getElem_cons_zero, List.setIfInBounds_toArray, List.set_cons_zero, List.set_cons_succ])
    refine wpAnyH_take (i := 4 ) (v := ?_) rfl (by kernel_rfl) (by kernel_rfl) (by kernel_rfl) (fun _ _ _ h => h) (Or.inl ⟨by rfl, ?_⟩) (by assumption) ?_; rotate_left; (· (intro w0 hSw; have s0 := hSw.cell 0; have s1 := hSw.cell 1; clear hSw; go_simp); first | done | with_reducible rfl); (try simp only [Act.put, List.getElem_toArray, List.getElem_cons_succ, List.getElem_cons_zero, List.setIfInBounds_toArray, List.set_cons_zero, List.set_cons_succ])
    refine wpAnyH_take (i := 5 ) (v := ?_) rfl (by kernel_rfl) (by kernel_rfl) (by kernel_rfl) (fun _ _ _ h => h) (Or.inl ⟨by rfl, ?_⟩) (by assumption) ?_; rotate_left; (· (intro w0 hSw; have s0 := hSw.cell 0; have s1 := hSw.cell 1; clear hSw; go_simp); first | done | with_reducible rfl); (try simp only [Act.put, List.getElem_toArray, List.getElem_cons_succ, List.getElem_cons_zero, List.setIfInBounds_toArray, List.set_cons_zero, List.set_cons_succ])
    refine wpAnyH_take (i := 6 ) (v := ?_) rfl (by kernel_rfl) (by kernel_rfl) (by kernel_rfl) (fun _ _ _ h => h) (Or.inl ⟨by rfl, ?_⟩) (by assumption) ?_; rotate_left; (· (intro w0 hSw; have s0 := hSw.cell 0; have s1 := hSw.cell 1; clear hSw; go_simp); first | done | with_reducible rfl); (try simp only [Act.put, List.getElem_toArray, List.getElem_cons_succ, List.getElem_cons_zero, List.setIfInBounds_toArray, List.set_cons_zero, List.set_cons_succ])
    refine wpAnyH_done (by kernel_rfl) ?_ _
    go_wp2_with fail
    refine bodyPost_ret (v := .tuple #[.slice A9 qs.length c9, .int .i64 qn, .int .i64 0]) (by simp [results, Try.results13, go_sem]) rfl ⟨A9, c9, by rw [show pe = 0 from HR0.out], HQ.out, HS.out.hb⟩
  · have h0' : (te == 0) = false := by rw [beq_eq_false_iff_ne]; exact h0
    have h0'' : (te != 0) = true := by simp [bne, h0']
    have HT2 := Lib.hid (HR.out.2 h0)
    clear HR HGB h0
    go_wp2_with fail
    refine bodyPost_ret (v := .tuple #[.slice none 0 0, .int .i64 0, .int .i64 te]) (by simp [results, Try.results13, go_sem]) rfl ⟨none, 0, by rw [HT2.out]; rfl, by rw [HT2.out]; exact World.ownsRow_nil _ _ _ _, HS.out.hb⟩
end Go.Proofs.Ytfpfafijockfnaa