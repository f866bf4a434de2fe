/- The function that tries all dies for the next draw, whatever is known; the cheapest plan. -/
import Derived.Test.YtdadgljllnkppaaTw
namespace Go.Proofs.Ytdadgljllnkppaa
open Go.RowKit Go.Shelf Go.WideShapes Go.MapKept
open Go.WideElems (Fit)
open Go.Maps (Keyed)

theorem fit_one {es : Array MapEntry} {ck : Nat} (F : Fit Try.prog 161 R0 es ck) {e0 e1 : MapEntry} (h0 : e0 ∈ es.toList) (h1 : e1 ∈ es.toList) (h : e0.key = e1.key) : e0 = e1 := by
  have hp := ((stamped_iff es ck).1 F.stamped).2.2
  rw [List.pairwise_iff_getElem] at hp
  obtain ⟨i, hi, rfl⟩ := List.mem_iff_getElem.1 h0
  obtain ⟨j, hj, rfl⟩ := List.mem_iff_getElem.1 h1
  rcases Nat.lt_trichotomy i j with hij | rfl | hij
  · exact (hp i j hi hj hij h).elim
  · rfl
  · exact (hp j i hj hi hij h.symm).elim
/-- v, ok := known[s], in all worlds in which the map is the same. -/
theorem KnownAt.look_all {W : World} {b n : Nat} {G : Sta → Value → Prop} (h : KnownAt W b n G) {s : Sta} (hs : s.fit) :
    (∀ V : World, V.heap[b]? = W.heap[b]? → (Instr.lookup 158 (.map (some b)) (staV s) true).run Try.prog V = .ok (.tuple #[restZ, .bool false]) V) ∨
    ∃ v, G s v ∧ ∀ V : World, V.heap[b]? = W.heap[b]? → (Instr.lookup 158 (.map (some b)) (staV s) true).run Try.prog V = .ok (.tuple #[v, .bool true]) V := by
  obtain ⟨es, clock, hb, F, -, hG⟩ := h
  obtain ⟨l, hl⟩ := key_state hs
  rcases Maps.fit_look true keyed_state und_known (zeroRest W) hb F hl with ⟨-, h2, -⟩ | ⟨e0, y, hm, hk, -, -⟩
  · refine .inl fun V hV => ?_
    rcases Maps.fit_look true keyed_state und_known (zeroRest V) (hV.trans hb) F hl with ⟨h1, -⟩ | ⟨e1, y1, hm1, hk1, -, -⟩
    · exact h1
    · exact (h2 e1 hm1 hk1).elim
  · obtain ⟨s', e1, e2⟩ := hG e0 hm
    obtain rfl : s' = s := staV_inj (e1.symm.trans hk)
    refine .inr ⟨e0.val, e2, fun V hV => ?_⟩
    rcases Maps.fit_look true keyed_state und_known (zeroRest V) (hV.trans hb) F hl with ⟨-, h2, -⟩ | ⟨e1, y1, hm1, hk1, h1, -⟩
    · exact (h2 e0 hm hk).elim
    · obtain rfl := fit_one F hm hm1 (hk.trans hk1.symm)
      exact h1

theorem try_any (p : Press) (L : List Draw) (A : Option Addr) (c kb pb tb m b off : Nat) (hp : pressOk p = true) (hL : drawsOk L = true) : ∀ (l : List Draw) (s : Sta) (T : Option Addr) (ct n : Nat) (W : World),
    Env p L A c kb pb tb m b off n W → DrawSl W W.heap.size T l → l <:+ L → s.ok → s.sum + lenSum l = lenSum L → l.length ≤ ct → n + cnt l.length ≤ 100000 →
    Calls Try.prog 102 #[staV s, .slice T l.length ct, .pointer (some ⟨kb, 0, none⟩), .pointer (some ⟨pb, 0, none⟩), .pointer (some ⟨tb, 0, none⟩)] W (RetTry p L m n (bestOf p l s) l.length W)
  | [], s, T, ct, n, W, hE, _, _, _, _, _, _ => try_nil p L A T c ct kb pb tb m b off n W s hE
  | x :: l, s, T, ct, n, W, hE, hT, hl, hs, hsum, hct, hn => by
    have hl2 : l <:+ L := List.IsSuffix.trans (List.suffix_cons x l) hl
    rcases hE.known.look_all (Sta.ok_fit hs) with h | ⟨v, hG, h⟩
    · exact try_miss p L A T c ct kb pb tb m b off n W s x l hp hL hE hT hl hs hsum hct (fun V s' T' ct' n' h1 h2 h3 h4 h5 h6 => try_any p L A c kb pb tb m b off hp hL l s' T' ct' n' V h1 h2 hl2 h4 h5 h3 h6) hn h
    · obtain ⟨A2, c2, rfl, hpl⟩ := hG (x :: l) hl hsum
      have h8 := (draws_parts hL).1
      have h9 := hl.length_le
      exact try_hit p L A T A2 c c2 ct kb pb tb m b off n (l.length + 1) W s (bestOf p (x :: l) s) (by omega) (by simp only [List.length_cons] at h9; omega) hE hpl h

/-- The boxes of cheapest. -/
structure ChB (p : Press) (A : Option Addr) (c : Nat) (w W : World) : Prop where
  below : Below w.heap.size w W
  bp : Blk W w.heap.size 26 #[.slice A p.dies.length c, .int .i64 p.shrink.lo, .int .i64 p.shrink.hi, .int .i64 p.change]
  br : Blk W (w.heap.size + 1) 122 #[.slice none 0 0, .int .i64 0, .bool false]
  known : W.heap[w.heap.size + 1 + 1]? = some (.map #[] 0)
  bk : Blk W (w.heap.size + 1 + 1 + 1) 158 #[.map (some (w.heap.size + 1 + 1))]
  bt : Blk W (w.heap.size + 1 + 1 + 1 + 1) 159 #[.func (.func 102) #[] #[.pointer (some ⟨w.heap.size + 1 + 1 + 1, 0, none⟩), .pointer (some ⟨w.heap.size, 0, none⟩), .pointer (some ⟨w.heap.size + 1 + 1 + 1 + 1, 0, none⟩)]]
theorem ChB.call {p : Press} {A : Option Addr} {c : Nat} {w W W' : World} (h : ChB p A c w W) (hb : Below W.heap.size W W') : ChB p A c w W' :=
  ⟨h.below.trans (hb.mono h.below.size), h.bp.below hb h.bp.lt, h.br.below hb h.br.lt, (hb.block _ (Array.getElem?_eq_some_iff.1 h.known).1).trans h.known, h.bk.below hb h.bk.lt, h.bt.below hb h.bt.lt⟩
theorem ChB.env {p : Press} {L : List Draw} {A : Option Addr} {c b off : Nat} {w W : World} (h : ChB p A c w W) (hd : A = some ⟨b, off, none⟩ ∧ b < w.heap.size ∧ At3 dieF w b off p.dies) : Env p L A c (w.heap.size + 1 + 1 + 1) w.heap.size (w.heap.size + 1 + 1 + 1 + 1) (w.heap.size + 1 + 1) b off 0 W :=
  ⟨h.bk, h.bp, h.bt, ⟨hd.1, Nat.lt_of_lt_of_le hd.2.1 h.below.size, hd.2.2.below h.below hd.2.1⟩, #[], 0, h.known, ⟨by simp, stamped_empty 0, fun x hx => by simp at hx⟩, by simp, fun e he => by simp at he⟩
theorem cnt_le {k : Nat} (h : k ≤ 8) : cnt k ≤ 100000 := by
  have hk : k = 0 ∨ k = 1 ∨ k = 2 ∨ k = 3 ∨ k = 4 ∨ k = 5 ∨ k = 6 ∨ k = 7 ∨ k = 8 := by omega
  rcases hk with rfl | rfl | rfl | rfl | rfl | rfl | rfl | rfl | rfl <;> decide
def s0 : Sta := ⟨0, 0, 0, 0, -1⟩
theorem s0_ok : s0.ok := by simp [s0, Sta.ok, Sta.sum]
theorem below_gr {w W W' : World} {m : Nat} (h : Below w.heap.size w W) (hg : W.grownBy W' (some m)) (hm : w.heap.size ≤ m) : Below w.heap.size w W' :=
  ⟨hg.os.trans h.os, hg.tape.trans h.tape, hg.output.trans h.output, Nat.le_trans h.size hg.size, fun i hi => (hg.block i (Nat.lt_of_lt_of_le hi h.size) (fun e => by have := Option.some.inj e; omega)).trans (h.block i hi)⟩
set_option maxRecDepth 100000 in
set_option maxHeartbeats 2000000 in
theorem cheapest_any (w : World) (A T : Option Addr) (c ct : Nat) (p : Press) (l : List Draw) (hp : pressOk p = true) (hL : drawsOk l = true) (hA : DieSl w w.heap.size A p.dies) (hT : DrawSl w w.heap.size T l) (hct : l.length ≤ ct) :
    Calls Try.prog 75 #[.agg #[.slice A p.dies.length c, .int .i64 p.shrink.lo, .int .i64 p.shrink.hi, .int .i64 p.change], .slice T l.length ct] w fun e w' => ∃ A2 c2, e = .returned (.agg #[.slice A2 (bestOf p l s0).plan.length c2, .int .i64 (bestOf p l s0).cost, .bool (bestOf p l s0).good]) ∧ PlanAt w' (.slice A2 (bestOf p l s0).plan.length c2) (bestOf p l s0).plan ∧ Below w.heap.size w w' := by
  have hmm := @run_makeMap Try.prog
  obtain ⟨b, off, hd⟩ := hA (by intro e; have := (press_parts hp).1.1; rw [e] at this; simp at this)
  have HD := Lib.hid hd
  have HT := Lib.hid hT
  have HTR : Hid (∀ W, ChB p A c w W → Calls Try.prog 102 #[.agg #[.int .i64 0, .int .i64 0, .int .i64 0, .int .i64 0, .int .i64 (-1)], .slice T l.length ct, .pointer (some ⟨w.heap.size + 1 + 1 + 1, 0, none⟩), .pointer (some ⟨w.heap.size, 0, none⟩), .pointer (some ⟨w.heap.size + 1 + 1 + 1 + 1, 0, none⟩)] W (RetTry p l (w.heap.size + 1 + 1) 0 (bestOf p l s0) l.length W)) :=
    Lib.hid fun W h => try_any p l A c _ _ _ _ b off hp hL l s0 T ct 0 W (h.env hd) ((hT.below h.below).more h.below.size) (List.suffix_refl l) s0_ok (by simp [s0, Sta.sum]) hct (by have := cnt_le (draws_parts hL).1; omega)
  generalize hr : bestOf p l s0 = r at HTR ⊢
  clear hd hT hA hr
  go_enter Try.func75, Try.ntmps75
  go_wp2
  have hS : ChB p A c w (((((w.alloc (.cells #[.slice A p.dies.length c, .int .i64 p.shrink.lo, .int .i64 p.shrink.hi, .int .i64 p.change] 26)).alloc (.cells #[.slice none 0 0, .int .i64 0, .bool false] 122)).alloc (.map #[] 0)).alloc (.cells #[.map (some (w.heap.size + 1 + 1))] 158)).alloc (.cells #[.func (.func 102) #[] #[.pointer (some ⟨w.heap.size + 1 + 1 + 1, 0, none⟩), .pointer (some ⟨w.heap.size, 0, none⟩), .pointer (some ⟨w.heap.size + 1 + 1 + 1 + 1, 0, none⟩)]] 159)) := by
    refine ⟨by repeat (first | exact Below.refl _ _ | assumption | refine Below.drew ?_ | refine Below.alloc ?_ (by first | omega | (simp only [World.size_alloc]; omega) | simp) _ | refine Below.setCell ?_ (by first | omega | (simp only [World.size_alloc]; omega) | simp) _), ((((Blk.new _ _ _).alloc _).alloc _).alloc _).alloc _, (((blk_at _ _ (by simp)).alloc _).alloc _).alloc _, ?_, (blk_at _ _ (by simp)).alloc _, blk_at _ _ (by simp)⟩
    refine (Below.heap_alloc _ _ _ (by simp)).trans ((Below.heap_alloc _ _ _ (by simp)).trans ?_)
    have := World.alloc_heap_new ((w.alloc (.cells #[.slice A p.dies.length c, .int .i64 p.shrink.lo, .int .i64 p.shrink.hi, .int .i64 p.change] 26)).alloc (.cells #[.slice none 0 0, .int .i64 0, .bool false] 122)) (.map #[] 0)
    simpa using this
  generalize World.alloc (World.alloc (World.alloc (World.alloc (World.alloc w _) _) _) _) _ = W0 at hS ⊢
  have b0 := hS.bt.cell 0
  have HS := Lib.hid hS
  clear hS hmm
  go_region_held3 (fun W => W.cell? ⟨w.heap.size + 1 + 1 + 1 + 1, 0, none⟩ = some (.func (.func 102) #[] #[.pointer (some ⟨w.heap.size + 1 + 1 + 1, 0, none⟩), .pointer (some ⟨w.heap.size, 0, none⟩), .pointer (some ⟨w.heap.size + 1 + 1 + 1 + 1, 0, none⟩)]))
    (first | exact b0 | exact b1 | exact b3 | exact cell_far (cell_far (cell_far b3 (by omega)) (by omega)) (by omega) | assumption | fail "keep")
    (first
      | (go_at_call 108; (with_reducible refine (outset_any _).mono ?_); rintro e e1 ⟨rfl, hb1⟩; have HS1 := Lib.hid (HS.out.call (Below.trans (Below.refl _ _).drew hb1)); have b1 := HS1.out.bt.cell 0; clear hb1; unfold staV)
      | (go_at_call 102; (with_reducible refine (HTR.out _ HS1.out).mono ?_); rintro e e2 ⟨A2, c2, rfl, hp2, hg2, -⟩; have HP2 := Lib.hid hp2; have HG2 := Lib.hid hg2; clear hp2 hg2; have hbr := HS1.out.br.gr HG2.out HS1.out.known; have z0 := hbr.cell 0; have z1 := hbr.cell 1; have z2 := hbr.cell 2; have f0 := hbr.frozen 0; have f1 := hbr.frozen 1; have f2 := hbr.frozen 2; have b3 := (HS1.out.bt.gr HG2.out HS1.out.known).cell 0; have HBR := Lib.hid hbr; clear hbr)
      | fail "no arm")
  go_wp2_with fail
  exact bodyPost_ret (results_blk rfl _ rfl (((HBR.out.set_ 0 _).set_ 1 _).set_ 2 _) (by kernel_rfl) (by kernel_rfl)) rfl
    ⟨A2, c2, rfl, HP2.out.keep (((KeepI.set HBR.out (by decide) 0 _).trans (.set (HBR.out.set_ 0 _) (by decide) 1 _)).trans (.set ((HBR.out.set_ 0 _).set_ 1 _) (by decide) 2 _)), Below.setCell (p := ⟨_, 2, none⟩) (Below.setCell (p := ⟨_, 1, none⟩) (Below.setCell (p := ⟨_, 0, none⟩) (below_gr HS1.out.below HG2.out (by omega)) (by simp) _) (by simp) _) (by simp) _⟩
end Go.Proofs.Ytdadgljllnkppaa
