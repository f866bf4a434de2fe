/- The iterator over the corners of what is held, and what a sack adds to a measure. -/
import Derived.Test.YtoiggflhfbfiiaaB
namespace Go.Proofs.Ytoiggflhfbfiiaa
open Go.RowKit Go.Shelf
attribute [local go_sem] Oper.semAt_some

/-- A state whose numbers lie within their bounds. -/
structure OkSt where
  t : St
  ok : t.ok
def stV (x : OkSt) : Array Value := #[.agg #[.int .i64 x.t.m, .int .i64 x.t.w, .int .i64 x.t.c, .int .i64 x.t.s]]

/-- The box of what is held lies in the world. -/
def HeldAt (W : World) (q : Nat) (h : Held) : Prop :=
  W.cell? ⟨q, 0, none⟩ = some (.int .i64 h.sack.w.lo) ∧ W.cell? ⟨q, 1, none⟩ = some (.int .i64 h.sack.w.hi) ∧ W.cell? ⟨q, 2, none⟩ = some (.int .i64 h.sack.c.lo) ∧ W.cell? ⟨q, 3, none⟩ = some (.int .i64 h.sack.c.hi) ∧
  W.cell? ⟨q, 4, none⟩ = some (.int .i64 h.sack.l.lo) ∧ W.cell? ⟨q, 5, none⟩ = some (.int .i64 h.sack.l.hi) ∧ W.cell? ⟨q, 6, none⟩ = some (.int .i64 h.weight.lo) ∧ W.cell? ⟨q, 7, none⟩ = some (.int .i64 h.weight.hi)
/-- Block q is as it was. -/
def SameAt (q : Nat) (W W' : World) : Prop := W'.heap[q]? = W.heap[q]?
theorem SameAt.cell {q : Nat} {W W' : World} (h : SameAt q W W') (i : Nat) : W'.cell? ⟨q, i, none⟩ = W.cell? ⟨q, i, none⟩ := World.cell?_of_block (w := W) (a := ⟨q, i, none⟩) h
theorem SameAt.of_below {q B : Nat} {W W' : World} (h : Below B W W') (hq : q < B) : SameAt q W W' := h.block q hq
theorem SameAt.trans {q : Nat} {A B C : World} (h : SameAt q A B) (k : SameAt q B C) : SameAt q A C := Eq.trans k h
theorem HeldAt.same {W W' : World} {q : Nat} {h : Held} (hh : HeldAt W q h) (hb : SameAt q W W') : HeldAt W' q h := by
  obtain ⟨h0, h1, h2, h3, h4, h5, h6, h7⟩ := hh
  exact ⟨(hb.cell _).trans h0, (hb.cell _).trans h1, (hb.cell _).trans h2, (hb.cell _).trans h3, (hb.cell _).trans h4, (hb.cell _).trans h5, (hb.cell _).trans h6, (hb.cell _).trans h7⟩
theorem HeldAt.below {W W' : World} {B q : Nat} {h : Held} (hh : HeldAt W q h) (hb : Below B W W') (hq : q < B) : HeldAt W' q h := by
  obtain ⟨h0, h1, h2, h3, h4, h5, h6, h7⟩ := hh
  exact ⟨(hb.cell (p := ⟨q, _, none⟩) hq).trans h0, (hb.cell (p := ⟨q, _, none⟩) hq).trans h1, (hb.cell (p := ⟨q, _, none⟩) hq).trans h2, (hb.cell (p := ⟨q, _, none⟩) hq).trans h3,
    (hb.cell (p := ⟨q, _, none⟩) hq).trans h4, (hb.cell (p := ⟨q, _, none⟩) hq).trans h5, (hb.cell (p := ⟨q, _, none⟩) hq).trans h6, (hb.cell (p := ⟨q, _, none⟩) hq).trans h7⟩

/-- The number at one end. -/
def Span.at_ (s : Span) (k : Nat) : Int := if k = 0 then s.lo else s.hi

/-- The state at corner k of 16. -/
def Held.at_ (h : Held) (k : Nat) : St := ⟨h.weight.at_ (k / 8), h.sack.w.at_ (k / 4 % 2), h.sack.c.at_ (k / 2 % 2), h.sack.l.at_ (k % 2)⟩
theorem corners_eq (h : Held) : h.corners = (List.range 16).map h.at_ := rfl
theorem Span.at_bd {s : Span} {a b : Int} (h1 : a ≤ s.lo) (h2 : s.lo ≤ s.hi) (h3 : s.hi ≤ b) (k : Nat) : a ≤ s.at_ k ∧ s.at_ k ≤ b := by
  unfold Span.at_; split <;> omega
theorem Held.at_ok {h : Held} (hh : h.ok) (k : Nat) : (h.at_ k).ok := by
  obtain ⟨hs, h1, h2, h3⟩ := hh
  simp only [sackOk, Bool.and_eq_true, withinB_iff] at hs
  obtain ⟨⟨⟨w1, w2, w3⟩, c1, c2, c3⟩, l1, l2, l3⟩ := hs
  have a1 := Span.at_bd h1 h2 h3 (k / 8)
  have a2 := Span.at_bd w1 w2 w3 (k / 4 % 2)
  have a3 := Span.at_bd c1 c2 c3 (k / 2 % 2)
  have a4 := Span.at_bd l1 l2 l3 (k % 2)
  exact ⟨a1.1, a1.2, a2.1, a2.2, a3.1, a3.2, a4.1, a4.2⟩
def Held.atO (h : Held) (hh : h.ok) (k : Nat) : OkSt := ⟨h.at_ k, Held.at_ok hh k⟩


theorem ri0 (a b : Int) (w : World) : (Instr.index 108 (.agg #[.int .i64 a, .int .i64 b]) (.int .i64 ((0 : Nat) : Int))).run Try.prog w = .ok (.int .i64 a) w := by
  kernel_rfl
theorem ri1 (a b : Int) (w : World) : (Instr.index 108 (.agg #[.int .i64 a, .int .i64 b]) (.int .i64 ((1 : Nat) : Int))).run Try.prog w = .ok (.int .i64 b) w := by
  kernel_rfl
theorem run_index2 (s : Span) (k : Nat) (hk : k < 2) (w : World) : (Instr.index 108 (.agg #[.int .i64 s.lo, .int .i64 s.hi]) (.int .i64 (k : Int))).run Try.prog w = .ok (.int .i64 (s.at_ k)) w := by
  have h : k = 0 ∨ k = 1 := by omega
  rcases h with rfl | rfl
  · exact ri0 _ _ w
  · exact ri1 _ _ w

/-- What has come when k rounds are over. -/
def Held.upto (h : Held) (hh : h.ok) (k : Nat) : List OkSt := (List.range k).map (h.atO hh)
theorem Held.upto_succ (h : Held) (hh : h.ok) (k : Nat) : h.upto hh (k + 1) = h.upto hh k ++ [h.atO hh k] := by simp [Held.upto, List.range_succ]
theorem Held.upto_all (h : Held) (hh : h.ok) : (h.upto hh 16).map OkSt.t = h.corners := rfl
theorem Held.at_mk (h : Held) {a b c d : Nat} (_ha : a < 2) (hb : b < 2) (hc : c < 2) (hd : d < 2) : h.at_ (8 * a + 4 * b + 2 * c + d) = ⟨h.weight.at_ a, h.sack.w.at_ b, h.sack.c.at_ c, h.sack.l.at_ d⟩ := by
  have e1 : (8 * a + 4 * b + 2 * c + d) / 8 = a := by omega
  have e2 : (8 * a + 4 * b + 2 * c + d) / 4 % 2 = b := by omega
  have e3 : (8 * a + 4 * b + 2 * c + d) / 2 % 2 = c := by omega
  have e4 : (8 * a + 4 * b + 2 * c + d) % 2 = d := by omega
  simp only [Held.at_, e1, e2, e3, e4]

theorem lt_of_same {q : Nat} {W W' : World} (h : SameAt q W W') : q < W.heap.size ↔ q < W'.heap.size := by
  unfold SameAt at h
  rcases Nat.lt_or_ge q W.heap.size with a | a <;> rcases Nat.lt_or_ge q W'.heap.size with b | b
  · simp [a, b]
  · rw [Array.getElem?_eq_none b, Array.getElem?_eq_getElem a] at h; cases h
  · rw [Array.getElem?_eq_none a, Array.getElem?_eq_getElem b] at h; cases h
  · omega
/-- What is kept from round to round. -/
def ItS (q : Nat) (W0 : World) (J : List OkSt → World → Prop) (h : Held) (hh : h.ok) (k : Nat) (W : World) : Prop := J (h.upto hh k) W ∧ SameAt q W0 W ∧ q < W.heap.size
theorem ItS.to {q : Nat} {W0 : World} {J : List OkSt → World → Prop} {h : Held} {hh : h.ok} {k k' : Nat} {W : World} (hs : ItS q W0 J h hh k W) (e : k = k') : ItS q W0 J h hh k' W := e ▸ hs
theorem ItS.next {q : Nat} {W0 : World} {J : List OkSt → World → Prop} {h : Held} {hh : h.ok} {k : Nat} {W W' : World} (hs : ItS q W0 J h hh k W) (hj : J (h.upto hh k ++ [h.atO hh k]) W') (hb : SameAt q W W') : ItS q W0 J h hh (k + 1) W' :=
  ⟨by rw [Held.upto_succ]; exact hj, hs.2.1.trans hb, (lt_of_same hb).1 hs.2.2⟩


set_option maxRecDepth 100000 in
set_option maxHeartbeats 4000000 in
theorem corners1_in (n : Nat) (hn : 2 ≤ n) (l q : Nat) (h : Held) (hh : h.ok) (J Jx : List OkSt → World → Prop) (W : World) (hJ : AbidesFrom W.heap.size J) 
    (hY : ∀ pre x W, J pre W → pre.length < 16 → YieldAt Fence.wide (n - 1) Try.prog l (stV x) W fun e W' =>
      (e = .returned (.bool true) ∧ J (pre ++ [x]) W' ∧ SameAt q W W') ∨ (e = .returned (.bool false) ∧ Jx (pre ++ [x]) W'))
    (hq : q < W.heap.size) (hL : HeldAt W q h) (h0 : J [] W) :
    CallsIn Fence.wide n Try.prog 70 #[.func (.yield l) #[] #[], .pointer (some ⟨q, 0, none⟩)] W fun e W' => (∃ v, e = .returned v) ∧
      ((∃ ys, ys = h.upto hh 16 ∧ J ys W') ∨ (∃ pre, True ∧ Jx pre W')) := by
  refine callsIn_of_wp Try.func70 rfl trivial ?_ rfl
  simp only [Try.ntmps70, List.size_toArray, List.length_cons, List.length_nil, Nat.reduceAdd, Nat.reduceSub, Array.replicate_succ, Array.replicate_zero, List.push_toArray, List.append_toArray, List.nil_append, List.cons_append]
  have HL := Lib.hid hL
  have hS : ItS q W J h hh 0 W := ⟨h0, rfl, hq⟩
  have HJ : Hid (∀ k W1 W2, ItS q W J h hh k W1 → Below W1.heap.size W1 W2 → ItS q W J h hh k W2) := by
    rintro k W1 W2 ⟨a, b, b'⟩ c
    exact ⟨hJ _ _ _ none a ⟨c.os, c.tape, c.output, c.size, fun i hi _ => c.block i hi⟩ (by simp), b.trans (SameAt.of_below c b'), Nat.lt_of_lt_of_le b' c.size⟩
  have HC : Hid (∀ k W1, ItS q W J h hh k W1 → HeldAt W1 q h) := fun k W1 a => HL.out.same a.2.1
  clear hJ hL h0
  obtain ⟨c0, c1, c2, c3, c4, c5, c6, c7⟩ := HC.out _ _ hS
  have HY := Lib.hid hY
  clear hY
  gi_wp2_with (refine ⟨trivial, fun _ => (by omega), ?_⟩; gi_at_call 71; refine (callsIn_wide.2 (ends_any _ _ _)).mono ?_; rintro e w' ⟨rfl, hb'⟩; replace hS := HJ.out _ _ _ hS hb'; clear hb' c0 c1 c2 c3 c4 c5 c6 c7)
  gi_loopw [14] (fun i wr => ∃ k : Nat, k ≤ 2 ∧ i = .int .i64 k ∧ ItS q W J h hh (8 * k) wr) (fun i _ => 2 - (intOf i).toNat)
  case atStart => exact ⟨0, by omega, rfl, hS⟩
  case round =>
    clear hS
    obtain ⟨k1, hk1, rfl, hS⟩ := hrel
    by_cases hlt : k1 < 2
    · obtain ⟨c0, c1, c2, c3, c4, c5, c6, c7⟩ := HC.out _ _ hS
      have e1 := run_index2 h.weight k1 hlt
      gi_wp2_with (refine ⟨trivial, fun _ => (by omega), ?_⟩; gi_at_call 71; refine (callsIn_wide.2 (ends_any _ _ _)).mono ?_; rintro e w' ⟨rfl, hb'⟩; replace hS := HJ.out _ _ _ hS hb'; clear hb' c0 c1 c2 c3 c4 c5 c6 c7)
      gi_loopw [21] (fun i wr => ∃ k : Nat, k ≤ 2 ∧ i = .int .i64 k ∧ ItS q W J h hh (8 * k1 + 4 * k) wr) (fun i _ => 2 - (intOf i).toNat)
      case atStart => exact ⟨0, by omega, rfl, hS⟩
      case round =>
        clear hS e1
        obtain ⟨k2, hk2, rfl, hS⟩ := hrel
        by_cases hlt2 : k2 < 2
        · obtain ⟨c0, c1, c2, c3, c4, c5, c6, c7⟩ := HC.out _ _ hS
          have e2 := run_index2 h.sack.w k2 hlt2
          gi_wp2_with (refine ⟨trivial, fun _ => (by omega), ?_⟩; gi_at_call 71; refine (callsIn_wide.2 (ends_any _ _ _)).mono ?_; rintro e w' ⟨rfl, hb'⟩; replace hS := HJ.out _ _ _ hS hb'; clear hb' c0 c1 c2 c3 c4 c5 c6 c7)
          gi_loopw [28] (fun i wr => ∃ k : Nat, k ≤ 2 ∧ i = .int .i64 k ∧ ItS q W J h hh (8 * k1 + 4 * k2 + 2 * k) wr) (fun i _ => 2 - (intOf i).toNat)
          case atStart => exact ⟨0, by omega, rfl, hS⟩
          case round =>
            clear hS e2
            obtain ⟨k3, hk3, rfl, hS⟩ := hrel
            by_cases hlt3 : k3 < 2
            · obtain ⟨c0, c1, c2, c3, c4, c5, c6, c7⟩ := HC.out _ _ hS
              have e3 := run_index2 h.sack.c k3 hlt3
              gi_wp2_with (refine ⟨trivial, fun _ => (by omega), ?_⟩; gi_at_call 71; refine (callsIn_wide.2 (ends_any _ _ _)).mono ?_; rintro e w' ⟨rfl, hb'⟩; replace hS := HJ.out _ _ _ hS hb'; clear hb' c0 c1 c2 c3 c4 c5 c6 c7)
              gi_loopw [35] (fun i wr => ∃ k : Nat, k ≤ 2 ∧ i = .int .i64 k ∧ ItS q W J h hh (8 * k1 + 4 * k2 + 2 * k3 + k) wr) (fun i _ => 2 - (intOf i).toNat)
              case atStart => exact ⟨0, by omega, rfl, hS⟩
              case round =>
                clear hS e3
                obtain ⟨k4, hk4, rfl, hS⟩ := hrel
                by_cases hlt4 : k4 < 2
                · have e4 := run_index2 h.sack.l k4 hlt4
                  obtain ⟨fn, tmps, assign, body, hy, hR⟩ := HY.out _ (h.atO hh (8 * k1 + 4 * k2 + 2 * k3 + k4)) wr hS.1 (by simp [Held.upto]; omega)
                  simp only [stV, Held.atO, Held.at_mk h hlt hlt2 hlt3 hlt4] at hy
                  gi_wp2
                  refine ⟨fun _ => (by omega), hR.mono ?_⟩
                  rintro e W3 (⟨rfl, hJ3, hk3'⟩ | ⟨rfl, hJx3⟩)
                  · have hS3 := hS.next hJ3 hk3'
                    gi_wp2
                    go_roundw
                    case rel => exact ⟨k4 + 1, by omega, by go_num, hS3⟩
                    case measure => simp [intOf]; omega
                  · gi_wp2
                    refine bodyPost_ret (results_none rfl _ _ _) rfl ?_
                    exact ⟨⟨_, rfl⟩, .inr ⟨_, trivial, hJx3⟩⟩
                · gi_wp2
                  go_roundw
                  case rel => exact ⟨k3 + 1, by omega, by go_num, hS.to (by omega)⟩
                  case measure => simp [intOf]; omega
            · gi_wp2
              go_roundw
              case rel => exact ⟨k2 + 1, by omega, by go_num, hS.to (by omega)⟩
              case measure => simp [intOf]; omega
        · gi_wp2
          go_roundw
          case rel => exact ⟨k1 + 1, by omega, by go_num, hS.to (by omega)⟩
          case measure => simp [intOf]; omega
    · gi_wp2
      go_end0
      obtain rfl : k1 = 2 := by omega
      exact ⟨⟨_, rfl⟩, .inl ⟨_, rfl, hS.1⟩⟩

/-- A measure: a function value that tells a number of a state. -/
def IsMeas (w : World) (B : Nat) (v : Value) (g : St → Int) : Prop :=
  ∃ (k : Nat) (cap : Array Value), v = .func (.func k) #[] cap ∧ (∀ args W, (callFunc k args).run Try.prog W = .ok (.enter k args) W) ∧
    ∀ (W : World) (t : St), Below B w W → t.ok → Calls Try.prog k (#[.agg #[.int .i64 t.m, .int .i64 t.w, .int .i64 t.c, .int .i64 t.s]] ++ cap) W (Ret (.int .i64 (g t)) W)
theorem IsMeas.below {w w' : World} {B : Nat} {v : Value} {g : St → Int} (h : IsMeas w B v g) (hb : Below B w w') : IsMeas w' B v g := by
  obtain ⟨k, cap, rfl, he, hc⟩ := h
  exact ⟨k, cap, rfl, he, fun W t hW ht => hc W t (hb.trans hW) ht⟩

theorem corners_stops (n : Nat) (hn : 2 ≤ n) (q : Nat) (h : Held) (hh : h.ok) (w : World) (hq : q < w.heap.size) (hL : HeldAt w q h) :
    SeqStopsK Fence.wide n Try.prog 70 #[.pointer (some ⟨q, 0, none⟩)] stV (SameAt q) (fun ys => ys = h.upto hh 16) (fun _ => True) 16 w := fun l J Jx W hW hJ _ hY h0 =>
  corners1_in n hn l q h hh J Jx W hJ hY (by have := hW.size; omega) (hL.below hW hq) h0

end Go.Proofs.Ytoiggflhfbfiiaa
