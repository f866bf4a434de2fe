/- The iterator over the dies of a press, each of them mounted. -/
import Derived.Test.YtdadgljllnkppaaFa
import Derived.Test.YtdadgljllnkppaaTh
namespace Go.Proofs.Ytdadgljllnkppaa
open Go.RowKit Go.Shelf
attribute [local go_sem] Oper.semAt_some

/-- What is yielded: the number of a die, and where what its two functions have captured lies. -/
structure DieX where
  n : Nat
  q : Nat
  r : Nat
  s : Nat
  q2 : Nat
  r2 : Nat
  s2 : Nat
def Press.die (p : Press) (n : Nat) : Die := p.dies.getD n ⟨1, ⟨0, 0⟩⟩
theorem Press.die_eq (p : Press) {n : Nat} (h : n < p.dies.length) : p.die n = p.dies[n] := by simp [Press.die, h]
def dieV (p : Press) (x : DieX) : Array Value := #[.int .i64 (x.n : Int), .agg #[.int .i64 (p.die x.n).wide, .int .i64 (p.die x.n).wear.lo, .int .i64 (p.die x.n).wear.hi, .func (.func 134) #[] #[.pointer (some ⟨x.q, 0, none⟩), .pointer (some ⟨x.r, 0, none⟩), .pointer (some ⟨x.s, 0, none⟩)], .func (.func 98) #[] #[], .func (.func 134) #[] #[.pointer (some ⟨x.q2, 0, none⟩), .pointer (some ⟨x.r2, 0, none⟩), .pointer (some ⟨x.s2, 0, none⟩)], .func (.func 99) #[] #[]]]
def DieFact (p : Press) (x : DieX) (W : World) : Prop := x.n < p.dies.length ∧ Mounted W W.heap.size x.q x.r x.s x.q2 x.r2 x.s2 (p.die x.n) p.shrink
def SameAt (q : Nat) (W W' : World) : Prop := W'.heap[q]? = W.heap[q]?
theorem SameAt.cell {q : Nat} {W W' : World} (h : SameAt q W W') (i : Nat) : W'.cell? ⟨q, i, none⟩ = W.cell? ⟨q, i, none⟩ := World.cell?_of_block (w := W) (a := ⟨q, i, none⟩) h
theorem SameAt.of_below {q B : Nat} {W W' : World} (h : Below B W W') (hq : q < B) : SameAt q W W' := h.block q hq
theorem SameAt.trans {q : Nat} {A B C : World} (h : SameAt q A B) (k : SameAt q B C) : SameAt q A C := Eq.trans k h
theorem lt_of_same {q : Nat} {W W' : World} (h : SameAt q W W') (hq : q < W.heap.size) : q < W'.heap.size := by
  unfold SameAt at h
  rcases Nat.lt_or_ge q W'.heap.size with b | b
  · exact b
  · rw [Array.getElem?_eq_none b, Array.getElem?_eq_getElem hq] at h; cases h
def Kept (q b : Nat) (W W' : World) : Prop := SameAt q W W' ∧ SameAt b W W'
theorem Kept.trans {q b : Nat} {A B C : World} (h : Kept q b A B) (k : Kept q b B C) : Kept q b A C := ⟨Eq.trans k.1 h.1, Eq.trans k.2 h.2⟩
/-- What is kept from round to round: k dies have come. -/
structure ItS (p : Press) (A : Option Addr) (c q b off : Nat) (J : List DieX → World → Prop) (k : Nat) (W : World) : Prop where
  box : Blk W q 26 #[.slice A p.dies.length c, .int .i64 p.shrink.lo, .int .i64 p.shrink.hi, .int .i64 p.change]
  dies : A = some ⟨b, off, none⟩ ∧ b < W.heap.size ∧ At3 dieF W b off p.dies
  come : ∃ pre : List DieX, pre.map DieX.n = List.range k ∧ J pre W
theorem At3.same {α : Type} {f : α → Int × Int × Int} {W W' : World} {b off : Nat} {l : List α} (h : At3 f W b off l) (hs : SameAt b W W') : At3 f W' b off l := fun i hi => by
  obtain ⟨h0, h1, h2⟩ := h i hi
  exact ⟨(hs.cell _).trans h0, (hs.cell _).trans h1, (hs.cell _).trans h2⟩

set_option maxRecDepth 100000 in
set_option maxHeartbeats 4000000 in
theorem dies_in (n : Nat) (hn : 2 ≤ n) (l q b off c : Nat) (A : Option Addr) (p : Press) (J Jx : List DieX → World → Prop) (W : World) (hp : p.dies.length ≤ 4) (hJ : AbidesFrom W.heap.size J)
    (hY : ∀ pre x W, J pre W → DieFact p x W → pre.length < p.dies.length → YieldAt Fence.wide (n - 1) Try.prog l (dieV p x) W fun e W' =>
      (e = .returned (.bool true) ∧ J (pre ++ [x]) W' ∧ Kept q b W W') ∨ (e = .returned (.bool false) ∧ Jx (pre ++ [x]) W'))
    (hS : ItS p A c q b off J 0 W) :
    CallsIn Fence.wide n Try.prog 136 #[.func (.yield l) #[] #[], .pointer (some ⟨q, 0, none⟩)] W fun e W' => (∃ v, e = .returned v) ∧
      ((∃ ys, List.map DieX.n ys = List.range p.dies.length ∧ J ys W') ∨ (∃ pre, List.map DieX.n pre = List.range pre.length ∧ Jx pre W')) := by
  refine callsIn_of_wp Try.func136 rfl trivial ?_ rfl
  simp only [Try.ntmps136, List.size_toArray, List.length_cons, List.length_nil, Nat.reduceAdd, Nat.reduceSub, Array.replicate_succ, Array.replicate_zero, List.push_toArray, List.append_toArray, List.nil_append, List.cons_append]
  have HJ : Hid (∀ k W1 W2, ItS p A c q b off J k W1 → Below W1.heap.size W1 W2 → ItS p A c q b off J k W2) := by
    rintro k W1 W2 ⟨h1, ⟨h2, h3, h4⟩, pre, h5, h6⟩ hb
    exact ⟨h1.below hb h1.lt, ⟨h2, Nat.lt_of_lt_of_le h3 hb.size, h4.below hb h3⟩, pre, h5, hJ _ _ _ none h6 ⟨hb.os, hb.tape, hb.output, hb.size, fun i hi _ => hb.block i hi⟩ (by simp)⟩
  have HY := Lib.hid hY
  clear hJ hY
  have HS := Lib.hid hS
  clear hS
  have x0 := HS.out.box.cell 0
  gi_wp2
  clear x0
  gi_loopw [7] (fun i wr => ∃ k : Nat, k ≤ p.dies.length ∧ i = .int .i64 k ∧ Hid (ItS p A c q b off J k wr)) (fun i _ => p.dies.length - (intOf i).toNat)
  case atStart => exact ⟨0, by omega, rfl, HS⟩
  case round =>
    clear HS
    obtain ⟨k, hk, rfl, HS⟩ := hrel
    by_cases hlt : k < p.dies.length
    · have x0 := HS.out.box.cell 0
      have x1 := HS.out.box.cell 1
      have x2 := HS.out.box.cell 2
      have x3 := HS.out.box.cell 3
      gi_wp2_with fail
      have hsl : DieSl wr wr.heap.size A p.dies := fun _ => ⟨b, off, HS.out.dies⟩
      refine ⟨trivial, fun _ => by omega, (callsIn_wide.2 (mount_any wr A c p k hlt hsl)).mono ?_⟩
      rintro e W1 ⟨q1, r1, s1, q2, r2, s2, rfl, hM, hb1⟩
      replace HS := Lib.hid (HJ.out _ _ _ HS.out hb1)
      clear x0 x1 x2 x3 hb1 hsl
      obtain ⟨pre, hpre, hj⟩ := HS.out.come
      have hlen : pre.length = k := by have := congrArg List.length hpre; simpa using this
      obtain ⟨fn, tmps, assign, body, hy, hR⟩ := HY.out pre ⟨k, q1, r1, s1, q2, r2, s2⟩ W1 hj ⟨hlt, by rw [Press.die_eq p hlt]; exact hM⟩ (by omega)
      have HP := Lib.hid hpre
      simp only [dieV, Press.die_eq p hlt] at hy
      clear hj hM hpre hlen
      gi_wp2_with fail
      refine ⟨fun _ => (by omega), hR.mono ?_⟩
      rintro e W3 (⟨rfl, hJ3, hk3⟩ | ⟨rfl, hJx3⟩)
      · have HN : Hid (ItS p A c q b off J (k + 1) W3) := by
          obtain ⟨h1, ⟨h2, h3, h4⟩, -⟩ := HS.out
          exact Lib.hid ⟨(show W3.heap[q]? = W1.heap[q]? from hk3.1).trans h1, ⟨h2, lt_of_same hk3.2 h3, h4.same hk3.2⟩, _, by rw [List.map_append, HP.out, List.range_succ]; rfl, hJ3⟩
        clear HS hJ3 hk3 hy hR
        gi_wp2
        go_roundw
        case rel => exact ⟨k + 1, by omega, by go_num, HN⟩
        case measure => simp [intOf]; omega
      · have HN : Hid (∃ pre, List.map DieX.n pre = List.range pre.length ∧ Jx pre W3) := by
          refine Lib.hid ⟨_, ?_, hJx3⟩
          have hlen : pre.length = k := by have := congrArg List.length HP.out; simpa using this
          rw [List.map_append, HP.out, List.length_append, hlen]
          simp [List.range_succ]
        clear HS hJx3 hy hR
        gi_wp2
        refine bodyPost_ret (results_none rfl _ _ _) rfl ?_
        exact ⟨⟨_, rfl⟩, .inr HN.out⟩
    · obtain rfl : k = p.dies.length := by omega
      obtain ⟨pre, hpre, hj⟩ := HS.out.come
      have HN : Hid (∃ ys, List.map DieX.n ys = List.range p.dies.length ∧ J ys wr) := Lib.hid ⟨pre, hpre, hj⟩
      clear hpre hj HS hlt
      gi_wp2
      go_end0
      exact ⟨⟨_, rfl⟩, .inl HN.out⟩

theorem dies_facts (n : Nat) (hn : 2 ≤ n) (q b off c : Nat) (A : Option Addr) (p : Press) (w : World) (hp : p.dies.length ≤ 4) (hq : Blk w q 26 #[.slice A p.dies.length c, .int .i64 p.shrink.lo, .int .i64 p.shrink.hi, .int .i64 p.change]) (hA : A = some ⟨b, off, none⟩ ∧ b < w.heap.size ∧ At3 dieF w b off p.dies) :
    SeqFacts n Try.prog 136 #[.pointer (some ⟨q, 0, none⟩)] (dieV p) (DieFact p) (Kept q b) (fun ys => List.map DieX.n ys = List.range p.dies.length) (fun pre => List.map DieX.n pre = List.range pre.length) p.dies.length w := fun l J Jx W hW hJ _ hY h0 => by
  obtain ⟨h1, h2, h3⟩ := hA
  exact dies_in n hn l q b off c A p J Jx W hp hJ hY ⟨hq.below hW hq.lt, ⟨h1, Nat.lt_of_lt_of_le h2 hW.size, h3.below hW h2⟩, [], rfl, h0⟩
set_option maxHeartbeats 400000 in
theorem mkDies_any (w : World) (A : Option Addr) (c : Nat) (p : Press) : Calls Try.prog 103 #[.agg #[.slice A p.dies.length c, .int .i64 p.shrink.lo, .int .i64 p.shrink.hi, .int .i64 p.change]] w fun e w' => e = .returned (.func (.func 136) #[] #[.pointer (some ⟨w.heap.size, 0, none⟩)]) ∧ w.alloc (.cells #[.slice A p.dies.length c, .int .i64 p.shrink.lo, .int .i64 p.shrink.hi, .int .i64 p.change] 26) = w' := by
  go_enter Try.func103, Try.ntmps103
  go_wp2
  go_ret
  exact ⟨rfl, rfl⟩
end Go.Proofs.Ytdadgljllnkppaa
