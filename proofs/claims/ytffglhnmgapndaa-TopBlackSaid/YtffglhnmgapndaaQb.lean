/- Made by program out of parts: E,F,G,H,I,J,K,S,L,M. -/
import Derived.Test.YtffglhnmgapndaaRows
import Derived.Test.YtffglhnmgapndaaQa
import Derived.Maps.AppendAt
import Derived.Deep.AppendLies
/- gather: what is known of the takes out of each sack, in a map. -/
namespace Go.Proofs.Ytffglhnmgapndaa
open Go.RowKit

def SacksAt (w : World) (b off : Nat) (l : List Sack) : Prop := ∀ i (h : i < l.length), w.cell? ⟨b, off + i * 6, none⟩ = some (.int .i64 l[i].w.lo) ∧ w.cell? ⟨b, off + i * 6 + 1, none⟩ = some (.int .i64 l[i].w.hi)
  ∧ w.cell? ⟨b, off + i * 6 + 2, none⟩ = some (.int .i64 l[i].c.lo) ∧ w.cell? ⟨b, off + i * 6 + 3, none⟩ = some (.int .i64 l[i].c.hi) ∧ w.cell? ⟨b, off + i * 6 + 4, none⟩ = some (.int .i64 l[i].l.lo) ∧ w.cell? ⟨b, off + i * 6 + 5, none⟩ = some (.int .i64 l[i].l.hi)
def TakesAt (w : World) (b off : Nat) (l : List Take) : Prop := ∀ i (h : i < l.length), w.cell? ⟨b, off + i * 3, none⟩ = some (.int .i64 l[i].s) ∧ w.cell? ⟨b, off + i * 3 + 1, none⟩ = some (.int .i64 l[i].m.lo)
  ∧ w.cell? ⟨b, off + i * 3 + 2, none⟩ = some (.int .i64 l[i].m.hi)
/-- A slice of sacks: its value reads as the list. -/
def SackSl (w : World) (B : Nat) (A : Option Addr) (l : List Sack) : Prop := l ≠ [] → ∃ b off, A = some ⟨b, off, none⟩ ∧ b < B ∧ SacksAt w b off l
def TakeSl (w : World) (B : Nat) (A : Option Addr) (l : List Take) : Prop := l ≠ [] → ∃ b off, A = some ⟨b, off, none⟩ ∧ b < B ∧ TakesAt w b off l
theorem SacksAt.below {w w' : World} {b off B : Nat} {l : List Sack} (h : SacksAt w b off l) (hb : Below B w w') (hlt : b < B) : SacksAt w' b off l := fun i hi => by
  obtain ⟨h0, h1, h2, h3, h4, h5⟩ := h i hi
  exact ⟨(hb.cell (p := ⟨b, _, none⟩) hlt).trans h0, (hb.cell (p := ⟨b, _, none⟩) hlt).trans h1, (hb.cell (p := ⟨b, _, none⟩) hlt).trans h2, (hb.cell (p := ⟨b, _, none⟩) hlt).trans h3, (hb.cell (p := ⟨b, _, none⟩) hlt).trans h4, (hb.cell (p := ⟨b, _, none⟩) hlt).trans h5⟩
theorem TakesAt.below {w w' : World} {b off B : Nat} {l : List Take} (h : TakesAt w b off l) (hb : Below B w w') (hlt : b < B) : TakesAt w' b off l := fun i hi => by
  obtain ⟨h0, h1, h2⟩ := h i hi
  exact ⟨(hb.cell (p := ⟨b, _, none⟩) hlt).trans h0, (hb.cell (p := ⟨b, _, none⟩) hlt).trans h1, (hb.cell (p := ⟨b, _, none⟩) hlt).trans h2⟩
theorem SackSl.below {w w' : World} {B : Nat} {A : Option Addr} {l : List Sack} (h : SackSl w B A l) (hb : Below B w w') : SackSl w' B A l := fun hne => by
  obtain ⟨b, off, e, hlt, hs⟩ := h hne
  exact ⟨b, off, e, hlt, hs.below hb hlt⟩
theorem TakeSl.below {w w' : World} {B : Nat} {A : Option Addr} {l : List Take} (h : TakeSl w B A l) (hb : Below B w w') : TakeSl w' B A l := fun hne => by
  obtain ⟨b, off, e, hlt, hs⟩ := h hne
  exact ⟨b, off, e, hlt, hs.below hb hlt⟩
theorem SackSl.more {w : World} {B B' : Nat} {A : Option Addr} {l : List Sack} (h : SackSl w B A l) (hB : B ≤ B') : SackSl w B' A l := fun hne => by
  obtain ⟨b, off, e, hlt, hs⟩ := h hne
  exact ⟨b, off, e, by omega, hs⟩
theorem TakeSl.more {w : World} {B B' : Nat} {A : Option Addr} {l : List Take} (h : TakeSl w B A l) (hB : B ≤ B') : TakeSl w B' A l := fun hne => by
  obtain ⟨b, off, e, hlt, hs⟩ := h hne
  exact ⟨b, off, e, by omega, hs⟩

def heldV (h : Held) : Value := .agg h.vals
theorem upd_updH : ∀ (m : List (Int × Held)) (k : Int) (v : Held), upd m k v = updH m k v
  | [], _, _ => rfl
  | (a, b) :: l, k, v => by unfold upd updH; rw [upd_updH l k v]
theorem pos_oldH (k : Int) : ∀ (m : List (Int × Held)) (i : Nat), ((pos m k i).map (·.2)).getD ⟨⟨⟨0, 0⟩, ⟨0, 0⟩, ⟨0, 0⟩⟩, ⟨0, 0⟩⟩ = oldH m k
  | [], _ => rfl
  | (a, b) :: l, i => by
    unfold pos oldH
    split
    · rfl
    · exact pos_oldH k l (i + 1)
theorem zeroHeld (w : World) : (zeroValue 80).run Try.prog w = .ok (heldV ⟨⟨⟨0, 0⟩, ⟨0, 0⟩, ⟨0, 0⟩⟩, ⟨0, 0⟩⟩) w := by kernel_rfl

theorem look_held {W : World} {r : Nat} {m : List (Int × Held)} (h : MapI heldV W r m) (k : Int) :
    (Instr.lookup 60 (.map (some r)) (.int .i64 k) false).run Try.prog W = .ok (heldV (oldH m k)) W := by
  rw [← pos_oldH k m 0]
  exact run_lookupI h (K := 3) (E := 80) (by kernel_rfl) (by kernel_rfl) _ (zeroHeld W) k
theorem store_held {W : World} {r : Nat} {m : List (Int × Held)} (h : MapI heldV W r m) (k : Int) (v : Held) :
    ∃ W', (Instr.mapUpdate 60 (.map (some r)) (.int .i64 k) (heldV v)).run Try.prog W = .ok () W' ∧ MapI heldV W' r (updH m k v) ∧ W.grownBy W' (some r) ∧ W'.heap.size = W.heap.size := by
  rw [← upd_updH]
  exact run_updateI h (K := 3) (E := 80) (by kernel_rfl) (by kernel_rfl) k v

def RetMap (w : World) (m : List (Int × Held)) (e : Ending) (w' : World) : Prop := ∃ r, e = .returned (.map (some r)) ∧ MapI heldV w' r m ∧ w.heap.size ≤ r ∧ Below w.heap.size w w'

set_option maxRecDepth 100000 in
set_option maxHeartbeats 1000000 in
theorem gather_any (w : World) (A T : Option Addr) (ca ct : Nat) (l : List Sack) (b : List Take) (hl : l.length ≤ 100) (hb : b.length ≤ 100) (hb0 : 0 < b.length) (hA : SackSl w w.heap.size A l) (hT : TakeSl w w.heap.size T b) (hv : ∀ t ∈ b, takeOk l t = true) :
    Calls Try.prog 20 #[.slice A l.length ca, .slice T b.length ct] w (RetMap w (gather l b)) := by
  obtain ⟨tb, to, rfl, htb, hT⟩ := hT (by intro e; subst e; simp at hb0)
  have hl0 : l ≠ [] := by
    intro e; subst e
    have := hv b[0] (List.getElem_mem hb0)
    simp [takeOk, idxB] at this
    omega
  obtain ⟨sb, so, rfl, hsb, hA⟩ := hA hl0
  have HV : Hid (∀ t ∈ b, takeOk l t = true) := hv
  have HA := Lib.hid hA
  have HT := Lib.hid hT
  clear hv hA hT hl0
  have hmm := @run_makeMap Try.prog
  go_enter Try.func20, Try.ntmps20
  go_wp2
  go_loopw [12] (fun i wr => ∃ k : Nat, k ≤ b.length ∧ i = .int .i64 k ∧ MapI heldV wr w.heap.size (gather l (b.take k)) ∧ Below w.heap.size w wr) (fun i _ => b.length - (intOf i).toNat)
  case atStart => exact ⟨0, by omega, rfl, MapI.made w, (Below.refl _ _).alloc (Nat.le_refl _) _⟩
  case round =>
    obtain ⟨k, hk, rfl, hm, hB⟩ := hrel
    by_cases hlt : k < b.length
    · have hrlt := hm.lt
      have hok := HV.out b[k] (List.getElem_mem hlt)
      simp only [takeOk, idxB, Bool.and_eq_true, decide_eq_true_eq, withinB_iff] at hok
      obtain ⟨⟨hs0, hs1⟩, hw1, hw2, hw3⟩ := hok
      obtain ⟨n, hn⟩ := Int.eq_ofNat_of_zero_le hs0
      obtain ⟨c0, c1, c2⟩ := HT.out k hlt
      rw [hn] at hs1 c0
      have hnl : n < l.length := by omega
      obtain ⟨d0, d1, d2, d3, d4, d5⟩ := HA.out n hnl
      rw [← hB.cell (p := ⟨tb, _, none⟩) htb] at c0 c1 c2
      rw [← hB.cell (p := ⟨sb, _, none⟩) hsb] at d0 d1 d2 d3 d4 d5
      have hbd := oldH_bd (100000 * ((b.take k).length : Nat)) (by omega) n (gather l (b.take k)) (fun p hp => (gather_bd l (b.take k) (fun t ht => by
        have := HV.out t (List.mem_of_mem_take ht)
        simp only [takeOk, Bool.and_eq_true] at this
        exact this.2) p hp).2)
      have hlen : (b.take k).length = k := by simp; omega
      rw [hlen] at hbd
      have hgs : Hid (gather l (b.take (k + 1)) = updH (gather l (b.take k)) n ⟨l[n], ⟨(oldH (gather l (b.take k)) n).weight.lo + b[k].m.lo, (oldH (gather l (b.take k)) n).weight.hi + b[k].m.hi⟩⟩) := by
        show _ = _
        rw [List.take_succ_eq_append_getElem hlt, gather_snoc, gstep, hn, sackAt]
        simp [hnl]
      have hlk := look_held (hm.alloc (.cells #[.int .i64 n, .int .i64 b[k].m.lo, .int .i64 b[k].m.hi] 33)) n
      generalize oldH (gather l (b.take k)) n = o at hbd hgs hlk
      obtain ⟨hb1, hb2, hb3⟩ := hbd
      obtain ⟨W', hst, hm', hg, hsz⟩ := store_held ((hm.alloc (.cells #[.int .i64 n, .int .i64 b[k].m.lo, .int .i64 b[k].m.hi] 33)).alloc (.cells #[.int .i64 l[n].w.lo, .int .i64 l[n].w.hi, .int .i64 l[n].c.lo, .int .i64 l[n].c.hi, .int .i64 l[n].l.lo, .int .i64 l[n].l.hi, .int .i64 (o.weight.lo + b[k].m.lo), .int .i64 (o.weight.hi + b[k].m.hi)] 80)) n ⟨l[n], ⟨o.weight.lo + b[k].m.lo, o.weight.hi + b[k].m.hi⟩⟩
      simp only [heldV, Held.vals] at hlk hst
      have hsb1 : sb < wr.heap.size := by have := hB.size; omega
      have hsb2 : sb < wr.heap.size + 1 := by omega
      have HM' := Lib.hid hm'
      have HG := Lib.hid hg
      have HZ := Lib.hid hsz
      clear hm' hg hsz hm
      go_wp2
      go_roundw
      case rel =>
        refine ⟨k + 1, by omega, by go_num, by rw [hgs.out]; exact HM'.out, ?_⟩
        exact Below.grown (((hB.alloc hB.size _).alloc (by have := hB.size; simp; omega) _)) HG.out (by have := hB.size; simp; omega) (fun j e => by cases e; exact Nat.le_refl _)
      case measure => simp [intOf]; omega
    · go_wp2
      obtain rfl : k = b.length := by omega
      go_ret
      exact ⟨_, rfl, by simpa using hm, Nat.le_refl _, hB⟩
end Go.Proofs.Ytffglhnmgapndaa

/- whatAdds and together: the adders of all sacks, and their sum. -/
namespace Go.Proofs.Ytffglhnmgapndaa
open Go.RowKit Go.ChangeMaps

def adderV (h : Held) : Value := .func (.func 32) #[.agg h.vals] #[]
theorem adderInfo : (Try.prog.info? 85).map (fun i => (i.zero, i.size, i.bytes)) = some (some .nilFunc, 1, 8) := by kernel_rfl
theorem adderSl : Try.prog.underlying 58 = some (.slice 85) := by kernel_rfl

/-- The slice of adders that a call made: in some order, all that is held. -/
def AddersAt (w : World) (B : Nat) (v : Value) (hs : List Held) : Prop := w.ownsRow B 85 1 v hs.length (hs.map adderV)
def RetAdders (w : World) (m : List (Int × Held)) (e : Ending) (w' : World) : Prop := ∃ v hs, e = .returned v ∧ AddersAt w' w.heap.size v hs ∧ List.Perm hs (m.map (·.2)) ∧ Below w.heap.size w w'


def heldAtI (m : List (Int × Held)) (i : Nat) : Held := (m.getD i (0, ⟨⟨⟨0, 0⟩, ⟨0, 0⟩, ⟨0, 0⟩⟩, ⟨0, 0⟩⟩)).2
theorem heldAtI_eq {m : List (Int × Held)} {i : Nat} (h : i < m.length) : heldAtI m i = m[i].2 := by simp [heldAtI, h]
theorem all_seen {m : List (Int × Held)} {seen : List Nat} (hn : seen.Nodup) (hb : ∀ i ∈ seen, i < m.length) (ha : ∀ i, i < m.length → i ∈ seen) : List.Perm (seen.map (heldAtI m)) (m.map (·.2)) := by
  have hp : List.Perm seen (List.range m.length) := (List.perm_ext_iff_of_nodup hn List.nodup_range).2 fun i => by simp; exact ⟨hb i, ha i⟩
  have := hp.map (heldAtI m)
  have e : (List.range m.length).map (heldAtI m) = m.map (·.2) := by
    apply List.ext_getElem
    · simp
    · intro i h1 h2
      simp at h1
      simp [heldAtI, h1]
  rwa [e] at this

theorem own_step {W W' : World} {B : Nat} {e : TypeId} {size : Nat} {v : Value} {k : Nat} {xs : List Value} {it : Nat} {a : Option Nat} {b : Nat} {c : Array Nat} {d : Nat} (hr : W.ownsRow B e size v k xs) (hi : W.heap[it]? = some (.mapIter a b c d)) (hg : W.grownBy W' (some it)) :
    W'.ownsRow B e size v k xs := by
  refine hr.kept hg ?_
  rcases hr.2 with ⟨rfl, _⟩ | ⟨g, cap, cur, rfl, _, hgb, _⟩
  · exact .inl rfl
  · refine .inr fun e' => ?_
    have : g = it := by simpa [Value.ownBlock] using e'
    subst this
    rw [hgb] at hi; cases hi

theorem own_ne {W : World} {B : Nat} {e : TypeId} {size : Nat} {v : Value} {k : Nat} {xs : List Value} {it : Nat} {o : Obj} (hr : W.ownsRow B e size v k xs) (hi : W.heap[it]? = some o) (ho : o.isCells = false) : some it ≠ v.ownBlock := by
  rcases hr.2 with ⟨rfl, _⟩ | ⟨g, cap, cur, rfl, _, hgb, _⟩
  · simp [Value.ownBlock]
  · intro e'
    have : it = g := by simpa [Value.ownBlock] using e'
    subst this
    rw [hgb] at hi; cases hi; cases ho
theorem own_ge {W : World} {B : Nat} {e : TypeId} {size : Nat} {v : Value} {k : Nat} {xs : List Value} (hr : W.ownsRow B e size v k xs) : ∀ g, v.ownBlock = some g → B ≤ g := by
  rcases hr.2 with ⟨rfl, _⟩ | ⟨g, cap, cur, rfl, hg, hgb, _⟩
  · simp [Value.ownBlock]
  · intro g' e'
    have : g = g' := by simpa [Value.ownBlock] using e'
    omega

theorem wpList_nextHeld (w : World) {ops : Array Oper} {rest : List Oper} {o : Oper} {a : Act} {Q : Exit → Act → World → Prop} (hg : o.guard = none) (it : Operand) (hop : o.op = Op.next it false) (bm r : Nat) (m : List (Int × Held)) (seen : List Nat)
    (hit : a.eval it = .pointer (some ⟨r, 0, none⟩)) (hr : w.heap[r]? = some (.mapIter (some bm) m.length seen.toArray m.length)) (hb : MapI heldV w bm m)
    (hDone : Hid (∀ i, i < m.length → i ∈ seen) → wpList Try.prog ops Q rest (a.put o.dst (.tuple #[.bool false])) w)
    (hMore : ∀ (i : Nat) (h : Held) (k : Int) (w' : World), Hid (Stepped_ heldV w bm r m seen i w' ∧ heldAtI m i = h) →
      (Instr.entry (.pointer (some ⟨r, 0, none⟩))).run Try.prog w' = .ok (.tuple #[.int .i64 k, .agg #[.int .i64 h.sack.w.lo, .int .i64 h.sack.w.hi, .int .i64 h.sack.c.lo, .int .i64 h.sack.c.hi, .int .i64 h.sack.l.lo, .int .i64 h.sack.l.hi, .int .i64 h.weight.lo, .int .i64 h.weight.hi]]) w' →
      wpList Try.prog ops Q rest (a.put o.dst (.tuple #[.bool true, .int .i64 k, .agg #[.int .i64 h.sack.w.lo, .int .i64 h.sack.w.hi, .int .i64 h.sack.c.lo, .int .i64 h.sack.c.hi, .int .i64 h.sack.l.lo, .int .i64 h.sack.l.hi, .int .i64 h.weight.lo, .int .i64 h.weight.hi]])) w') :
    wpList Try.prog ops Q (o :: rest) a w :=
  wpList_nextI w hg it hop bm r m seen hit hr hb hDone fun i _ w' hs hen => hMore i m[i].2 m[i].1 w' ⟨hs, heldAtI_eq _⟩ hen

set_option maxRecDepth 100000 in
set_option maxHeartbeats 2000000 in
theorem whatAdds_any (w : World) (r : Nat) (m : List (Int × Held)) (hm : MapI heldV w r m) (hl : m.length ≤ 100) :
    Calls Try.prog 19 #[.map (some r)] w (RetAdders w m) := by
  obtain ⟨i0, hi, hz0, hz1, hz2⟩ := info_parts adderInfo
  have hrange := run_range_map (P := Try.prog) w 60 3 80 r _ _ (by kernel_rfl) hm
  have hrlt := hm.lt
  have HM := Lib.hid hm
  clear hm
  go_enter Try.func19, Try.ntmps19
  go_wp2
  clear hrange
  go_loopw [3] (fun v wr => ∃ seen : List Nat, seen.Nodup ∧ (∀ i ∈ seen, i < m.length) ∧ wr.heap[w.heap.size]? = some (.mapIter (some r) m.length seen.toArray m.length) ∧ wr.ownsRow w.heap.size 85 1 v seen.length ((seen.map (heldAtI m)).map adderV) ∧
    MapI heldV wr r m ∧ Below w.heap.size w wr) (fun _ wr => iterLeft m.length w.heap.size wr)
  case atStart => exact ⟨[], List.nodup_nil, by simp, World.alloc_heap_new w _, World.ownsRow_nil _ _ _ _, HM.out.alloc _, (Below.refl _ _).alloc (Nat.le_refl _) _⟩
  case round =>
    obtain ⟨seen, hn, hb, hit, hown, hm, hB⟩ := hrel
    have HN := Lib.hid hn
    have HB := Lib.hid hb
    have HIT := Lib.hid hit
    have HOWN := Lib.hid hown
    clear hn hb hit
    have hlen : seen.length ≤ m.length := nodup_length_le _ _ HN.out HB.out
    go_wp2_with (first | (at_next; refine wpList_nextHeld _ rfl _ rfl r w.heap.size m seen rfl HIT.out hm (fun HD => ?_) (fun i h k w' HS hen => ?_)) | (at_builtin; refine wpList_append_own _ rfl _ _ 58 rfl w.heap.size 85 i0 .nilFunc 1 8 adderSl hi hz0 hz1 hz2 rfl (by decide) _ _ _ rfl (((own_step HOWN.out HIT.out HS.out.1.grown).alloc _).alloc _) ⟨w'.heap.size + 1, 0, none⟩ 1 1 [adderV h] rfl rfl ?c1 ?c2 ?c3 ?c4 ?c5 ?_; rotate_left 5; intro v' w1 hown1 hg1 _; have HO1 := Lib.hid hown1; have HG1 := Lib.hid hg1; clear hown1 hg1))
    · go_ret
      exact ⟨_, _, rfl, by simpa [AddersAt] using HOWN.out, all_seen HN.out HB.out HD.out, hB⟩
    · obtain ⟨⟨s1, s2, s3, s4, s5, s6⟩, s7⟩ := HS.out
      have hS := Array.getElem?_eq_some_iff.1 s3
      have hit1 : w1.heap[w.heap.size]? = some (.mapIter (some r) m.length (seen ++ [i]).toArray m.length) := by
        rw [HG1.out.block w.heap.size (by simp; have := hS.1; omega) (own_ne HOWN.out HIT.out rfl)]
        exact ((Below.heap_alloc _ _ _ (by simp; have := hS.1; omega)).trans (Below.heap_alloc _ _ _ hS.1)).trans s3
      have hnd : (seen ++ [i]).Nodup := by rw [List.nodup_append]; exact ⟨HN.out, by simp, by simp; exact fun a ha e => s2 (e ▸ ha)⟩
      have hbd : ∀ j ∈ seen ++ [i], j < m.length := by
        intro j hj
        simp at hj
        rcases hj with hj | rfl
        · exact HB.out j hj
        · exact s1
      have hle := nodup_length_le _ _ hnd hbd
      simp only [List.length_append, List.length_singleton] at hle
      have H1 := Lib.hid hit1
      have H2 := Lib.hid hbd
      have H3 := Lib.hid hnd
      have H4 := Lib.hid s4
      have H5 := Lib.hid s5
      have H7 := Lib.hid s7
      clear hS hit1 hnd hbd s1 s2 s3 s4 s5 s6 s7
      go_roundw
      case rel => 
        refine ⟨seen ++ [i], H3.out, H2.out, H1.out, ?_, ?_, ?_⟩
        · have := HO1.out
          simp only [List.length_append, List.length_singleton, List.map_append, List.map_cons, List.map_nil, H7.out]
          exact this
        · exact ((H4.out.alloc _).alloc _).kept HG1.out (own_ne HOWN.out hm rfl)
        · have hb1 := hB.grown H5.out hB.size (fun j e => by cases e; exact Nat.le_refl _)
          have hb2 := (hb1.alloc hb1.size (.cells #[.int .i64 h.sack.w.lo, .int .i64 h.sack.w.hi, .int .i64 h.sack.c.lo, .int .i64 h.sack.c.hi, .int .i64 h.sack.l.lo, .int .i64 h.sack.l.hi, .int .i64 h.weight.lo, .int .i64 h.weight.hi] 80))
          have hb3 := hb2.alloc hb2.size (.cells #[.func (.func 32) #[.agg #[.int .i64 h.sack.w.lo, .int .i64 h.sack.w.hi, .int .i64 h.sack.c.lo, .int .i64 h.sack.c.hi, .int .i64 h.sack.l.lo, .int .i64 h.sack.l.hi, .int .i64 h.weight.lo, .int .i64 h.weight.hi]] #[]] 85)
          exact hb3.grown HG1.out hb3.size (own_ge HOWN.out)
      case measure =>
        rw [iterLeft_eq H1.out, iterLeft_eq HIT.out]; simp; omega
    case c1 =>
      intro j u hj
      have := cell_one_new (w'.alloc (.cells #[.int .i64 h.sack.w.lo, .int .i64 h.sack.w.hi, .int .i64 h.sack.c.lo, .int .i64 h.sack.c.hi, .int .i64 h.sack.l.lo, .int .i64 h.sack.l.hi, .int .i64 h.weight.lo, .int .i64 h.weight.hi] 80)) (adderV h) 85 j u hj
      rw [World.size_alloc] at this
      exact this
    case c2 => simp [Value.oneCell', adderV]
    case c3 => unfold maxLen; omega
    case c4 => omega
    case c5 =>
      have h1 := HS.out.1.size
      have h2 := hB.size
      simp only [World.size_alloc]
      omega
end Go.Proofs.Ytffglhnmgapndaa

/- together: the sum of what all sacks add. -/
namespace Go.Proofs.Ytffglhnmgapndaa
open Go.RowKit

/-- A slice of adders that reads as a list. -/
def AdSl (w : World) (B : Nat) (A : Option Addr) (hs : List Held) : Prop := ∃ g, A = some ⟨g, 0, none⟩ ∧ g < B ∧ ∀ i (h : i < hs.length), w.cell? ⟨g, i, none⟩ = some (adderV hs[i])
theorem AdSl.below {w w' : World} {B : Nat} {A : Option Addr} {hs : List Held} (h : AdSl w B A hs) (hb : Below B w w') : AdSl w' B A hs := by
  obtain ⟨g, e, hg, hc⟩ := h
  exact ⟨g, e, hg, fun i hi => (hb.cell (p := ⟨g, i, none⟩) hg).trans (hc i hi)⟩
theorem AdSl.more {w : World} {B B' : Nat} {A : Option Addr} {hs : List Held} (h : AdSl w B A hs) (hB : B ≤ B') : AdSl w B' A hs := by
  obtain ⟨g, e, hg, hc⟩ := h
  exact ⟨g, e, by omega, hc⟩
theorem AdSl.of_own {w : World} {B : Nat} {v : Value} {hs : List Held} (h : AddersAt w B v hs) (hne : 0 < hs.length) : ∃ A c, v = .slice A hs.length c ∧ AdSl w w.heap.size A hs := by
  have h : w.ownsRow B 85 1 v hs.length (hs.map adderV) := h
  obtain ⟨g, cap, hv, _, hlt⟩ := World.ownsRow.form h hne
  subst hv
  refine ⟨_, cap, rfl, g, rfl, hlt, fun i hi => ?_⟩
  have := World.ownsRow.cells h (g := g) rfl i (adderV hs[i]) (by simp [hi])
  have e : (⟨g, 0, none⟩ : Addr).add i = ⟨g, i, none⟩ := by
    unfold Addr.add
    split
    · rename_i h0; rw [h0]
    · simp
  rwa [e] at this

theorem IsMeas.at_ {w w' : World} {v : Value} {g : St → Int} (h : IsMeas w w.heap.size v g) (hb : Below w.heap.size w w') : IsMeas w' w'.heap.size v g := by
  obtain ⟨k, cap, rfl, he, hc⟩ := h
  exact ⟨k, cap, rfl, he, fun W t hW ht => hc W t (hb.trans (hW.mono hb.size)) ht⟩

theorem together_snoc (l : List Held) (h : Held) (g : St → Int) : together (l ++ [h]) g = (together l g).plus (h.adds g) := by simp [together]
theorem together_bd {g : St → Int} {B : Int} (hB : B ≤ 9000000000000000000) (hg : ∀ t : St, t.ok → -B ≤ g t ∧ g t ≤ B) (l : List Held) (hl : ∀ h ∈ l, h.ok) :
    -(B * l.length) ≤ (together l g).least ∧ (together l g).least ≤ B * l.length ∧ -(B * l.length) ≤ (together l g).most ∧ (together l g).most ≤ B * l.length := by
  suffices H : ∀ (l : List Held) (r : Reach) (n : Nat), (∀ h ∈ l, h.ok) → (-(B * n) ≤ r.least ∧ r.least ≤ B * n ∧ -(B * n) ≤ r.most ∧ r.most ≤ B * n) →
      -(B * (n + l.length : Nat)) ≤ (l.foldl (fun r h => r.plus (h.adds g)) r).least ∧ (l.foldl (fun r h => r.plus (h.adds g)) r).least ≤ B * (n + l.length : Nat) ∧ -(B * (n + l.length : Nat)) ≤ (l.foldl (fun r h => r.plus (h.adds g)) r).most ∧ (l.foldl (fun r h => r.plus (h.adds g)) r).most ≤ B * (n + l.length : Nat) by
    have := H l ⟨0, 0⟩ 0 hl (by simp)
    simpa [together] using this
  intro l
  induction l with
  | nil => intro r n _ h; simpa using h
  | cons a l ih =>
    intro r n hl h
    have h1 := adds_bd (hl a (by simp)) hg hB
    have := ih (r.plus (a.adds g)) (n + 1) (fun x hx => hl x (by simp [hx])) (by
      simp only [Reach.plus]
      have e : B * ((n + 1 : Nat) : Int) = B * n + B := by rw [Int.natCast_add, Int.mul_add]; simp
      omega)
    have e2 : n + 1 + l.length = n + (a :: l).length := by simp; omega
    rw [e2] at this
    exact this

set_option maxRecDepth 100000 in
set_option maxHeartbeats 2000000 in
theorem together_any (w : World) (A : Option Addr) (c : Nat) (hs : List Held) (v : Value) (g : St → Int) (hA : AdSl w w.heap.size A hs) (hm : IsMeas w w.heap.size v g) (hok : ∀ h ∈ hs, h.ok) (hl : hs.length ≤ 8)
    (hg : ∀ t : St, t.ok → -800000000000000000 ≤ g t ∧ g t ≤ 800000000000000000) :
    Calls Try.prog 22 #[.slice A hs.length c, v] w (Ret (.agg #[.int .i64 (together hs g).least, .int .i64 (together hs g).most]) w) := by
  obtain ⟨ag, rfl, hag, hcell⟩ := hA
  have HC := Lib.hid hcell
  have HM := Lib.hid hm
  have HO := Lib.hid hok
  have HG := Lib.hid hg
  clear hcell hm hok hg
  go_enter Try.func22, Try.ntmps22
  go_wp2
  have b0 := (Blk.new w 68 #[.int .i64 0, .int .i64 0]).alloc (.cells #[.int .i64 0, .int .i64 0] 68)
  have b1 := Blk.new (w.alloc (.cells #[.int .i64 0, .int .i64 0] 68)) 68 #[.int .i64 0, .int .i64 0]
  have b2 : Below w.heap.size w ((w.alloc (.cells #[.int .i64 0, .int .i64 0] 68)).alloc (.cells #[.int .i64 0, .int .i64 0] 68)) := by
    repeat (first | exact Below.refl _ _ | assumption | refine Below.drew ?_ | refine Below.alloc ?_ (by first | omega | (simp only [World.size_alloc]; omega) | simp) _ | refine Below.setCell ?_ (by first | omega | (simp only [World.size_alloc]; omega) | simp) _)
  rw [World.size_alloc] at b1
  generalize World.alloc (World.alloc w _) _ = W0 at b0 b1 b2 ⊢
  go_loopw [11] (fun i wr => ∃ k : Nat, k ≤ hs.length ∧ i = .int .i64 k ∧ Blk wr w.heap.size 68 #[.int .i64 0, .int .i64 0] ∧
    Blk wr (w.heap.size + 1) 68 #[.int .i64 (together (hs.take k) g).least, .int .i64 (together (hs.take k) g).most] ∧ Below w.heap.size w wr) (fun i _ => hs.length - (intOf i).toNat)
  case atStart => exact ⟨0, by omega, rfl, b0, b1, b2⟩
  case round =>
    clear b0 b1 b2
    obtain ⟨k, hk, rfl, b0, b1, hB⟩ := hrel
    by_cases hlt : k < hs.length
    · have c0 := HC.out k hlt
      rw [← hB.cell (p := ⟨ag, _, none⟩) hag] at c0
      unfold adderV Held.vals at c0
      have HA := Lib.hid (adds_any hs[k] v g wr (HO.out _ (List.getElem_mem hlt)) (HM.out.at_ hB))
      have HT : Hid (together (hs.take (k + 1)) g = (together (hs.take k) g).plus (hs[k].adds g)) := by
        show _ = _
        rw [List.take_succ_eq_append_getElem hlt, together_snoc]
      have hbd1 := together_bd (by omega) HG.out (hs.take k) (fun h hh => HO.out h (List.mem_of_mem_take hh))
      have hbd2 := adds_bd (HO.out _ (List.getElem_mem hlt)) HG.out (by omega)
      have hlen : (hs.take k).length = k := by simp; omega
      rw [hlen] at hbd1
      clear hlen
      obtain ⟨r1, r2, r3, r4⟩ := hbd1
      obtain ⟨r5, r6, r7, r8⟩ := hbd2
      go_wp2_with (go_at_call 32; refine HA.out.mono ?_; rintro e W1 ⟨rfl, hb1⟩; have HB1 := Lib.hid hb1; have B0 := Lib.hid (b0.below hb1 b0.lt); have B1 := Lib.hid (b1.below hb1 b1.lt); have l1 := B1.out.lt; have d0 := B1.out.cell 0; have d1 := B1.out.cell 1; have f0 := B1.out.frozen 0; have f1 := B1.out.frozen 1; clear hb1 b0 b1 c0)
      go_roundw
      case rel =>
        refine ⟨k + 1, by omega, by go_num, ?_, ?_, ?_⟩
        · exact ((B0.out.far (p := ⟨w.heap.size + 1, 0, none⟩) (by simp) _).far (p := ⟨w.heap.size + 1, 1, none⟩) (by simp) _).alloc _
        · rw [HT.out]
          exact ((B1.out.set_ 0 _).set_ 1 _).alloc _
        · have h1 := hB.trans (HB1.out.mono hB.size)
          have h2 := (h1.setCell (p := ⟨w.heap.size + 1, 0, none⟩) (by simp) (.int .i64 ((together (List.take k hs) g).least + (hs[k].adds g).least))).setCell (p := ⟨w.heap.size + 1, 1, none⟩) (by simp) (.int .i64 ((together (List.take k hs) g).most + (hs[k].adds g).most))
          exact h2.alloc h2.size _
      case measure => simp [intOf]; omega
    · obtain rfl : k = hs.length := by omega
      rw [List.take_length] at b1
      have l1 := b1.lt
      have d0 := b1.cell 0
      have d1 := b1.cell 1
      have e0 := b0.cell 0
      have e1 := b0.cell 1
      have f0 := b0.frozen 0
      have f1 := b0.frozen 1
      clear b0 b1
      go_wp2
      exact bodyPost_ret (v := .agg #[.int .i64 (together hs g).least, .int .i64 (together hs g).most]) (by simp [results, Try.results22, go_sem, e0, e1]) rfl ⟨rfl, (hB.setCell (p := ⟨w.heap.size, 0, none⟩) (by simp) _).setCell (p := ⟨w.heap.size, 1, none⟩) (by simp) _⟩
end Go.Proofs.Ytffglhnmgapndaa

/- Validity of sacks and batches. -/
namespace Go.Proofs.Ytffglhnmgapndaa
open Go.RowKit


theorem sacksOk_no {l : List Sack} {k : Nat} (h : k < l.length) (hk : sackOk l[k] = false) : sacksOk l = false := by
  have : l.all sackOk = false := by
    rw [List.all_eq_false]
    exact ⟨l[k], List.getElem_mem h, by simp [hk]⟩
  simp [sacksOk, this]

set_option maxHeartbeats 1000000 in
theorem validSacks_any (w : World) (A : Option Addr) (c : Nat) (l : List Sack) (hl : l.length ≤ 100) (hA : SackSl w w.heap.size A l) :
    Calls Try.prog 29 #[.slice A l.length c] w (Ret (.bool (sacksOk l)) w) := by
  have HS := Lib.hid hA
  clear hA
  by_cases h8 : 8 < l.length
  · have hr : sacksOk l = false := by simp [sacksOk]; omega
    have HR := Lib.hid hr
    clear hr
    go_enter Try.func29, Try.ntmps29
    go_wp2
    go_ret
    exact ⟨ret_bool HR.out.symm, Below.refl _ _⟩
  have h8' : l.length ≤ 8 := by omega
  clear h8
  go_enter Try.func29, Try.ntmps29
  go_wp2
  go_loopw [2, 10] (fun q i wr => ∃ k : Nat, k ≤ l.length ∧ i = .int .i64 k ∧ q = .bool false ∧ (l.take k).all sackOk = true ∧ Below w.heap.size w wr) (fun _ i _ => l.length - (intOf i).toNat)
  case atStart => exact ⟨0, by omega, rfl, rfl, by simp, Below.refl _ _⟩
  case round =>
    obtain ⟨k, hk, rfl, rfl, hall, hB⟩ := hrel
    have HA := Lib.hid hall
    clear hall
    by_cases hlt : k < l.length
    · obtain ⟨b, off, rfl, hb, hs⟩ := HS.out (by intro e; subst e; simp at hlt)
      obtain ⟨c0, c1, c2, c3, c4, c5⟩ := hs k hlt
      clear hs
      rw [← hB.cell (p := ⟨b, _, none⟩) hb] at c0 c1 c2 c3 c4 c5
      have hok : Hid (sackOk l[k] = (withinB ⟨l[k].w.lo, l[k].w.hi⟩ 0 900 && withinB ⟨l[k].c.lo, l[k].c.hi⟩ 0 1000 && withinB ⟨l[k].l.lo, l[k].l.hi⟩ 0 900)) := rfl
      have hsz := hB.size
      have hW := hB.alloc hB.size (.cells #[.int .i64 l[k].w.lo, .int .i64 l[k].w.hi, .int .i64 l[k].c.lo, .int .i64 l[k].c.hi, .int .i64 l[k].l.lo, .int .i64 l[k].l.hi] 48)
      have H8 : Hid (sackOk l[k] = false → Ending.returned (.bool false) = Ending.returned (.bool (sacksOk l))) := fun h => by rw [sacksOk_no hlt h]
      clear hB
      cases hx0 : withinB ⟨l[k].w.lo, l[k].w.hi⟩ 0 900 with
      | false =>
        go_wp2_with (go_at_call 31; refine (within_any _ _ _ _ _).mono ?_; rintro e w' ⟨rfl, hb'⟩; obtain ⟨hc', hf'⟩ := bcell hb'; have hz' : wr.heap.size < w'.heap.size := (by have h0 := hb'.size; (try simp only [World.size_alloc] at h0); omega); replace hW := hW.trans (hb'.mono (by (try simp only [World.size_alloc]); omega)); clear hb')
        go_ret
        exact ⟨H8.out (by rw [hok.out, hx0]; rfl), hW⟩
      | true =>
        cases hx1 : withinB ⟨l[k].c.lo, l[k].c.hi⟩ 0 1000 with
        | false =>
          go_wp2_with (go_at_call 31; refine (within_any _ _ _ _ _).mono ?_; rintro e w' ⟨rfl, hb'⟩; obtain ⟨hc', hf'⟩ := bcell hb'; have hz' : wr.heap.size < w'.heap.size := (by have h0 := hb'.size; (try simp only [World.size_alloc] at h0); omega); replace hW := hW.trans (hb'.mono (by (try simp only [World.size_alloc]); omega)); clear hb')
          go_ret
          exact ⟨H8.out (by rw [hok.out, hx0, hx1]; rfl), hW⟩
        | true =>
          cases hx2 : withinB ⟨l[k].l.lo, l[k].l.hi⟩ 0 900 with
          | false =>
            go_wp2_with (go_at_call 31; refine (within_any _ _ _ _ _).mono ?_; rintro e w' ⟨rfl, hb'⟩; obtain ⟨hc', hf'⟩ := bcell hb'; have hz' : wr.heap.size < w'.heap.size := (by have h0 := hb'.size; (try simp only [World.size_alloc] at h0); omega); replace hW := hW.trans (hb'.mono (by (try simp only [World.size_alloc]); omega)); clear hb')
            go_ret
            exact ⟨H8.out (by rw [hok.out, hx0, hx1, hx2]; rfl), hW⟩
          | true =>
            have HN : Hid ((l.take (k + 1)).all sackOk = true) := by
              show _ = _
              rw [List.take_succ_eq_append_getElem hlt, List.all_append, HA.out, List.all_cons, hok.out, hx0, hx1, hx2]; rfl
            go_wp2_with (go_at_call 31; refine (within_any _ _ _ _ _).mono ?_; rintro e w' ⟨rfl, hb'⟩; obtain ⟨hc', hf'⟩ := bcell hb'; have hz' : wr.heap.size < w'.heap.size := (by have h0 := hb'.size; (try simp only [World.size_alloc] at h0); omega); replace hW := hW.trans (hb'.mono (by (try simp only [World.size_alloc]); omega)); clear hb')
            go_roundw
            case rel => exact ⟨k + 1, by omega, by go_num, rfl, HN.out, hW⟩
            case measure => simp [intOf]; omega
    · go_wp2
      go_ret
      obtain rfl : k = l.length := by omega
      have h1 := HA.out
      rw [List.take_length] at h1
      exact ⟨ret_bool (by simp [sacksOk, h1]; omega), hB⟩
end Go.Proofs.Ytffglhnmgapndaa

/- Validity of a batch. -/
namespace Go.Proofs.Ytffglhnmgapndaa
open Go.RowKit

theorem validB_no {l : List Sack} {b : List Take} {k : Nat} (h : k < b.length) (hk : takeOk l b[k] = false) : validB l b = false := by
  have : b.all (takeOk l) = false := by
    rw [List.all_eq_false]
    exact ⟨b[k], List.getElem_mem h, by simp [hk]⟩
  simp [validB, this]


set_option maxHeartbeats 1000000 in
theorem valid_any (w : World) (A T : Option Addr) (c d : Nat) (l : List Sack) (b : List Take) (hl : l.length ≤ 100) (hb : b.length ≤ 100) (hA : SackSl w w.heap.size A l) (hT : TakeSl w w.heap.size T b) :
    Calls Try.prog 18 #[.slice A l.length c, .slice T b.length d] w (Ret (.bool (validB l b)) w) := by
  have HA := Lib.hid hA
  have HS := Lib.hid hT
  clear hA hT
  cases hx : sacksOk l with
  | false =>
    go_enter Try.func18, Try.ntmps18
    go_wp2_with (go_at_call 29; refine (validSacks_any _ _ _ _ hl HA.out).mono ?_; rintro e w1 ⟨rfl, hb1⟩; have hW := hb1; clear hb1)
    go_ret
    exact ⟨ret_bool (by simp [validB, hx]), hW⟩
  | true =>
    by_cases h1 : b.length < 1
    · have hr : Hid (validB l b = false) := by show _ = _; simp [validB]; omega
      go_enter Try.func18, Try.ntmps18
      go_wp2_with (go_at_call 29; refine (validSacks_any _ _ _ _ hl HA.out).mono ?_; rintro e w1 ⟨rfl, hb1⟩; have hW := hb1; clear hb1)
      go_ret
      exact ⟨ret_bool hr.out.symm, hW⟩
    · have h1' : 1 ≤ b.length := by omega
      clear h1
      by_cases h8 : 8 < b.length
      · have hr : Hid (validB l b = false) := by show _ = _; simp [validB]; omega
        go_enter Try.func18, Try.ntmps18
        go_wp2_with (go_at_call 29; refine (validSacks_any _ _ _ _ hl HA.out).mono ?_; rintro e w1 ⟨rfl, hb1⟩; have hW := hb1; clear hb1)
        go_ret
        exact ⟨ret_bool hr.out.symm, hW⟩
      · have h8' : b.length ≤ 8 := by omega
        clear h8
        go_enter Try.func18, Try.ntmps18
        go_wp2_with (go_at_call 29; refine (validSacks_any _ _ _ _ hl HA.out).mono ?_; rintro e w1 ⟨rfl, hb1⟩; have hW := hb1; clear hb1)
        go_loopw [4, 22] (fun q i wr => ∃ k : Nat, k ≤ b.length ∧ i = .int .i64 k ∧ q = .bool false ∧ (b.take k).all (takeOk l) = true ∧ Below w.heap.size w wr) (fun _ i _ => b.length - (intOf i).toNat)
        case atStart => exact ⟨0, by omega, rfl, rfl, by simp, hW⟩
        case round =>
          clear hW
          obtain ⟨k, hk, rfl, rfl, hall, hB⟩ := hrel
          have HL := Lib.hid hall
          clear hall
          by_cases hlt : k < b.length
          · obtain ⟨bb, off, rfl, hbb, hs⟩ := HS.out (by intro e; subst e; simp at hlt)
            obtain ⟨c0, c1, c2⟩ := hs k hlt
            clear hs
            rw [← hB.cell (p := ⟨bb, _, none⟩) hbb] at c0 c1 c2
            have hok : Hid (takeOk l b[k] = (decide (0 ≤ b[k].s ∧ b[k].s < l.length) && withinB ⟨b[k].m.lo, b[k].m.hi⟩ 1 100000)) := rfl
            have hsz := hB.size
            have hW := hB.alloc hB.size (.cells #[.int .i64 b[k].s, .int .i64 b[k].m.lo, .int .i64 b[k].m.hi] 33)
            have H8 : Hid (takeOk l b[k] = false → Ending.returned (.bool false) = Ending.returned (.bool (validB l b))) := fun h => by rw [validB_no hlt h]
            clear hB
            generalize hdi : decide (0 ≤ b[k].s ∧ b[k].s < l.length) = di at hok
            have HD := Lib.hid hdi
            clear hdi
            cases hx1 : di with
            | false =>
              subst hx1
              go_wp2_with (first | (go_at_call 30; refine (isIndex_any _ _ _ _ _).mono ?_; rw [HD.out]; rintro e w' ⟨rfl, rfl⟩) | (go_at_call 31; refine (within_any _ _ _ _ _).mono ?_; rintro e w' ⟨rfl, hb'⟩; obtain ⟨hc', hf'⟩ := bcell hb'; have hz' : wr.heap.size < w'.heap.size := (by have h0 := hb'.size; (try simp only [World.size_alloc] at h0); omega); replace hW := hW.trans (hb'.mono (by (try simp only [World.size_alloc]); omega)); clear hb'))
              go_ret
              exact ⟨H8.out (by rw [hok.out]; rfl), hW⟩
            | true =>
              subst hx1
              cases hx2 : withinB ⟨b[k].m.lo, b[k].m.hi⟩ 1 100000 with
              | false =>
                go_wp2_with (first | (go_at_call 30; refine (isIndex_any _ _ _ _ _).mono ?_; rw [HD.out]; rintro e w' ⟨rfl, rfl⟩) | (go_at_call 31; refine (within_any _ _ _ _ _).mono ?_; rintro e w' ⟨rfl, hb'⟩; obtain ⟨hc', hf'⟩ := bcell hb'; have hz' : wr.heap.size < w'.heap.size := (by have h0 := hb'.size; (try simp only [World.size_alloc] at h0); omega); replace hW := hW.trans (hb'.mono (by (try simp only [World.size_alloc]); omega)); clear hb'))
                go_ret
                exact ⟨H8.out (by rw [hok.out, hx2]; rfl), hW⟩
              | true =>
                have HN : Hid ((b.take (k + 1)).all (takeOk l) = true) := by
                  show _ = _
                  rw [List.take_succ_eq_append_getElem hlt, List.all_append, HL.out, List.all_cons, hok.out, hx2]; rfl
                go_wp2_with (first | (go_at_call 30; refine (isIndex_any _ _ _ _ _).mono ?_; rw [HD.out]; rintro e w' ⟨rfl, rfl⟩) | (go_at_call 31; refine (within_any _ _ _ _ _).mono ?_; rintro e w' ⟨rfl, hb'⟩; obtain ⟨hc', hf'⟩ := bcell hb'; have hz' : wr.heap.size < w'.heap.size := (by have h0 := hb'.size; (try simp only [World.size_alloc] at h0); omega); replace hW := hW.trans (hb'.mono (by (try simp only [World.size_alloc]); omega)); clear hb'))
                go_roundw
                case rel => exact ⟨k + 1, by omega, by go_num, rfl, HN.out, hW⟩
                case measure => simp [intOf]; omega
          · go_wp2
            go_ret
            obtain rfl : k = b.length := by omega
            have h1 := HL.out
            rw [List.take_length] at h1
            exact ⟨ret_bool (by simp [validB, hx, h1]; omega), hB⟩
end Go.Proofs.Ytffglhnmgapndaa

/- Weigh. -/
namespace Go.Proofs.Ytffglhnmgapndaa
open Go.RowKit Go.Shelf

theorem together_perm {g : St → Int} {l l' : List Held} (h : List.Perm l l') : together l g = together l' g := by
  unfold together
  refine h.foldl_eq' (fun x _ y _ z => ?_) _
  simp only [Reach.plus, Reach.mk.injEq]
  omega

theorem isMeas_water (w : World) (B : Nat) : IsMeas w B (.func (.func 33) #[] #[]) St.water :=
  ⟨_, #[], rfl, enters_of Try.func33 (by kernel_rfl) rfl, fun W t _ ht => water_any _ _ _ _ W ht⟩
theorem isMeas_carbon (w : World) (B : Nat) : IsMeas w B (.func (.func 34) #[] #[]) St.carbon :=
  ⟨_, #[], rfl, enters_of Try.func34 (by kernel_rfl) rfl, fun W t _ ht => carbon_any _ _ _ _ W ht⟩
theorem isMeas_smoke (w : World) (B : Nat) : IsMeas w B (.func (.func 35) #[] #[]) St.smoke :=
  ⟨_, #[], rfl, enters_of Try.func35 (by kernel_rfl) rfl, fun W t _ ht => smoke_any _ _ _ _ W ht⟩
theorem isMeas_clay (w : World) (B : Nat) : IsMeas w B (.func (.func 36) #[] #[]) St.clay :=
  ⟨_, #[], rfl, enters_of Try.func36 (by kernel_rfl) rfl, fun W t _ ht => clay_any _ _ _ _ W ht⟩
theorem isMeas_lead (w : World) (B : Nat) : IsMeas w B (.func (.func 37) #[] #[]) St.lead :=
  ⟨_, #[], rfl, enters_of Try.func37 (by kernel_rfl) rfl, fun W t _ ht => lead_any _ _ _ _ W ht⟩
theorem isMeas_over (w : World) (q : Nat) (n : Int) (hn : 0 ≤ n) (hn' : n ≤ 1000) (hq : w.cell? ⟨q, 0, none⟩ = some (.int .i64 n)) (hlt : q < w.heap.size) :
    IsMeas w w.heap.size (.func (.func 40) #[] #[.pointer (some ⟨q, 0, none⟩)]) (carbonOver n) :=
  ⟨_, #[.pointer (some ⟨q, 0, none⟩)], rfl, enters_of Try.func40 (by kernel_rfl) rfl, fun W t hW ht => carbonOver_any _ _ _ _ n q W ht hn hn' ((hW.cell (p := ⟨q, 0, none⟩) hlt).trans hq) (by have := hW.size; omega)⟩
def partG : Nat → St → Int
  | 0 => St.water
  | 1 => St.carbon
  | 2 => St.smoke
  | 3 => St.clay
  | _ => St.lead
def partV : Nat → Value
  | 0 => .func (.func 33) #[] #[]
  | 1 => .func (.func 34) #[] #[]
  | 2 => .func (.func 35) #[] #[]
  | 3 => .func (.func 36) #[] #[]
  | _ => .func (.func 37) #[] #[]
theorem isMeas_part (w : World) (B k : Nat) : IsMeas w B (partV k) (partG k) := by
  match k with
  | 0 => exact isMeas_water w B
  | 1 => exact isMeas_carbon w B
  | 2 => exact isMeas_smoke w B
  | 3 => exact isMeas_clay w B
  | n + 4 => exact isMeas_lead w B
theorem partG_bd (k : Nat) : ∀ t : St, t.ok → -800000000000000000 ≤ partG k t ∧ partG k t ≤ 800000000000000000 := by
  intro t h
  have h1 := St.water_bd h
  have h2 := St.carbon_bd h
  have h3 := St.smoke_bd h
  have h4 := St.clay_bd h
  have h5 := St.lead_bd h
  unfold partG
  split <;> omega

def gramsOf (r : Reach) : Span := ⟨r.least / 1000000000, cdiv r.most 1000000000⟩
def heldsOf (l : List Sack) (b : List Take) : List Held := (gather l b).map (·.2)
def partOf (l : List Sack) (b : List Take) (k : Nat) : Span := gramsOf (together (heldsOf l b) (partG k))

theorem validB_take {l : List Sack} {b : List Take} (h : validB l b = true) : ∀ t ∈ b, takeOk l t = true := by
  simp only [validB, Bool.and_eq_true] at h
  exact fun t ht => List.all_eq_true.1 h.2 t ht
theorem validB_len {l : List Sack} {b : List Take} (h : validB l b = true) : 1 ≤ b.length ∧ b.length ≤ 8 := by
  simp only [validB, Bool.and_eq_true, decide_eq_true_eq] at h
  exact h.1.2
theorem updH_len (k : Int) (v : Held) : ∀ m : List (Int × Held), m.length ≤ (updH m k v).length ∧ (updH m k v).length ≤ m.length + 1 ∧ 0 < (updH m k v).length
  | [] => by simp [updH]
  | (a, b) :: l => by
    have := updH_len k v l
    unfold updH
    split <;> simp <;> omega
theorem gather_len (l : List Sack) : ∀ (b : List Take), (gather l b).length ≤ b.length ∧ (b ≠ [] → 0 < (gather l b).length) := by
  intro b
  suffices H : ∀ (b : List Take) (m : List (Int × Held)), m.length ≤ (b.foldl (gstep l) m).length ∧ (b.foldl (gstep l) m).length ≤ m.length + b.length ∧ (b ≠ [] → 0 < (b.foldl (gstep l) m).length) by
    have := H b []
    exact ⟨by simpa [gather] using this.2.1, this.2.2⟩
  intro b
  induction b with
  | nil => intro m; simp
  | cons t b ih =>
    intro m
    have h1 := ih (gstep l m t)
    have h2 := updH_len t.s ⟨sackAt l t.s, ⟨(oldH m t.s).weight.lo + t.m.lo, (oldH m t.s).weight.hi + t.m.hi⟩⟩ m
    have h3 : (gstep l m t).length = (updH m t.s ⟨sackAt l t.s, ⟨(oldH m t.s).weight.lo + t.m.lo, (oldH m t.s).weight.hi + t.m.hi⟩⟩).length := rfl
    simp only [List.foldl_cons, List.length_cons]
    refine ⟨by omega, by omega, fun _ => by omega⟩

/-- Keys of what was gathered are sacks' numbers. -/
theorem gather_key (l : List Sack) (b : List Take) : ∀ p ∈ gather l b, ∃ t ∈ b, t.s = p.1 := by
  suffices H : ∀ (b : List Take) (m : List (Int × Held)), ∀ p ∈ b.foldl (gstep l) m, (∃ t ∈ b, t.s = p.1) ∨ p ∈ m by
    intro p hp
    rcases H b [] p hp with h | h
    · exact h
    · simp at h
  intro b
  induction b with
  | nil => intro m p hp; exact .inr hp
  | cons t b ih =>
    intro m p hp
    rcases ih _ p hp with ⟨u, hu, he⟩ | h
    · exact .inl ⟨u, by simp [hu], he⟩
    · rcases mem_updH _ _ _ _ h with rfl | h
      · exact .inl ⟨t, by simp, rfl⟩
      · exact .inr h

theorem helds_ok {l : List Sack} {b : List Take} (h : validB l b = true) : ∀ x ∈ heldsOf l b, x.ok := by
  intro x hx
  simp only [heldsOf, List.mem_map] at hx
  obtain ⟨p, hp, rfl⟩ := hx
  have h1 := gather_bd l b (fun t ht => by have := validB_take h t ht; simp only [takeOk, Bool.and_eq_true] at this; exact this.2) p hp
  obtain ⟨t, ht, he⟩ := gather_key l b p hp
  have h2 := validB_take h t ht
  have h3 := validB_len h
  simp only [takeOk, idxB, Bool.and_eq_true, decide_eq_true_eq] at h2
  refine ⟨?_, h1.2.1, h1.2.2.1, by omega⟩
  rw [h1.1, ← he, sackAt]
  simp only [validB, sacksOk, Bool.and_eq_true] at h
  have h4 := h.1.1.2
  have hlt : t.s.toNat < l.length := by omega
  rw [List.getD_eq_getElem?_getD, List.getElem?_eq_getElem hlt]
  exact List.all_eq_true.1 h4 _ (List.getElem_mem hlt)
theorem helds_len {l : List Sack} {b : List Take} (h : validB l b = true) : 0 < (heldsOf l b).length ∧ (heldsOf l b).length ≤ 8 := by
  have h1 := gather_len l b
  have h2 := validB_len h
  have h3 := h1.2 (by intro e; subst e; simp at h2)
  simp only [heldsOf, List.length_map]
  omega
end Go.Proofs.Ytffglhnmgapndaa

/- Weigh: the walk. -/
namespace Go.Proofs.Ytffglhnmgapndaa
open Go.RowKit Go.Shelf


theorem ri5 (k : Nat) (hk : k < 5) (w : World) : (Instr.index 65 (.agg #[partV 0, partV 1, partV 2, partV 3, partV 4]) (.int .i64 (k : Int))).run Try.prog w = .ok (partV k) w := by
  have h0 : ∀ w, (Instr.index 65 (.agg #[partV 0, partV 1, partV 2, partV 3, partV 4]) (.int .i64 ((0 : Nat) : Int))).run Try.prog w = .ok (partV 0) w := fun w => by kernel_rfl
  have h1 : ∀ w, (Instr.index 65 (.agg #[partV 0, partV 1, partV 2, partV 3, partV 4]) (.int .i64 ((1 : Nat) : Int))).run Try.prog w = .ok (partV 1) w := fun w => by kernel_rfl
  have h2 : ∀ w, (Instr.index 65 (.agg #[partV 0, partV 1, partV 2, partV 3, partV 4]) (.int .i64 ((2 : Nat) : Int))).run Try.prog w = .ok (partV 2) w := fun w => by kernel_rfl
  have h3 : ∀ w, (Instr.index 65 (.agg #[partV 0, partV 1, partV 2, partV 3, partV 4]) (.int .i64 ((3 : Nat) : Int))).run Try.prog w = .ok (partV 3) w := fun w => by kernel_rfl
  have h4 : ∀ w, (Instr.index 65 (.agg #[partV 0, partV 1, partV 2, partV 3, partV 4]) (.int .i64 ((4 : Nat) : Int))).run Try.prog w = .ok (partV 4) w := fun w => by kernel_rfl
  have h : k = 0 ∨ k = 1 ∨ k = 2 ∨ k = 3 ∨ k = 4 := by omega
  rcases h with rfl | rfl | rfl | rfl | rfl
  · exact h0 w
  · exact h1 w
  · exact h2 w
  · exact h3 w
  · exact h4 w

/-- The five spans of which the first k have been found. -/
def spansTo (f : Nat → Span) (k : Nat) : Array Value := Array.ofFn (n := 10) fun j => if j.1 / 2 < k then .int .i64 (if j.1 % 2 = 0 then (f (j.1 / 2)).lo else (f (j.1 / 2)).hi) else .int .i64 0
theorem spansTo_next (f : Nat → Span) (k : Nat) (hk : k < 5) : ((spansTo f k).setIfInBounds (k * 2) (.int .i64 (f k).lo)).setIfInBounds (k * 2 + 1) (.int .i64 (f k).hi) = spansTo f (k + 1) := by
  have h : k = 0 ∨ k = 1 ∨ k = 2 ∨ k = 3 ∨ k = 4 := by omega
  rcases h with rfl | rfl | rfl | rfl | rfl <;> rfl

theorem spansTo_at (f : Nat → Span) (k : Nat) (hk : k < 5) : (spansTo f k)[k * 2]? = some (.int .i64 0) ∧ (spansTo f k)[k * 2 + 1]? = some (.int .i64 0) := by
  have h : k = 0 ∨ k = 1 ∨ k = 2 ∨ k = 3 ∨ k = 4 := by omega
  rcases h with rfl | rfl | rfl | rfl | rfl <;> exact ⟨rfl, rfl⟩
def spanZ : Array Value := #[.int .i64 0, .int .i64 0, .int .i64 0, .int .i64 0, .int .i64 0, .int .i64 0, .int .i64 0, .int .i64 0, .int .i64 0, .int .i64 0]

/-- What is kept in the loop over the five parts. -/
structure WeighS (w : World) (S2 : Nat) (A : Option Addr) (hs : List Held) (f : Nat → Span) (k : Nat) (W : World) : Prop where
  b0 : Blk W w.heap.size 35 spanZ
  b2 : Blk W S2 62 (spansTo f k)
  ad : AdSl W S2 A hs
  below : Below w.heap.size w W

theorem WeighS.call {w : World} {S2 : Nat} {A : Option Addr} {hs : List Held} {f : Nat → Span} {k : Nat} {W W' : World} (h : WeighS w S2 A hs f k W) (hb : Below W.heap.size W W') : WeighS w S2 A hs f k W' :=
  ⟨h.b0.below hb h.b0.lt, h.b2.below hb h.b2.lt, h.ad.below (hb.mono (Nat.le_of_lt h.b2.lt)), h.below.trans (hb.mono h.below.size)⟩
theorem WeighS.next {w : World} {S2 : Nat} {A : Option Addr} {hs : List Held} {f : Nat → Span} {k : Nat} {W : World} (h : WeighS w S2 A hs f k W) (hne : w.heap.size ≠ S2) (hle : w.heap.size ≤ S2) (hk : k < 5) {a b : Int} (ha : a = (f k).lo) (hb : b = (f k).hi) :
    WeighS w S2 A hs f (k + 1) ((W.setCell ⟨S2, k * 2, none⟩ (.int .i64 a)).setCell ⟨S2, k * 2 + 1, none⟩ (.int .i64 b)) := by
  subst ha hb
  refine ⟨(h.b0.far (p := ⟨S2, k * 2, none⟩) hne _).far (p := ⟨S2, k * 2 + 1, none⟩) hne _, ?_, ?_, ?_⟩
  · rw [← spansTo_next f k hk]
    exact (h.b2.set_ _ _).set_ _ _
  · exact h.ad.below (((Below.refl S2 W).setCell (p := ⟨S2, k * 2, none⟩) (Nat.le_refl _) _).setCell (p := ⟨S2, k * 2 + 1, none⟩) (Nat.le_refl _) _)
  · exact (h.below.setCell (p := ⟨S2, k * 2, none⟩) hle _).setCell (p := ⟨S2, k * 2 + 1, none⟩) hle _

set_option maxRecDepth 100000 in
set_option maxHeartbeats 4000000 in
theorem weigh_yes (w : World) (A T : Option Addr) (c d : Nat) (l : List Sack) (b : List Take) (hl : l.length ≤ 100) (hb : b.length ≤ 100) (hA : SackSl w w.heap.size A l) (hT : TakeSl w w.heap.size T b) (hv : validB l b = true) :
    Calls Try.prog 8 #[.slice A l.length c, .slice T b.length d] w (Ret (.tuple #[.agg (spansTo (partOf l b) 5), .int .i64 0]) w) := by
  have h0 := (Below.refl w.heap.size w).alloc (Nat.le_refl _) (.cells #[.int .i64 0, .int .i64 0, .int .i64 0, .int .i64 0, .int .i64 0, .int .i64 0, .int .i64 0, .int .i64 0, .int .i64 0, .int .i64 0] 35)
  have HB0 := Lib.hid (Blk.new w 35 #[.int .i64 0, .int .i64 0, .int .i64 0, .int .i64 0, .int .i64 0, .int .i64 0, .int .i64 0, .int .i64 0, .int .i64 0, .int .i64 0])
  have HA := Lib.hid ((hA.below h0).more h0.size)
  have HT := Lib.hid ((hT.below h0).more h0.size)
  have H0 := Lib.hid h0
  have hbl := (validB_len hv).1
  have HV := Lib.hid (validB_take hv)
  have HO := Lib.hid (helds_ok hv)
  have HL := Lib.hid (helds_len hv)
  have HGL := Lib.hid (gather_len l b).1
  clear hA hT h0
  go_enter Try.func8, Try.ntmps8
  go_wp2_with fail
  refine (valid_any _ _ _ _ _ _ _ hl hb HA.out HT.out).mono ?_
  rintro e w1 ⟨rfl, hb1⟩
  rw [hv]
  replace HA := Lib.hid ((HA.out.below hb1).more hb1.size)
  replace HT := Lib.hid ((HT.out.below hb1).more hb1.size)
  have B0 := Lib.hid (HB0.out.below hb1 HB0.out.lt)
  have hB1 := H0.out.trans (hb1.mono H0.out.size)
  clear hb1 HB0 H0
  go_wp2_with fail
  refine (gather_any _ _ _ _ _ _ _ hl hb (by omega) HA.out HT.out HV.out).mono ?_
  rintro e w2 ⟨r, rfl, hm, hr, hb2⟩
  replace B0 := Lib.hid (B0.out.below hb2 B0.out.lt)
  have hB2 := hB1.trans (hb2.mono hB1.size)
  clear hb2 hB1 HA HT
  go_wp2_with fail
  refine (whatAdds_any _ r _ hm (by have := HGL.out; omega)).mono ?_
  rintro e w3 ⟨v, hs, rfl, had, hp, hb3⟩
  replace B0 := Lib.hid (B0.out.below hb3 B0.out.lt)
  have hB3 := hB2.trans (hb3.mono hB2.size)
  have HLEN : Hid (hs.length = (heldsOf l b).length) := by show _ = _; rw [hp.length_eq]; rfl
  obtain ⟨A3, c3, rfl, had3⟩ := AdSl.of_own had (by have := HL.out; have := HLEN.out; omega)
  have HP := Lib.hid hp
  clear hb3 hB2 hm hr hp had
  go_wp2_with fail
  have hB4 := hB3.alloc hB3.size (.cells #[.int .i64 0, .int .i64 0, .int .i64 0, .int .i64 0, .int .i64 0, .int .i64 0, .int .i64 0, .int .i64 0, .int .i64 0, .int .i64 0] 62)
  have B4 := Lib.hid (B0.out.alloc (.cells #[.int .i64 0, .int .i64 0, .int .i64 0, .int .i64 0, .int .i64 0, .int .i64 0, .int .i64 0, .int .i64 0, .int .i64 0, .int .i64 0] 62))
  have S4 := Lib.hid (Blk.new w3 62 #[.int .i64 0, .int .i64 0, .int .i64 0, .int .i64 0, .int .i64 0, .int .i64 0, .int .i64 0, .int .i64 0, .int .i64 0, .int .i64 0])
  have A4 := Lib.hid (had3.below ((Below.refl _ w3).alloc (Nat.le_refl _) (.cells #[.int .i64 0, .int .i64 0, .int .i64 0, .int .i64 0, .int .i64 0, .int .i64 0, .int .i64 0, .int .i64 0, .int .i64 0, .int .i64 0] 62)))
  refine (parts_any _).mono ?_
  rintro e w4 ⟨rfl, hb4⟩
  have hS : WeighS w w3.heap.size A3 hs (partOf l b) 0 w4 := ⟨B4.out.below hb4 B4.out.lt, S4.out.below hb4 S4.out.lt, A4.out.below (hb4.mono (by simp)), hB4.trans (hb4.mono hB4.size)⟩
  have hne : w.heap.size ≠ w3.heap.size := by have := B0.out.lt; omega
  have hle : w.heap.size ≤ w3.heap.size := hB3.size
  clear hb4 B4 S4 A4 hB4 hB3 had3 B0
  have HOK : Hid (∀ h ∈ hs, h.ok) := fun h hh => HO.out h (HP.out.mem_iff.1 hh)
  have HF : Hid (∀ k, k < 5 → gramsOf (together hs (partG k)) = partOf l b k) := fun k _ => by unfold partOf heldsOf; rw [together_perm HP.out]
  have h8 : hs.length ≤ 8 := by have := HL.out; have := HLEN.out; omega
  clear HP HO HL HGL HV HLEN
  go_wp2_with fail
  go_loopw [20] (fun i wr => ∃ k : Nat, k ≤ 5 ∧ i = .int .i64 k ∧ WeighS w w3.heap.size A3 hs (partOf l b) k wr) (fun i _ => 5 - (intOf i).toNat)
  case atStart => exact ⟨0, by omega, rfl, hS⟩
  case round =>
    clear hS
    obtain ⟨k, hk, rfl, hS⟩ := hrel
    by_cases hlt : k < 5
    · have hix := fun W => ri5 k hlt W
      have hM := isMeas_part wr wr.heap.size k
      have hgb := partG_bd k
      have hF := HF.out k hlt
      generalize partV k = pv at hix hM
      generalize partG k = pg at hM hgb hF
      simp only [partV] at hix
      have hbd := together_bd (by omega) hgb hs HOK.out
      have HT := Lib.hid (together_any wr A3 c3 hs pv pg (hS.ad.more (Nat.le_of_lt hS.b2.lt)) hM HOK.out h8 hgb)
      have HFk := Lib.hid hF
      clear hM hgb hF
      generalize together hs pg = rr at hbd HT HFk
      have hSA := spansTo_at (partOf l b) k hlt
      go_wp2_with fail
      refine HT.out.mono ?_
      rintro e v1 ⟨rfl, hb1⟩
      have hS1 := hS.call hb1
      clear hb1 hS
      go_wp2_with fail
      refine (grams_any _ _ _ (by omega) (by omega) (by omega) (by omega)).mono ?_
      rintro e v2 ⟨rfl, hb2⟩
      have hS2 := hS1.call hb2
      have c0 := (hS2.b2.cell (k * 2)).trans hSA.1
      have c1 := (hS2.b2.cell (k * 2 + 1)).trans hSA.2
      have f0 := hS2.b2.frozen (k * 2)
      have f1 := hS2.b2.frozen (k * 2 + 1)
      have HS := Lib.hid hS2
      clear hb2 hS1 hS2 hSA hbd hix
      go_wp2_with fail
      go_roundw
      case rel =>
        have hg : gramsOf rr = partOf l b k := HFk.out
        refine ⟨k + 1, by omega, by go_num, HS.out.next hne hle hlt ?_ ?_⟩
        · rw [← hg]; rfl
        · rw [← hg]; rfl
      case measure => simp [intOf]; omega
    · obtain rfl : k = 5 := by omega
      have hS2 := hS.b2
      have d0 := (hS2.cell 0).trans (show _ = some (Value.int .i64 (partOf l b 0).lo) from rfl)
      have d1 := (hS2.cell 1).trans (show _ = some (Value.int .i64 (partOf l b 0).hi) from rfl)
      have d2 := (hS2.cell 2).trans (show _ = some (Value.int .i64 (partOf l b 1).lo) from rfl)
      have d3 := (hS2.cell 3).trans (show _ = some (Value.int .i64 (partOf l b 1).hi) from rfl)
      have d4 := (hS2.cell 4).trans (show _ = some (Value.int .i64 (partOf l b 2).lo) from rfl)
      have d5 := (hS2.cell 5).trans (show _ = some (Value.int .i64 (partOf l b 2).hi) from rfl)
      have d6 := (hS2.cell 6).trans (show _ = some (Value.int .i64 (partOf l b 3).lo) from rfl)
      have d7 := (hS2.cell 7).trans (show _ = some (Value.int .i64 (partOf l b 3).hi) from rfl)
      have d8 := (hS2.cell 8).trans (show _ = some (Value.int .i64 (partOf l b 4).lo) from rfl)
      have d9 := (hS2.cell 9).trans (show _ = some (Value.int .i64 (partOf l b 4).hi) from rfl)
      have HS := Lib.hid hS
      clear hS hS2
      go_wp2_with (refine wpList_store_row rfl 35 (.tmp 4) (.tmp 41) rfl w.heap.size (spansTo (partOf l b) 5) rfl rfl 35 _ HS.out.b0 (by kernel_rfl) rfl (by kernel_rfl) ?_; have B1 := Lib.hid (HS.out.b0.row (spansTo (partOf l b) 5)); have hB2 := below_setRow HS.out.below (Nat.le_refl _) (spansTo (partOf l b) 5))
      exact bodyPost_ret (results_blk_tmp rfl _ rfl B1.out (by kernel_rfl) (by kernel_rfl)) rfl ⟨rfl, hB2⟩
end Go.Proofs.Ytffglhnmgapndaa

/- sort.Search over a function value that tells a bool, true from some number on. -/
namespace Go.Proofs.Ytffglhnmgapndaa
open Go.RowKit

def IsPred (w : World) (B : Nat) (v : Value) (n : Int) (p : Int → Bool) : Prop :=
  ∃ (k : Nat) (cap : Array Value), v = .func (.func k) #[] cap ∧ (∀ args W, (callFunc k args).run Try.prog W = .ok (.enter k args) W) ∧
    ∀ (W : World) (i : Int), Below B w W → 0 ≤ i → i < n → Calls Try.prog k (#[.int .i64 i] ++ cap) W (Ret (.bool (p i)) W)

def RetFirst (n : Int) (p : Int → Bool) (w : World) (e : Ending) (w' : World) : Prop :=
  ∃ r : Int, e = .returned (.int .i64 r) ∧ 0 ≤ r ∧ r ≤ n ∧ (∀ x, 0 ≤ x → x < r → p x = false) ∧ (∀ x, r ≤ x → x < n → p x = true) ∧ Below w.heap.size w w'

set_option maxRecDepth 100000 in
set_option maxHeartbeats 2000000 in
theorem search_any (w : World) (v : Value) (n : Int) (p : Int → Bool) (hn : 0 ≤ n) (hn' : n ≤ 1000000) (hp : IsPred w w.heap.size v n p) (hm : ∀ i j, 0 ≤ i → i ≤ j → j < n → p i = true → p j = true) :
    Calls Try.prog 24 #[.int .i64 n, v] w (RetFirst n p w) := by
  obtain ⟨k, cap, rfl, he, hc⟩ := hp
  have HC := Lib.hid hc
  have HM := Lib.hid hm
  clear hc hm
  go_enter Try.func24, Try.ntmps24
  go_wp2
  go_loopw [5, 6] (fun i j wr => ∃ a b : Int, i = .int .i64 a ∧ j = .int .i64 b ∧ 0 ≤ a ∧ a ≤ b ∧ b ≤ n ∧ Hid (∀ x, 0 ≤ x → x < a → p x = false) ∧ Hid (∀ x, b ≤ x → x < n → p x = true) ∧ Below w.heap.size w wr) (fun i j _ => (intOf j - intOf i).toNat)
  case atStart => exact ⟨0, n, rfl, rfl, by omega, hn, by omega, fun x h1 h2 => by omega, fun x h1 h2 => by omega, Below.refl _ _⟩
  case round =>
    obtain ⟨a, b, rfl, rfl, ha, hab, hb, hlo, hhi, hB⟩ := hrel
    by_cases hlt : a < b
    · go_wp2_with fail
      have hh1 : a ≤ (a + b) / 2 := by omega
      have hh2 : (a + b) / 2 < b := by omega
      generalize (a + b) / 2 = h at hh1 hh2 ⊢
      refine (HC.out wr h hB (by omega) (by omega)).mono ?_
      rintro e W1 ⟨rfl, hb1⟩
      have hB1 := hB.trans (hb1.mono hB.size)
      clear hb1 hB
      cases hph : p h with
      | true =>
        have H2 : Hid (∀ x, h ≤ x → x < n → p x = true) := fun x h1 h2 => HM.out h x (by omega) h1 h2 hph
        clear hph
        go_wp2
        go_roundw
        case rel => exact ⟨a, h, rfl, rfl, ha, hh1, by omega, hlo, H2, hB1⟩
        case measure => simp [intOf]; omega
      | false =>
        have H2 : Hid (∀ x, 0 ≤ x → x < h + 1 → p x = false) := fun x h1 h2 => by
          cases hpx : p x with
          | false => rfl
          | true => have := HM.out x h h1 (by omega) (by omega) hpx; rw [hph] at this; cases this
        clear hph
        go_wp2
        go_roundw
        case rel => exact ⟨h + 1, b, rfl, rfl, by omega, by omega, hb, H2, hhi, hB1⟩
        case measure => simp [intOf]; omega
    · obtain rfl : a = b := by omega
      go_wp2
      go_ret
      exact ⟨a, rfl, ha, hb, hlo, hhi, hB⟩
end Go.Proofs.Ytffglhnmgapndaa

/- Share: the two closures, the search, the walk. -/
namespace Go.Proofs.Ytffglhnmgapndaa
open Go.RowKit Go.Shelf

theorem carbonOver_bd' (n : Int) (h0 : 0 ≤ n) (h1 : n ≤ 1000) : ∀ t : St, t.ok → -800000000000000000 ≤ carbonOver n t ∧ carbonOver n t ≤ 800000000000000000 := fun _ h => carbonOver_bd h h0 h1

def AdBox (w : World) (q : Nat) (hs : List Held) : Prop := q < w.heap.size ∧ ∃ A c, w.cell? ⟨q, 0, none⟩ = some (.slice A hs.length c) ∧ AdSl w w.heap.size A hs
theorem AdBox.below {w w' : World} {q : Nat} {hs : List Held} (h : AdBox w q hs) (hb : Below w.heap.size w w') : AdBox w' q hs := by
  obtain ⟨hq, A, c, hc, ha⟩ := h
  exact ⟨Nat.lt_of_lt_of_le hq hb.size, A, c, (hb.cell (p := ⟨q, 0, none⟩) hq).trans hc, (ha.below hb).more hb.size⟩

theorem fld0 (a b : Int) (w : World) : (Instr.field 68 (.agg #[.int .i64 a, .int .i64 b]) 0).run Try.prog w = .ok (.int .i64 a) w := by kernel_rfl
theorem fld1 (a b : Int) (w : World) : (Instr.field 68 (.agg #[.int .i64 a, .int .i64 b]) 1).run Try.prog w = .ok (.int .i64 b) w := by kernel_rfl
theorem over_call (w : World) (A : Option Addr) (c : Nat) (hs : List Held) (n : Int) (hA : AdSl w w.heap.size A hs) (hok : ∀ h ∈ hs, h.ok) (hl : hs.length ≤ 8) (h0 : 0 ≤ n) (h1 : n ≤ 1000) :
    Calls Try.prog 22 #[.slice A hs.length c, .func (.func 40) #[] #[.pointer (some ⟨w.heap.size, 0, none⟩)]] (w.alloc (.cells #[.int .i64 n] 3)).drew
      (Ret (.agg #[.int .i64 (together hs (carbonOver n)).least, .int .i64 (together hs (carbonOver n)).most]) w) := by
  have hb : Below w.heap.size w (w.alloc (.cells #[.int .i64 n] 3)).drew := ((Below.refl _ _).alloc (Nat.le_refl _) _).drew
  have hq : (w.alloc (.cells #[.int .i64 n] 3)).drew.cell? ⟨w.heap.size, 0, none⟩ = some (.int .i64 n) := (Blk.new w 3 #[.int .i64 n]).cell 0
  refine (together_any _ A c hs _ (carbonOver n) ((hA.below hb).more hb.size) (isMeas_over _ w.heap.size n h0 h1 hq (by simp)) hok hl (carbonOver_bd' n h0 h1)).mono ?_
  rintro e w' ⟨he, hb'⟩
  exact ⟨he, hb.trans (hb'.mono hb.size)⟩

set_option maxRecDepth 100000 in
set_option maxHeartbeats 4000000 in
theorem lo_any (w : World) (q : Nat) (hs : List Held) (n : Int) (hq : AdBox w q hs) (hok : ∀ h ∈ hs, h.ok) (hl : hs.length ≤ 8) (h0 : 0 ≤ n) (h1 : n < 1000) :
    Calls Try.prog 25 #[.int .i64 n, .pointer (some ⟨q, 0, none⟩)] w (Ret (.bool (decide ((together hs (carbonOver (n + 1))).least < 0))) w) := by
  obtain ⟨hlt, A, c, hc, ha⟩ := hq
  have HT := Lib.hid (over_call w A c hs (n + 1) ha hok hl (by omega) (by omega))
  have HW : IntKind.i64.wrap (n + 1) = n + 1 := wr (by omega) (by omega)
  clear hok ha
  have hf := fld0
  go_enter Try.func25, Try.ntmps25
  go_wp2
  go_region_with (first | (go_at_call 26; refine (mkCarbonOver _ _).mono ?_; rintro e w' ⟨rfl, rfl⟩) | (go_at_call 22; refine HT.out.mono ?_; rintro e w' ⟨rfl, hb'⟩))
  all_goals go_wp2
  all_goals go_ret
  all_goals exact ⟨rfl, hb'⟩

set_option maxRecDepth 100000 in
set_option maxHeartbeats 4000000 in
theorem hi_any (w : World) (q : Nat) (hs : List Held) (n : Int) (hq : AdBox w q hs) (hok : ∀ h ∈ hs, h.ok) (hl : hs.length ≤ 8) (h0 : 0 ≤ n) (h1 : n < 1000) :
    Calls Try.prog 27 #[.int .i64 n, .pointer (some ⟨q, 0, none⟩)] w (Ret (.bool (decide ((together hs (carbonOver n)).most ≤ 0))) w) := by
  obtain ⟨hlt, A, c, hc, ha⟩ := hq
  have HT := Lib.hid (over_call w A c hs n ha hok hl (by omega) (by omega))
  clear hok ha
  have hf := fld1
  go_enter Try.func27, Try.ntmps27
  go_wp2
  go_region_with (first | (go_at_call 26; refine (mkCarbonOver _ _).mono ?_; rintro e w' ⟨rfl, rfl⟩) | (go_at_call 22; refine HT.out.mono ?_; rintro e w' ⟨rfl, hb'⟩))
  all_goals go_wp2
  all_goals go_ret
  all_goals exact ⟨rfl, hb'⟩
end Go.Proofs.Ytffglhnmgapndaa

/- Share: the walk. -/
namespace Go.Proofs.Ytffglhnmgapndaa
open Go.RowKit Go.Shelf

theorem together_perm_fun {l l' : List Held} (h : List.Perm l l') : loP l = loP l' ∧ hiP l = hiP l' :=
  ⟨funext fun x => by unfold loP; rw [together_perm h], funext fun x => by unfold hiP; rw [together_perm h]⟩

theorem lo_pred (w : World) (q : Nat) (hs : List Held) (hq : AdBox w q hs) (hok : ∀ h ∈ hs, h.ok) (hl : hs.length ≤ 8) : IsPred w w.heap.size (.func (.func 25) #[] #[.pointer (some ⟨q, 0, none⟩)]) 1000 (loP hs) :=
  ⟨_, _, rfl, enters_of Try.func25 (by kernel_rfl) rfl, fun W i hW h0 h1 => lo_any W q hs i (hq.below hW) hok hl h0 h1⟩
theorem hi_pred (w : World) (q : Nat) (hs : List Held) (hq : AdBox w q hs) (hok : ∀ h ∈ hs, h.ok) (hl : hs.length ≤ 8) : IsPred w w.heap.size (.func (.func 27) #[] #[.pointer (some ⟨q, 0, none⟩)]) 1000 (hiP hs) :=
  ⟨_, _, rfl, enters_of Try.func27 (by kernel_rfl) rfl, fun W i hW h0 h1 => hi_any W q hs i (hq.below hW) hok hl h0 h1⟩

theorem search_first (w : World) (v : Value) (p : Int → Bool) (hp : IsPred w w.heap.size v 1000 p) (hm : ∀ i j, i ≤ j → p i = true → p j = true) :
    Calls Try.prog 24 #[.int .i64 1000, v] w (Ret (.int .i64 (firstOf 1000 p)) w) := by
  refine (search_any w v 1000 p (by omega) (by omega) hp (fun i j _ h _ => hm i j h)).mono ?_
  rintro e w' ⟨r, rfl, h1, h2, h3, h4, hb⟩
  rw [firstOf_is p 1000 r h1 h2 h3 (fun h => h4 r (by omega) (by omega))]
  exact ⟨rfl, hb⟩


set_option maxRecDepth 100000 in
set_option maxHeartbeats 4000000 in
theorem share_yes (w : World) (A T : Option Addr) (c d : Nat) (l : List Sack) (b : List Take) (hl : l.length ≤ 100) (hb : b.length ≤ 100) (hA : SackSl w w.heap.size A l) (hT : TakeSl w w.heap.size T b) (hv : validB l b = true) :
    Calls Try.prog 9 #[.slice A l.length c, .slice T b.length d] w (Ret (.tuple #[.agg #[.int .i64 (shareOf (heldsOf l b)).lo, .int .i64 (shareOf (heldsOf l b)).hi], .int .i64 0]) w) := by
  have h0 := (Below.refl w.heap.size w).alloc (Nat.le_refl _) (.cells #[.int .i64 0, .int .i64 0] 31)
  have HB0 := Lib.hid (Blk.new w 31 #[.int .i64 0, .int .i64 0])
  have HA := Lib.hid ((hA.below h0).more h0.size)
  have HT := Lib.hid ((hT.below h0).more h0.size)
  have H0 := Lib.hid h0
  have hbl := (validB_len hv).1
  have HV := Lib.hid (validB_take hv)
  have HO := Lib.hid (helds_ok hv)
  have HL := Lib.hid (helds_len hv)
  have HGL := Lib.hid (gather_len l b).1
  clear hA hT h0
  go_enter Try.func9, Try.ntmps9
  go_wp2_with fail
  refine (valid_any _ _ _ _ _ _ _ hl hb HA.out HT.out).mono ?_
  rintro e w1 ⟨rfl, hb1⟩
  rw [hv]
  replace HA := Lib.hid ((HA.out.below hb1).more hb1.size)
  replace HT := Lib.hid ((HT.out.below hb1).more hb1.size)
  have B0 := Lib.hid (HB0.out.below hb1 HB0.out.lt)
  have hB1 := H0.out.trans (hb1.mono H0.out.size)
  clear hb1 HB0 H0
  go_wp2_with fail
  refine (gather_any _ _ _ _ _ _ _ hl hb (by omega) HA.out HT.out HV.out).mono ?_
  rintro e w2 ⟨r, rfl, hm, hr, hb2⟩
  replace B0 := Lib.hid (B0.out.below hb2 B0.out.lt)
  have hB2 := hB1.trans (hb2.mono hB1.size)
  clear hb2 hB1 HA HT
  go_wp2_with fail
  refine (whatAdds_any _ r _ hm (by have := HGL.out; omega)).mono ?_
  rintro e w3 ⟨v, hs, rfl, had, hp, hb3⟩
  replace B0 := Lib.hid (B0.out.below hb3 B0.out.lt)
  have hB3 := hB2.trans (hb3.mono hB2.size)
  have HLEN : Hid (hs.length = (heldsOf l b).length) := by show _ = _; rw [hp.length_eq]; rfl
  obtain ⟨A3, c3, rfl, had3⟩ := AdSl.of_own had (by have := HL.out; have := HLEN.out; omega)
  have HF : Hid (shareOf (heldsOf l b) = shareOf hs) := by
    show _ = _
    have := together_perm_fun (l := hs) (l' := heldsOf l b) hp
    simp only [shareOf, this.1, this.2]
  have HOK : Hid (∀ h ∈ hs, h.ok) := fun h hh => HO.out h (hp.mem_iff.1 hh)
  have h8 : hs.length ≤ 8 := by have := HL.out; have := HLEN.out; omega
  clear hb3 hB2 hm hr hp had HO HL HGL HV HLEN
  go_wp2_with fail
  have hx : Below w3.heap.size w3 (w3.alloc (.cells #[.slice A3 hs.length c3] 58)) := (Below.refl _ _).alloc (Nat.le_refl _) _
  have hq : AdBox (w3.alloc (.cells #[.slice A3 hs.length c3] 58)) w3.heap.size hs := ⟨by simp, A3, c3, (Blk.new w3 58 #[.slice A3 hs.length c3]).cell 0, (had3.below hx).more (by simp)⟩
  have B4 := Lib.hid (B0.out.alloc (.cells #[.slice A3 hs.length c3] 58))
  have hB4 := hB3.alloc hB3.size (.cells #[.slice A3 hs.length c3] 58)
  clear hx B0 hB3 had3
  refine (search_first _ _ _ (lo_pred _ _ hs hq HOK.out h8) (fun i j h => loP_mono HOK.out h)).mono ?_
  rintro e w4 ⟨rfl, hb4⟩
  replace hq := hq.below hb4
  have B5 := Lib.hid (B4.out.below hb4 B4.out.lt)
  have hB5 := hB4.trans (hb4.mono hB4.size)
  clear hb4 B4 hB4
  go_wp2_with fail
  refine (search_first _ _ _ (hi_pred _ _ hs hq HOK.out h8) (fun i j h => hiP_mono HOK.out h)).mono ?_
  rintro e w5 ⟨rfl, hb5⟩
  have B6 := Lib.hid (B5.out.below hb5 B5.out.lt)
  have hB6 := hB5.trans (hb5.mono hB5.size)
  clear hb5 B5 hB5 hq
  go_wp2_with (refine wpList_store_row rfl 31 (.tmp 4) (.tmp 24) rfl w.heap.size #[.int .i64 (firstOf 1000 (loP hs)), .int .i64 (firstOf 1000 (hiP hs))] rfl rfl 31 _ B6.out (by kernel_rfl) rfl (by kernel_rfl) ?_; have B7 := Lib.hid (B6.out.row #[.int .i64 (firstOf 1000 (loP hs)), .int .i64 (firstOf 1000 (hiP hs))]); have hB7 := below_setRow hB6 (Nat.le_refl _) #[.int .i64 (firstOf 1000 (loP hs)), .int .i64 (firstOf 1000 (hiP hs))]; clear hB6 B6)
  exact bodyPost_ret (results_blk_tmp rfl _ rfl B7.out (by kernel_rfl) (by kernel_rfl)) rfl ⟨by rw [HF.out]; rfl, hB7⟩
end Go.Proofs.Ytffglhnmgapndaa

