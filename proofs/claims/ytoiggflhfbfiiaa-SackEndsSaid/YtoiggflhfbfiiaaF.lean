/- whatAdds and together: the adders of all sacks, and their sum. -/
import Derived.Test.YtoiggflhfbfiiaaE
import Derived.Test.YtoiggflhfbfiiaaMapR
import Derived.Maps.AppendAt
namespace Go.Proofs.Ytoiggflhfbfiiaa
open Go.RowKit Go.ChangeMaps

def adderV (h : Held) : Value := .func (.func 54) #[.agg h.vals] #[]
theorem adderInfo : (Try.prog.info? 102).map (fun i => (i.zero, i.size, i.bytes)) = some (some .nilFunc, 1, 8) := by kernel_rfl
theorem adderSl : Try.prog.underlying 64 = some (.slice 102) := by kernel_rfl

/-- The slice of adders that a call made: in some order, all that is held. -/
def AddersAt (w : World) (B : Nat) (v : Value) (hs : List Held) : Prop := w.ownsRow B 102 1 v hs.length (hs.map adderV)
def RetAdders (w : World) (m : List (Int × Held)) (e : Ending) (w' : World) : Prop := ∃ v hs, e = .returned v ∧ AddersAt w' w.heap.size v hs ∧ List.Perm hs (m.map (·.2)) ∧ Below w.heap.size w w'


def heldAtI (m : List (Int × Held)) (i : Nat) : Held := (m.getD i (0, ⟨⟨⟨0, 0⟩, ⟨0, 0⟩, ⟨0, 0⟩⟩, ⟨0, 0⟩⟩)).2
theorem heldAtI_eq {m : List (Int × Held)} {i : Nat} (h : i < m.length) : heldAtI m i = m[i].2 := by simp [heldAtI, h]
theorem all_seen {m : List (Int × Held)} {seen : List Nat} (hn : seen.Nodup) (hb : ∀ i ∈ seen, i < m.length) (ha : ∀ i, i < m.length → i ∈ seen) : List.Perm (seen.map (heldAtI m)) (m.map (·.2)) := by
  have hp : List.Perm seen (List.range m.length) := (List.perm_ext_iff_of_nodup hn List.nodup_range).2 fun i => by simp; exact ⟨hb i, ha i⟩
  have := hp.map (heldAtI m)
  have e : (List.range m.length).map (heldAtI m) = m.map (·.2) := by
    apply List.ext_getElem
    · simp
    · intro i h1 h2
      simp at h1
      simp [heldAtI, h1]
  rwa [e] at this

theorem own_step {W W' : World} {B : Nat} {e : TypeId} {size : Nat} {v : Value} {k : Nat} {xs : List Value} {it : Nat} {a : Option Nat} {b : Nat} {c : Array Nat} {d : Nat} (hr : W.ownsRow B e size v k xs) (hi : W.heap[it]? = some (.mapIter a b c d)) (hg : W.grownBy W' (some it)) :
    W'.ownsRow B e size v k xs := by
  refine hr.kept hg ?_
  rcases hr.2 with ⟨rfl, _⟩ | ⟨g, cap, cur, rfl, _, hgb, _⟩
  · exact .inl rfl
  · refine .inr fun e' => ?_
    have : g = it := by simpa [Value.ownBlock] using e'
    subst this
    rw [hgb] at hi; cases hi

theorem own_ne {W : World} {B : Nat} {e : TypeId} {size : Nat} {v : Value} {k : Nat} {xs : List Value} {it : Nat} {o : Obj} (hr : W.ownsRow B e size v k xs) (hi : W.heap[it]? = some o) (ho : o.isCells = false) : some it ≠ v.ownBlock := by
  rcases hr.2 with ⟨rfl, _⟩ | ⟨g, cap, cur, rfl, _, hgb, _⟩
  · simp [Value.ownBlock]
  · intro e'
    have : it = g := by simpa [Value.ownBlock] using e'
    subst this
    rw [hgb] at hi; cases hi; cases ho
theorem own_ge {W : World} {B : Nat} {e : TypeId} {size : Nat} {v : Value} {k : Nat} {xs : List Value} (hr : W.ownsRow B e size v k xs) : ∀ g, v.ownBlock = some g → B ≤ g := by
  rcases hr.2 with ⟨rfl, _⟩ | ⟨g, cap, cur, rfl, hg, hgb, _⟩
  · simp [Value.ownBlock]
  · intro g' e'
    have : g = g' := by simpa [Value.ownBlock] using e'
    omega

theorem wpList_nextHeld (w : World) {ops : Array Oper} {rest : List Oper} {o : Oper} {a : Act} {Q : Exit → Act → World → Prop} (hg : o.guard = none) (it : Operand) (hop : o.op = Op.next it false) (bm r : Nat) (m : List (Int × Held)) (seen : List Nat)
    (hit : a.eval it = .pointer (some ⟨r, 0, none⟩)) (hr : w.heap[r]? = some (.mapIter (some bm) m.length seen.toArray m.length)) (hb : MapI heldV w bm m)
    (hDone : Hid (∀ i, i < m.length → i ∈ seen) → wpList Try.prog ops Q rest (a.put o.dst (.tuple #[.bool false])) w)
    (hMore : ∀ (i : Nat) (h : Held) (k : Int) (w' : World), Hid (Stepped_ heldV w bm r m seen i w' ∧ heldAtI m i = h) →
      (Instr.entry (.pointer (some ⟨r, 0, none⟩))).run Try.prog w' = .ok (.tuple #[.int .i64 k, .agg #[.int .i64 h.sack.w.lo, .int .i64 h.sack.w.hi, .int .i64 h.sack.c.lo, .int .i64 h.sack.c.hi, .int .i64 h.sack.l.lo, .int .i64 h.sack.l.hi, .int .i64 h.weight.lo, .int .i64 h.weight.hi]]) w' →
      wpList Try.prog ops Q rest (a.put o.dst (.tuple #[.bool true, .int .i64 k, .agg #[.int .i64 h.sack.w.lo, .int .i64 h.sack.w.hi, .int .i64 h.sack.c.lo, .int .i64 h.sack.c.hi, .int .i64 h.sack.l.lo, .int .i64 h.sack.l.hi, .int .i64 h.weight.lo, .int .i64 h.weight.hi]])) w') :
    wpList Try.prog ops Q (o :: rest) a w :=
  wpList_nextI w hg it hop bm r m seen hit hr hb hDone fun i _ w' hs hen => hMore i m[i].2 m[i].1 w' ⟨hs, heldAtI_eq _⟩ hen

set_option maxRecDepth 100000 in
set_option maxHeartbeats 2000000 in
theorem whatAdds_any (w : World) (r : Nat) (m : List (Int × Held)) (hm : MapI heldV w r m) (hl : m.length ≤ 100) :
    Calls Try.prog 31 #[.map (some r)] w (RetAdders w m) := by
  obtain ⟨i0, hi, hz0, hz1, hz2⟩ := info_parts adderInfo
  have hrange := run_range_map (P := Try.prog) w 66 3 89 r _ _ (by kernel_rfl) hm
  have hrlt := hm.lt
  have HM := Lib.hid hm
  clear hm
  go_enter Try.func31, Try.ntmps31
  go_wp2
  clear hrange
  go_loopw [3] (fun v wr => ∃ seen : List Nat, seen.Nodup ∧ (∀ i ∈ seen, i < m.length) ∧ wr.heap[w.heap.size]? = some (.mapIter (some r) m.length seen.toArray m.length) ∧ wr.ownsRow w.heap.size 102 1 v seen.length ((seen.map (heldAtI m)).map adderV) ∧
    MapI heldV wr r m ∧ Below w.heap.size w wr) (fun _ wr => iterLeft m.length w.heap.size wr)
  case atStart => exact ⟨[], List.nodup_nil, by simp, World.alloc_heap_new w _, World.ownsRow_nil _ _ _ _, HM.out.alloc _, (Below.refl _ _).alloc (Nat.le_refl _) _⟩
  case round =>
    obtain ⟨seen, hn, hb, hit, hown, hm, hB⟩ := hrel
    have HN := Lib.hid hn
    have HB := Lib.hid hb
    have HIT := Lib.hid hit
    have HOWN := Lib.hid hown
    clear hn hb hit
    have hlen : seen.length ≤ m.length := nodup_length_le _ _ HN.out HB.out
    go_wp2_with (first | (at_next; refine wpList_nextHeld _ rfl _ rfl r w.heap.size m seen rfl HIT.out hm (fun HD => ?_) (fun i h k w' HS hen => ?_)) | (at_builtin; refine wpList_append_own _ rfl _ _ 64 rfl w.heap.size 102 i0 .nilFunc 1 8 adderSl hi hz0 hz1 hz2 rfl (by decide) _ _ _ rfl (((own_step HOWN.out HIT.out HS.out.1.grown).alloc _).alloc _) ⟨w'.heap.size + 1, 0, none⟩ 1 1 [adderV h] rfl rfl ?c1 ?c2 ?c3 ?c4 ?c5 ?_; rotate_left 5; intro v' w1 hown1 hg1 _; have HO1 := Lib.hid hown1; have HG1 := Lib.hid hg1; clear hown1 hg1))
    · go_ret
      exact ⟨_, _, rfl, by simpa [AddersAt] using HOWN.out, all_seen HN.out HB.out HD.out, hB⟩
    · obtain ⟨⟨s1, s2, s3, s4, s5, s6⟩, s7⟩ := HS.out
      have hS := Array.getElem?_eq_some_iff.1 s3
      have hit1 : w1.heap[w.heap.size]? = some (.mapIter (some r) m.length (seen ++ [i]).toArray m.length) := by
        rw [HG1.out.block w.heap.size (by simp; have := hS.1; omega) (own_ne HOWN.out HIT.out rfl)]
        exact ((Below.heap_alloc _ _ _ (by simp; have := hS.1; omega)).trans (Below.heap_alloc _ _ _ hS.1)).trans s3
      have hnd : (seen ++ [i]).Nodup := by rw [List.nodup_append]; exact ⟨HN.out, by simp, by simp; exact fun a ha e => s2 (e ▸ ha)⟩
      have hbd : ∀ j ∈ seen ++ [i], j < m.length := by
        intro j hj
        simp at hj
        rcases hj with hj | rfl
        · exact HB.out j hj
        · exact s1
      have hle := nodup_length_le _ _ hnd hbd
      simp only [List.length_append, List.length_singleton] at hle
      have H1 := Lib.hid hit1
      have H2 := Lib.hid hbd
      have H3 := Lib.hid hnd
      have H4 := Lib.hid s4
      have H5 := Lib.hid s5
      have H7 := Lib.hid s7
      clear hS hit1 hnd hbd s1 s2 s3 s4 s5 s6 s7
      go_roundw
      case rel => 
        refine ⟨seen ++ [i], H3.out, H2.out, H1.out, ?_, ?_, ?_⟩
        · have := HO1.out
          simp only [List.length_append, List.length_singleton, List.map_append, List.map_cons, List.map_nil, H7.out]
          exact this
        · exact ((H4.out.alloc _).alloc _).kept HG1.out (own_ne HOWN.out hm rfl)
        · have hb1 := hB.grown H5.out hB.size (fun j e => by cases e; exact Nat.le_refl _)
          have hb2 := (hb1.alloc hb1.size (.cells #[.int .i64 h.sack.w.lo, .int .i64 h.sack.w.hi, .int .i64 h.sack.c.lo, .int .i64 h.sack.c.hi, .int .i64 h.sack.l.lo, .int .i64 h.sack.l.hi, .int .i64 h.weight.lo, .int .i64 h.weight.hi] 89))
          have hb3 := hb2.alloc hb2.size (.cells #[.func (.func 54) #[.agg #[.int .i64 h.sack.w.lo, .int .i64 h.sack.w.hi, .int .i64 h.sack.c.lo, .int .i64 h.sack.c.hi, .int .i64 h.sack.l.lo, .int .i64 h.sack.l.hi, .int .i64 h.weight.lo, .int .i64 h.weight.hi]] #[]] 102)
          exact hb3.grown HG1.out hb3.size (own_ge HOWN.out)
      case measure =>
        rw [iterLeft_eq H1.out, iterLeft_eq HIT.out]; simp; omega
    case c1 =>
      intro j u hj
      have := cell_one_new (w'.alloc (.cells #[.int .i64 h.sack.w.lo, .int .i64 h.sack.w.hi, .int .i64 h.sack.c.lo, .int .i64 h.sack.c.hi, .int .i64 h.sack.l.lo, .int .i64 h.sack.l.hi, .int .i64 h.weight.lo, .int .i64 h.weight.hi] 89)) (adderV h) 102 j u hj
      rw [World.size_alloc] at this
      exact this
    case c2 => simp [Value.oneCell', adderV]
    case c3 => unfold maxLen; omega
    case c4 => omega
    case c5 =>
      have h1 := HS.out.1.size
      have h2 := hB.size
      simp only [World.size_alloc]
      omega
end Go.Proofs.Ytoiggflhfbfiiaa
