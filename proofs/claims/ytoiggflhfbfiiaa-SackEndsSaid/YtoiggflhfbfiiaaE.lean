/- gather: what is known of the takes out of each sack, in a map. -/
import Derived.Test.YtoiggflhfbfiiaaD
import Derived.Test.YtoiggflhfbfiiaaMapL
namespace Go.Proofs.Ytoiggflhfbfiiaa
open Go.RowKit

def SacksAt (w : World) (b off : Nat) (l : List Sack) : Prop := ∀ i (h : i < l.length), w.cell? ⟨b, off + i * 6, none⟩ = some (.int .i64 l[i].w.lo) ∧ w.cell? ⟨b, off + i * 6 + 1, none⟩ = some (.int .i64 l[i].w.hi)
  ∧ w.cell? ⟨b, off + i * 6 + 2, none⟩ = some (.int .i64 l[i].c.lo) ∧ w.cell? ⟨b, off + i * 6 + 3, none⟩ = some (.int .i64 l[i].c.hi) ∧ w.cell? ⟨b, off + i * 6 + 4, none⟩ = some (.int .i64 l[i].l.lo) ∧ w.cell? ⟨b, off + i * 6 + 5, none⟩ = some (.int .i64 l[i].l.hi)
def TakesAt (w : World) (b off : Nat) (l : List Take) : Prop := ∀ i (h : i < l.length), w.cell? ⟨b, off + i * 3, none⟩ = some (.int .i64 l[i].s) ∧ w.cell? ⟨b, off + i * 3 + 1, none⟩ = some (.int .i64 l[i].m.lo)
  ∧ w.cell? ⟨b, off + i * 3 + 2, none⟩ = some (.int .i64 l[i].m.hi)
/-- A slice of sacks: its value reads as the list. -/
def SackSl (w : World) (B : Nat) (A : Option Addr) (l : List Sack) : Prop := l ≠ [] → ∃ b off, A = some ⟨b, off, none⟩ ∧ b < B ∧ SacksAt w b off l
def TakeSl (w : World) (B : Nat) (A : Option Addr) (l : List Take) : Prop := l ≠ [] → ∃ b off, A = some ⟨b, off, none⟩ ∧ b < B ∧ TakesAt w b off l
theorem SacksAt.below {w w' : World} {b off B : Nat} {l : List Sack} (h : SacksAt w b off l) (hb : Below B w w') (hlt : b < B) : SacksAt w' b off l := fun i hi => by
  obtain ⟨h0, h1, h2, h3, h4, h5⟩ := h i hi
  exact ⟨(hb.cell (p := ⟨b, _, none⟩) hlt).trans h0, (hb.cell (p := ⟨b, _, none⟩) hlt).trans h1, (hb.cell (p := ⟨b, _, none⟩) hlt).trans h2, (hb.cell (p := ⟨b, _, none⟩) hlt).trans h3, (hb.cell (p := ⟨b, _, none⟩) hlt).trans h4, (hb.cell (p := ⟨b, _, none⟩) hlt).trans h5⟩
theorem TakesAt.below {w w' : World} {b off B : Nat} {l : List Take} (h : TakesAt w b off l) (hb : Below B w w') (hlt : b < B) : TakesAt w' b off l := fun i hi => by
  obtain ⟨h0, h1, h2⟩ := h i hi
  exact ⟨(hb.cell (p := ⟨b, _, none⟩) hlt).trans h0, (hb.cell (p := ⟨b, _, none⟩) hlt).trans h1, (hb.cell (p := ⟨b, _, none⟩) hlt).trans h2⟩
theorem SackSl.below {w w' : World} {B : Nat} {A : Option Addr} {l : List Sack} (h : SackSl w B A l) (hb : Below B w w') : SackSl w' B A l := fun hne => by
  obtain ⟨b, off, e, hlt, hs⟩ := h hne
  exact ⟨b, off, e, hlt, hs.below hb hlt⟩
theorem TakeSl.below {w w' : World} {B : Nat} {A : Option Addr} {l : List Take} (h : TakeSl w B A l) (hb : Below B w w') : TakeSl w' B A l := fun hne => by
  obtain ⟨b, off, e, hlt, hs⟩ := h hne
  exact ⟨b, off, e, hlt, hs.below hb hlt⟩
theorem SackSl.more {w : World} {B B' : Nat} {A : Option Addr} {l : List Sack} (h : SackSl w B A l) (hB : B ≤ B') : SackSl w B' A l := fun hne => by
  obtain ⟨b, off, e, hlt, hs⟩ := h hne
  exact ⟨b, off, e, by omega, hs⟩
theorem TakeSl.more {w : World} {B B' : Nat} {A : Option Addr} {l : List Take} (h : TakeSl w B A l) (hB : B ≤ B') : TakeSl w B' A l := fun hne => by
  obtain ⟨b, off, e, hlt, hs⟩ := h hne
  exact ⟨b, off, e, by omega, hs⟩

def heldV (h : Held) : Value := .agg h.vals
theorem upd_updH : ∀ (m : List (Int × Held)) (k : Int) (v : Held), upd m k v = updH m k v
  | [], _, _ => rfl
  | (a, b) :: l, k, v => by unfold upd updH; rw [upd_updH l k v]
theorem pos_oldH (k : Int) : ∀ (m : List (Int × Held)) (i : Nat), ((pos m k i).map (·.2)).getD ⟨⟨⟨0, 0⟩, ⟨0, 0⟩, ⟨0, 0⟩⟩, ⟨0, 0⟩⟩ = oldH m k
  | [], _ => rfl
  | (a, b) :: l, i => by
    unfold pos oldH
    split
    · rfl
    · exact pos_oldH k l (i + 1)
theorem zeroHeld (w : World) : (zeroValue 89).run Try.prog w = .ok (heldV ⟨⟨⟨0, 0⟩, ⟨0, 0⟩, ⟨0, 0⟩⟩, ⟨0, 0⟩⟩) w := by kernel_rfl

theorem look_held {W : World} {r : Nat} {m : List (Int × Held)} (h : MapI heldV W r m) (k : Int) :
    (Instr.lookup 66 (.map (some r)) (.int .i64 k) false).run Try.prog W = .ok (heldV (oldH m k)) W := by
  rw [← pos_oldH k m 0]
  exact run_lookupI h (K := 3) (E := 89) (by kernel_rfl) (by kernel_rfl) _ (zeroHeld W) k
theorem store_held {W : World} {r : Nat} {m : List (Int × Held)} (h : MapI heldV W r m) (k : Int) (v : Held) :
    ∃ W', (Instr.mapUpdate 66 (.map (some r)) (.int .i64 k) (heldV v)).run Try.prog W = .ok () W' ∧ MapI heldV W' r (updH m k v) ∧ W.grownBy W' (some r) ∧ W'.heap.size = W.heap.size := by
  rw [← upd_updH]
  exact run_updateI h (K := 3) (E := 89) (by kernel_rfl) (by kernel_rfl) k v

def RetMap (w : World) (m : List (Int × Held)) (e : Ending) (w' : World) : Prop := ∃ r, e = .returned (.map (some r)) ∧ MapI heldV w' r m ∧ w.heap.size ≤ r ∧ Below w.heap.size w w'

set_option maxRecDepth 100000 in
set_option maxHeartbeats 1000000 in
theorem gather_any (w : World) (A T : Option Addr) (ca ct : Nat) (l : List Sack) (b : List Take) (hl : l.length ≤ 100) (hb : b.length ≤ 100) (hb0 : 0 < b.length) (hA : SackSl w w.heap.size A l) (hT : TakeSl w w.heap.size T b) (hv : ∀ t ∈ b, takeOk l t = true) :
    Calls Try.prog 32 #[.slice A l.length ca, .slice T b.length ct] w (RetMap w (gather l b)) := by
  obtain ⟨tb, to, rfl, htb, hT⟩ := hT (by intro e; subst e; simp at hb0)
  have hl0 : l ≠ [] := by
    intro e; subst e
    have := hv b[0] (List.getElem_mem hb0)
    simp [takeOk, idxB] at this
    omega
  obtain ⟨sb, so, rfl, hsb, hA⟩ := hA hl0
  have HV : Hid (∀ t ∈ b, takeOk l t = true) := hv
  have HA := Lib.hid hA
  have HT := Lib.hid hT
  clear hv hA hT hl0
  have hmm := @run_makeMap Try.prog
  go_enter Try.func32, Try.ntmps32
  go_wp2
  go_loopw [12] (fun i wr => ∃ k : Nat, k ≤ b.length ∧ i = .int .i64 k ∧ MapI heldV wr w.heap.size (gather l (b.take k)) ∧ Below w.heap.size w wr) (fun i _ => b.length - (intOf i).toNat)
  case atStart => exact ⟨0, by omega, rfl, MapI.made w, (Below.refl _ _).alloc (Nat.le_refl _) _⟩
  case round =>
    obtain ⟨k, hk, rfl, hm, hB⟩ := hrel
    by_cases hlt : k < b.length
    · have hrlt := hm.lt
      have hok := HV.out b[k] (List.getElem_mem hlt)
      simp only [takeOk, idxB, Bool.and_eq_true, decide_eq_true_eq, withinB_iff] at hok
      obtain ⟨⟨hs0, hs1⟩, hw1, hw2, hw3⟩ := hok
      obtain ⟨n, hn⟩ := Int.eq_ofNat_of_zero_le hs0
      obtain ⟨c0, c1, c2⟩ := HT.out k hlt
      rw [hn] at hs1 c0
      have hnl : n < l.length := by omega
      obtain ⟨d0, d1, d2, d3, d4, d5⟩ := HA.out n hnl
      rw [← hB.cell (p := ⟨tb, _, none⟩) htb] at c0 c1 c2
      rw [← hB.cell (p := ⟨sb, _, none⟩) hsb] at d0 d1 d2 d3 d4 d5
      have hbd := oldH_bd (100000 * ((b.take k).length : Nat)) (by omega) n (gather l (b.take k)) (fun p hp => (gather_bd l (b.take k) (fun t ht => by
        have := HV.out t (List.mem_of_mem_take ht)
        simp only [takeOk, Bool.and_eq_true] at this
        exact this.2) p hp).2)
      have hlen : (b.take k).length = k := by simp; omega
      rw [hlen] at hbd
      have hgs : Hid (gather l (b.take (k + 1)) = updH (gather l (b.take k)) n ⟨l[n], ⟨(oldH (gather l (b.take k)) n).weight.lo + b[k].m.lo, (oldH (gather l (b.take k)) n).weight.hi + b[k].m.hi⟩⟩) := by
        show _ = _
        rw [List.take_succ_eq_append_getElem hlt, gather_snoc, gstep, hn, sackAt]
        simp [hnl]
      have hlk := look_held (hm.alloc (.cells #[.int .i64 n, .int .i64 b[k].m.lo, .int .i64 b[k].m.hi] 51)) n
      generalize oldH (gather l (b.take k)) n = o at hbd hgs hlk
      obtain ⟨hb1, hb2, hb3⟩ := hbd
      obtain ⟨W', hst, hm', hg, hsz⟩ := store_held ((hm.alloc (.cells #[.int .i64 n, .int .i64 b[k].m.lo, .int .i64 b[k].m.hi] 51)).alloc (.cells #[.int .i64 l[n].w.lo, .int .i64 l[n].w.hi, .int .i64 l[n].c.lo, .int .i64 l[n].c.hi, .int .i64 l[n].l.lo, .int .i64 l[n].l.hi, .int .i64 (o.weight.lo + b[k].m.lo), .int .i64 (o.weight.hi + b[k].m.hi)] 89)) n ⟨l[n], ⟨o.weight.lo + b[k].m.lo, o.weight.hi + b[k].m.hi⟩⟩
      simp only [heldV, Held.vals] at hlk hst
      have hsb1 : sb < wr.heap.size := by have := hB.size; omega
      have hsb2 : sb < wr.heap.size + 1 := by omega
      have HM' := Lib.hid hm'
      have HG := Lib.hid hg
      have HZ := Lib.hid hsz
      clear hm' hg hsz hm
      go_wp2
      go_roundw
      case rel =>
        refine ⟨k + 1, by omega, by go_num, by rw [hgs.out]; exact HM'.out, ?_⟩
        exact Below.grown (((hB.alloc hB.size _).alloc (by have := hB.size; simp; omega) _)) HG.out (by have := hB.size; simp; omega) (fun j e => by cases e; exact Nat.le_refl _)
      case measure => simp [intOf]; omega
    · go_wp2
      obtain rfl : k = b.length := by omega
      go_ret
      exact ⟨_, rfl, by simpa using hm, Nat.le_refl _, hB⟩
end Go.Proofs.Ytoiggflhfbfiiaa
