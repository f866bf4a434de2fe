/- together: the sum of what all sacks add. -/
import Derived.Test.YtoiggflhfbfiiaaF
import Derived.Deep.AppendLies
namespace Go.Proofs.Ytoiggflhfbfiiaa
open Go.RowKit

/-- A slice of adders that reads as a list. -/
def AdSl (w : World) (B : Nat) (A : Option Addr) (hs : List Held) : Prop := ∃ g, A = some ⟨g, 0, none⟩ ∧ g < B ∧ ∀ i (h : i < hs.length), w.cell? ⟨g, i, none⟩ = some (adderV hs[i])
theorem AdSl.below {w w' : World} {B : Nat} {A : Option Addr} {hs : List Held} (h : AdSl w B A hs) (hb : Below B w w') : AdSl w' B A hs := by
  obtain ⟨g, e, hg, hc⟩ := h
  exact ⟨g, e, hg, fun i hi => (hb.cell (p := ⟨g, i, none⟩) hg).trans (hc i hi)⟩
theorem AdSl.more {w : World} {B B' : Nat} {A : Option Addr} {hs : List Held} (h : AdSl w B A hs) (hB : B ≤ B') : AdSl w B' A hs := by
  obtain ⟨g, e, hg, hc⟩ := h
  exact ⟨g, e, by omega, hc⟩
theorem AdSl.of_own {w : World} {B : Nat} {v : Value} {hs : List Held} (h : AddersAt w B v hs) (hne : 0 < hs.length) : ∃ A c, v = .slice A hs.length c ∧ AdSl w w.heap.size A hs := by
  have h : w.ownsRow B 102 1 v hs.length (hs.map adderV) := h
  obtain ⟨g, cap, hv, _, hlt⟩ := World.ownsRow.form h hne
  subst hv
  refine ⟨_, cap, rfl, g, rfl, hlt, fun i hi => ?_⟩
  have := World.ownsRow.cells h (g := g) rfl i (adderV hs[i]) (by simp [hi])
  have e : (⟨g, 0, none⟩ : Addr).add i = ⟨g, i, none⟩ := by
    unfold Addr.add
    split
    · rename_i h0; rw [h0]
    · simp
  rwa [e] at this

theorem IsMeas.at_ {w w' : World} {v : Value} {g : St → Int} (h : IsMeas w w.heap.size v g) (hb : Below w.heap.size w w') : IsMeas w' w'.heap.size v g := by
  obtain ⟨k, cap, rfl, he, hc⟩ := h
  exact ⟨k, cap, rfl, he, fun W t hW ht => hc W t (hb.trans (hW.mono hb.size)) ht⟩

theorem together_snoc (l : List Held) (h : Held) (g : St → Int) : together (l ++ [h]) g = (together l g).plus (h.adds g) := by simp [together]
theorem together_bd {g : St → Int} {B : Int} (hB : B ≤ 9000000000000000000) (hg : ∀ t : St, t.ok → -B ≤ g t ∧ g t ≤ B) (l : List Held) (hl : ∀ h ∈ l, h.ok) :
    -(B * l.length) ≤ (together l g).least ∧ (together l g).least ≤ B * l.length ∧ -(B * l.length) ≤ (together l g).most ∧ (together l g).most ≤ B * l.length := by
  suffices H : ∀ (l : List Held) (r : Reach) (n : Nat), (∀ h ∈ l, h.ok) → (-(B * n) ≤ r.least ∧ r.least ≤ B * n ∧ -(B * n) ≤ r.most ∧ r.most ≤ B * n) →
      -(B * (n + l.length : Nat)) ≤ (l.foldl (fun r h => r.plus (h.adds g)) r).least ∧ (l.foldl (fun r h => r.plus (h.adds g)) r).least ≤ B * (n + l.length : Nat) ∧ -(B * (n + l.length : Nat)) ≤ (l.foldl (fun r h => r.plus (h.adds g)) r).most ∧ (l.foldl (fun r h => r.plus (h.adds g)) r).most ≤ B * (n + l.length : Nat) by
    have := H l ⟨0, 0⟩ 0 hl (by simp)
    simpa [together] using this
  intro l
  induction l with
  | nil => intro r n _ h; simpa using h
  | cons a l ih =>
    intro r n hl h
    have h1 := adds_bd (hl a (by simp)) hg hB
    have := ih (r.plus (a.adds g)) (n + 1) (fun x hx => hl x (by simp [hx])) (by
      simp only [Reach.plus]
      have e : B * ((n + 1 : Nat) : Int) = B * n + B := by rw [Int.natCast_add, Int.mul_add]; simp
      omega)
    have e2 : n + 1 + l.length = n + (a :: l).length := by simp; omega
    rw [e2] at this
    exact this

set_option maxRecDepth 100000 in
set_option maxHeartbeats 2000000 in
theorem together_any (w : World) (A : Option Addr) (c : Nat) (hs : List Held) (v : Value) (g : St → Int) (hA : AdSl w w.heap.size A hs) (hm : IsMeas w w.heap.size v g) (hok : ∀ h ∈ hs, h.ok) (hl : hs.length ≤ 8)
    (hg : ∀ t : St, t.ok → -800000000000000000 ≤ g t ∧ g t ≤ 800000000000000000) :
    Calls Try.prog 34 #[.slice A hs.length c, v] w (Ret (.agg #[.int .i64 (together hs g).least, .int .i64 (together hs g).most]) w) := by
  obtain ⟨ag, rfl, hag, hcell⟩ := hA
  have HC := Lib.hid hcell
  have HM := Lib.hid hm
  have HO := Lib.hid hok
  have HG := Lib.hid hg
  clear hcell hm hok hg
  go_enter Try.func34, Try.ntmps34
  go_wp2
  have b0 := (Blk.new w 74 #[.int .i64 0, .int .i64 0]).alloc (.cells #[.int .i64 0, .int .i64 0] 74)
  have b1 := Blk.new (w.alloc (.cells #[.int .i64 0, .int .i64 0] 74)) 74 #[.int .i64 0, .int .i64 0]
  have b2 : Below w.heap.size w ((w.alloc (.cells #[.int .i64 0, .int .i64 0] 74)).alloc (.cells #[.int .i64 0, .int .i64 0] 74)) := by
    repeat (first | exact Below.refl _ _ | assumption | refine Below.drew ?_ | refine Below.alloc ?_ (by first | omega | (simp only [World.size_alloc]; omega) | simp) _ | refine Below.setCell ?_ (by first | omega | (simp only [World.size_alloc]; omega) | simp) _)
  rw [World.size_alloc] at b1
  generalize World.alloc (World.alloc w _) _ = W0 at b0 b1 b2 ⊢
  go_loopw [11] (fun i wr => ∃ k : Nat, k ≤ hs.length ∧ i = .int .i64 k ∧ Blk wr w.heap.size 74 #[.int .i64 0, .int .i64 0] ∧
    Blk wr (w.heap.size + 1) 74 #[.int .i64 (together (hs.take k) g).least, .int .i64 (together (hs.take k) g).most] ∧ Below w.heap.size w wr) (fun i _ => hs.length - (intOf i).toNat)
  case atStart => exact ⟨0, by omega, rfl, b0, b1, b2⟩
  case round =>
    clear b0 b1 b2
    obtain ⟨k, hk, rfl, b0, b1, hB⟩ := hrel
    by_cases hlt : k < hs.length
    · have c0 := HC.out k hlt
      rw [← hB.cell (p := ⟨ag, _, none⟩) hag] at c0
      unfold adderV Held.vals at c0
      have HA := Lib.hid (adds_any hs[k] v g wr (HO.out _ (List.getElem_mem hlt)) (HM.out.at_ hB))
      have HT : Hid (together (hs.take (k + 1)) g = (together (hs.take k) g).plus (hs[k].adds g)) := by
        show _ = _
        rw [List.take_succ_eq_append_getElem hlt, together_snoc]
      have hbd1 := together_bd (by omega) HG.out (hs.take k) (fun h hh => HO.out h (List.mem_of_mem_take hh))
      have hbd2 := adds_bd (HO.out _ (List.getElem_mem hlt)) HG.out (by omega)
      have hlen : (hs.take k).length = k := by simp; omega
      rw [hlen] at hbd1
      clear hlen
      obtain ⟨r1, r2, r3, r4⟩ := hbd1
      obtain ⟨r5, r6, r7, r8⟩ := hbd2
      go_wp2_with (go_at_call 54; refine HA.out.mono ?_; rintro e W1 ⟨rfl, hb1⟩; have HB1 := Lib.hid hb1; have B0 := Lib.hid (b0.below hb1 b0.lt); have B1 := Lib.hid (b1.below hb1 b1.lt); have l1 := B1.out.lt; have d0 := B1.out.cell 0; have d1 := B1.out.cell 1; have f0 := B1.out.frozen 0; have f1 := B1.out.frozen 1; clear hb1 b0 b1 c0)
      go_roundw
      case rel =>
        refine ⟨k + 1, by omega, by go_num, ?_, ?_, ?_⟩
        · exact ((B0.out.far (p := ⟨w.heap.size + 1, 0, none⟩) (by simp) _).far (p := ⟨w.heap.size + 1, 1, none⟩) (by simp) _).alloc _
        · rw [HT.out]
          exact ((B1.out.set_ 0 _).set_ 1 _).alloc _
        · have h1 := hB.trans (HB1.out.mono hB.size)
          have h2 := (h1.setCell (p := ⟨w.heap.size + 1, 0, none⟩) (by simp) (.int .i64 ((together (List.take k hs) g).least + (hs[k].adds g).least))).setCell (p := ⟨w.heap.size + 1, 1, none⟩) (by simp) (.int .i64 ((together (List.take k hs) g).most + (hs[k].adds g).most))
          exact h2.alloc h2.size _
      case measure => simp [intOf]; omega
    · obtain rfl : k = hs.length := by omega
      rw [List.take_length] at b1
      have l1 := b1.lt
      have d0 := b1.cell 0
      have d1 := b1.cell 1
      have e0 := b0.cell 0
      have e1 := b0.cell 1
      have f0 := b0.frozen 0
      have f1 := b0.frozen 1
      clear b0 b1
      go_wp2
      exact bodyPost_ret (v := .agg #[.int .i64 (together hs g).least, .int .i64 (together hs g).most]) (by simp [results, Try.results34, go_sem, e0, e1]) rfl ⟨rfl, (hB.setCell (p := ⟨w.heap.size, 0, none⟩) (by simp) _).setCell (p := ⟨w.heap.size, 1, none⟩) (by simp) _⟩
end Go.Proofs.Ytoiggflhfbfiiaa
