/- Walks: unused. -/
import Derived.Test.YtngoagfkcjkeoaaLu
namespace Go.Proofs.Ytngoagfkcjkeoaa
open Go.RowKit Go.Shelf

theorem hasS_set (s : Nat) (p : Pile) : ∀ (l : List Pile) (k : Nat) (h : k < l.length), hasS (l.set k p) s = hasS l s - (if meetB l[k].shades s then l[k].many else 0) + (if meetB p.shades s then p.many else 0)
  | q :: l, 0, _ => by simp only [List.set_cons_zero, hasS, List.getElem_cons_zero]; omega
  | q :: l, k + 1, h => by
    have := hasS_set s p l k (by simpa using h)
    simp only [List.set_cons_succ, hasS, List.getElem_cons_succ, this]
    omega
def lessF (need : List Int) (l : List Pile) (b : Int) (pile : Nat) (h : pile < l.length) (n : Int) : Bool := canB need (l.set pile ⟨l[pile].shades, l[pile].many - n⟩) b
theorem less_anti {need : List Int} {l : List Pile} {b : Int} {pile : Nat} (h : pile < l.length) {i j : Int} (hij : i ≤ j) (hj : lessF need l b pile h j = true) : lessF need l b pile h i = true := by
  unfold lessF at *
  rw [can_iff] at *
  intro s h1 h2
  have h3 := hj s h1 h2
  rw [hasS_set _ _ _ _ h] at *
  simp only at *
  cases hm : meetB l[pile].shades s <;> simp [hm] at h3 ⊢ <;> omega
def RetUn (need : List Int) (l : List Pile) (b : Int) (pile : Nat) (h : pile < l.length) (w : World) (e : Ending) (w' : World) : Prop := ∃ r, e = .returned (.int .i64 r) ∧ GreatOf (lessF need l b pile h) l[pile].many r ∧ Below w.heap.size w w'
set_option maxRecDepth 100000 in
set_option maxHeartbeats 8000000 in
theorem unused_any (w : World) (A B : Option Addr) (c d pile : Nat) (need : List Int) (l : List Pile) (b : Int) (hN : NeedIn need) (hP : PilesIn l) (hp : pile < l.length) (hb : 0 ≤ b ∧ b ≤ 1048576) (hA : IntSl w w.heap.size A need) (hB : PileSl w w.heap.size B l) :
    Calls Try.prog 55 #[.slice A need.length d, .slice B l.length c, .int .i64 b, .int .i64 (pile : Int)] w (RetUn need l b pile hp w) := by
  obtain ⟨b0, off0, rfl, hb0, hat⟩ := hB (by intro e; rw [e] at hp; simp at hp)
  obtain ⟨q0, q1, q2⟩ := hP.2 l[pile] (List.getElem_mem hp)
  obtain ⟨x0, x1⟩ := hat pile hp
  have hpi : (pile : Int) < l.length := by omega
  have hp0 : (0 : Int) ≤ pile := by omega
  have hlL : (l.length : Int) ≤ 8 := by have := hP.1; omega
  have hb4 : Below w.heap.size w ((((w.alloc (.cells #[.slice A need.length d] 22)).alloc (.cells #[.slice (some ⟨b0, off0, none⟩) l.length c] 23)).alloc (.cells #[.int .i64 b] 3)).alloc (.cells #[.int .i64 (pile : Int)] 3)) := by repeat (first | exact Below.refl _ _ | assumption | refine Below.drew ?_ | refine Below.alloc ?_ (by first | omega | (simp only [World.size_alloc]; omega) | simp) _ | refine Below.setCell ?_ (by first | omega | (simp only [World.size_alloc]; omega) | simp) _)
  have k3 : Blk ((((w.alloc (.cells #[.slice A need.length d] 22)).alloc (.cells #[.slice (some ⟨b0, off0, none⟩) l.length c] 23)).alloc (.cells #[.int .i64 b] 3)).alloc (.cells #[.int .i64 (pile : Int)] 3)) w.heap.size 22 #[.slice A need.length d] := (((Blk.new _ _ _).alloc _).alloc _).alloc _
  have k1 : Blk ((((w.alloc (.cells #[.slice A need.length d] 22)).alloc (.cells #[.slice (some ⟨b0, off0, none⟩) l.length c] 23)).alloc (.cells #[.int .i64 b] 3)).alloc (.cells #[.int .i64 (pile : Int)] 3)) (w.heap.size + 1) 23 #[.slice (some ⟨b0, off0, none⟩) l.length c] := ((blk9 _ _ (by simp)).alloc _).alloc _
  have k4 : Blk ((((w.alloc (.cells #[.slice A need.length d] 22)).alloc (.cells #[.slice (some ⟨b0, off0, none⟩) l.length c] 23)).alloc (.cells #[.int .i64 b] 3)).alloc (.cells #[.int .i64 (pile : Int)] 3)) (w.heap.size + 1 + 1) 3 #[.int .i64 b] := (blk9 _ _ (by simp)).alloc _
  have k2 : Blk ((((w.alloc (.cells #[.slice A need.length d] 22)).alloc (.cells #[.slice (some ⟨b0, off0, none⟩) l.length c] 23)).alloc (.cells #[.int .i64 b] 3)).alloc (.cells #[.int .i64 (pile : Int)] 3)) (w.heap.size + 1 + 1 + 1) 3 #[.int .i64 (pile : Int)] := blk9 _ _ (by simp)
  have HX := Lib.hid x1
  have HAT := Lib.hid hat
  have HA := Lib.hid hA
  have HNI := Lib.hid hN
  have HPI := Lib.hid hP
  have HK4 := Lib.hid (And.intro hb4 (And.intro k1 (And.intro k2 (And.intro k3 k4))))
  clear x0 x1 hat hA hN hP hb4 k1 k2 k3 k4 hB
  go_enter Try.func55, Try.ntmps55
  go_upto_region 1 with fail
  generalize World.alloc (World.alloc (World.alloc (World.alloc w _) _) _) _ = w4 at *
  obtain ⟨hb4, k1, k2, k3, k4⟩ := HK4.out
  have c1 := k1.cell 0
  have c2 := k2.cell 0
  have c5 := (hb4.cell (p := ⟨b0, off0 + pile * 2 + 1, none⟩) hb0).trans HX.out
  have HI : Hid (∀ v : Value, v = .func (.func 70) #[] #[.pointer (some ⟨w.heap.size + 1, 0, none⟩), .pointer (some ⟨w.heap.size + 1 + 1 + 1, 0, none⟩), .pointer (some ⟨w.heap.size, 0, none⟩), .pointer (some ⟨w.heap.size + 1 + 1, 0, none⟩)] → IsCan w4 w4.heap.size v l[pile].many (lessF need l b pile hp)) := Lib.hid fun v hv => by
    refine ⟨70, #[], _, hv, enters_of Try.func70 (by kernel_rfl) rfl, fun W i hW h0 hM => ?_⟩
    have h9 := unused1_any W (w.heap.size + 1) (w.heap.size + 1 + 1 + 1) w.heap.size (w.heap.size + 1 + 1) b0 off0 c d pile A need l i b HNI.out HPI.out hp ⟨h0, hM⟩ hb (k1.below hW k1.lt) (k2.below hW k2.lt) (k3.below hW k3.lt) (k4.below hW k4.lt) (Nat.lt_of_lt_of_le hb0 (Nat.le_trans hb4.size hW.size)) ((HAT.out.below hb4 hb0).below hW (Nat.lt_of_lt_of_le hb0 hb4.size)) ((HA.out.on hb4 (Nat.le_refl _)).on hW (Nat.le_refl _))
    exact h9
  have HG := Lib.hid (greatest_any w4 _ l[pile].many (lessF need l b pile hp) q1 (by omega) (HI.out _ rfl) (fun i j _ hij _ h => less_anti hp hij h))
  have HB4 := Lib.hid hb4
  have HRU : Hid (∀ r w', GreatOf (lessF need l b pile hp) l[pile].many r → Below w.heap.size w w' → RetUn need l b pile hp w (.returned (.int .i64 r)) w') := Lib.hid fun r w' h1 h2 => ⟨r, rfl, h1, h2⟩
  generalize lessF need l b pile hp = f at *
  generalize RetUn need l b pile hp w = Q at *
  generalize l[pile].many = mn at *
  clear k1 k2 k3 k4 hb4 HK4 HI
  go_wp2_with fail
  refine HG.out.mono ?_
  rintro e w5 ⟨r, rfl, hg, hb5⟩
  have HH := Lib.hid (HRU.out r w5 hg (HB4.out.trans (hb5.mono HB4.out.size)))
  clear hg hb5
  go_wp2_with fail
  exact HH.out
end Go.Proofs.Ytngoagfkcjkeoaa
