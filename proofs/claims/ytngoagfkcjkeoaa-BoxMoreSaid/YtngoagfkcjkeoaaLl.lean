/- tally.lacking, tally.canFill. -/
import Derived.Test.YtngoagfkcjkeoaaLk
namespace Go.Proofs.Ytngoagfkcjkeoaa
open Go.RowKit Go.Shelf
attribute [local go_sem] Oper.semAt_some

def shortC (cf : Nat → Int × Int) (b : Int) (s : Nat) : Bool := decide ((cf s).1 < (cf s).2 * b)
def lackingC (cf : Nat → Int × Int) (m : Nat) (b : Int) : Nat := ((setsS m).find? (shortC cf b)).getD 0
def CountIn (cf : Nat → Int × Int) : Prop := ∀ s, (-1000000000 ≤ (cf s).1 ∧ (cf s).1 ≤ 1000000000) ∧ -1000000000 ≤ (cf s).2 ∧ (cf s).2 ≤ 1000000000
theorem find_take {p : Nat → Bool} {l pre : List Nat} {s k : Nat} (h : l.take k = pre ++ [s]) (hp : ∀ t ∈ pre, p t = false) (hs : p s = true) : (l.find? p).getD 0 = s := by
  have e : l = pre ++ [s] ++ l.drop k := by rw [← h, List.take_append_drop]
  rw [e, List.append_assoc, List.find?_append, List.find?_eq_none.2 (fun t ht => by rw [hp t ht]; simp), Option.none_or]
  simp [hs]
theorem find_none {p : Nat → Bool} {l : List Nat} (hp : ∀ t ∈ l, p t = false) : (l.find? p).getD 0 = 0 := by
  rw [List.find?_eq_none.2 (fun t ht => by rw [hp t ht]; simp)]
  rfl
theorem mul_bd {x y A B : Int} (h1 : -A ≤ x) (h2 : x ≤ A) (h3 : -B ≤ y) (h4 : y ≤ B) : -(A * B) ≤ x * y ∧ x * y ≤ A * B := by
  have hA : 0 ≤ A := by omega
  have hB : 0 ≤ B := by omega
  have e1 : x.natAbs ≤ A.toNat := by omega
  have e2 : y.natAbs ≤ B.toNat := by omega
  have e3 := Nat.mul_le_mul e1 e2
  rw [← Int.natAbs_mul] at e3
  have e4 : ((A.toNat * B.toNat : Nat) : Int) = A * B := by rw [Int.natCast_mul, Int.toNat_of_nonneg hA, Int.toNat_of_nonneg hB]
  omega
theorem ret_int9 {a b : Int} (h : b = a) : Ending.returned (.int .i64 a) = .returned (.int .i64 b) := by rw [h]
/-- What lies in the boxes. -/
structure LcS (w : World) (r m : Nat) (b v : Int) (W : World) : Prop where
  hb : Below w.heap.size w W
  k2 : Blk W w.heap.size 73 #[.int .i64 (m : Int), .map (some r)]
  k3 : Blk W (w.heap.size + 1) 3 #[.int .i64 b]
  k4 : Blk W (w.heap.size + 1 + 1) 77 #[.int .i64 v]
section
variable {w : World} {r m : Nat} {b v : Int} {W W' : World}
theorem LcS.low (h : LcS w r m b v W) {B : Nat} (hb : Below B W W') (hB : w.heap.size + 1 + 1 < B) : LcS w r m b v W' := ⟨h.hb.trans (hb.mono (by omega)), h.k2.below hb (by omega), h.k3.below hb (by omega), h.k4.below hb (by omega)⟩
theorem LcS.call (h : LcS w r m b v W) (hb : Below W.heap.size W W') : LcS w r m b v W' := h.low hb h.k4.lt
theorem blk9 (W : World) {g : Nat} (t : TypeId) {cs : Array Value} (hg : g = W.heap.size) : Blk (W.alloc (.cells cs t)) g t cs := by subst hg; exact Blk.new _ _ _
theorem LcS.start (w : World) (r m : Nat) (b : Int) : LcS w r m b 0 (((w.alloc (.cells #[.int .i64 (m : Int), .map (some r)] 73)).alloc (.cells #[.int .i64 b] 3)).alloc (.cells #[.int .i64 0] 77)) := ⟨by repeat (first | exact Below.refl _ _ | assumption | refine Below.drew ?_ | refine Below.alloc ?_ (by first | omega | (simp only [World.size_alloc]; omega) | simp) _ | refine Below.setCell ?_ (by first | omega | (simp only [World.size_alloc]; omega) | simp) _), ((Blk.new _ _ _).alloc _).alloc _, (blk9 _ _ (by simp)).alloc _, blk9 _ _ (by simp)⟩
theorem LcS.put (h : LcS w r m b v W) (x : Int) : LcS w r m b x (W.setCell ⟨w.heap.size + 1 + 1, 0, none⟩ (.int .i64 x)) := ⟨h.hb.setCell (by simp only []; omega) _, h.k2.far (by simp only []; omega) _, h.k3.far (by simp only []; omega) _, h.k4.set_ 0 _⟩
end
set_option maxRecDepth 100000 in
set_option maxHeartbeats 4000000 in
theorem lacking_any (w : World) (r m : Nat) (cf : Nat → Int × Int) (b : Int) (hm : m ≤ 8) (hT : TabAt w r m cf) (hc : CountIn cf) (hb : -1000000000 ≤ b ∧ b ≤ 1000000000) :
    Calls Try.prog 40 #[.agg #[.int .i64 (m : Int), .map (some r)], .int .i64 b] w (Ret (.int .i64 (lackingC cf m b : Int)) w) := by
  have HS := Lib.hid (LcS.start w r m b)
  have HT := Lib.hid hT
  have HC := Lib.hid hc
  have hm0 : (0 : Int) ≤ m := by omega
  have hm1 : (m : Int) ≤ 8 := by omega
  obtain ⟨hb0, hb1⟩ := hb
  clear hT hc
  refine (callsIn_wide (n := 10)).1 ?_
  refine callsIn_of_wp_marks Try.func40 rfl trivial ?_ rfl
  simp only [Try.ntmps40, List.size_toArray, List.length_cons, List.length_nil, Nat.reduceAdd, Nat.reduceSub, Array.replicate_succ, Array.replicate_zero, List.push_toArray, List.append_toArray, List.nil_append, List.cons_append]
  gi_wp2_with (refine ⟨trivial, ?_⟩; gi_at_call 62; refine (callsIn_wide.2 (sets_any _ m)).mono ?_; rintro e w' ⟨rfl, rfl⟩)
  have hq := blk9 (((w.alloc (.cells #[.int .i64 (m : Int), .map (some r)] 73)).alloc (.cells #[.int .i64 b] 3)).alloc (.cells #[.int .i64 0] 77)) (g := w.heap.size + 1 + 1 + 1) 3 (cs := #[.int .i64 (m : Int)]) (by simp)
  have HS0 := Lib.hid (HS.out.call ((Below.refl _ _).alloc (Nat.le_refl _) (.cells #[.int .i64 (m : Int)] 3)))
  have hz : ((((w.alloc (.cells #[.int .i64 (m : Int), .map (some r)] 73)).alloc (.cells #[.int .i64 b] 3)).alloc (.cells #[.int .i64 0] 77)).alloc (.cells #[.int .i64 (m : Int)] 3)).heap.size = w.heap.size + 1 + 1 + 1 + 1 := by simp
  clear HS
  generalize World.alloc (World.alloc (World.alloc (World.alloc w _) _) _) _ = W0 at hq HS0 hz ⊢
  have HZ := Lib.hid hz
  refine wpIn_rangeFunc_facts (n := 10) (by omega) (gf := 77) (lb := #[.pointer (some ⟨w.heap.size + 1 + 1 + 1, 0, none⟩)]) rfl (enters_of Try.func77 (by kernel_rfl) rfl)
    (sets_facts 9 (by omega) (w.heap.size + 1 + 1 + 1) m W0 hm hq) (fun a b => a.trans b) ?hKb (fun _ => rfl)
    (fun pre U => LcS w r m b 0 U ∧ (∀ t ∈ pre, shortC cf b t = false) ∧ w.heap.size + 1 + 1 + 1 + 1 ≤ U.heap.size)
    (fun cd pre U => cd = Code.ret ∧ ∃ pre0 s, pre = pre0 ++ [s] ∧ (∀ t ∈ pre0, shortC cf b t = false) ∧ shortC cf b s = true ∧ LcS w r m b (s : Int) U ∧ w.heap.size + 1 + 1 + 1 + 1 ≤ U.heap.size)
    ?hI ?hIx ?h0 (fun x a' U => SetFact m x U ∧ a' = { tmps := #[.agg #[.int .i64 (m : Int), .map (some r)], .int .i64 b, .pointer (some ⟨w.heap.size, 0, none⟩), .pointer (some ⟨w.heap.size + 1, 0, none⟩), .pointer (some ⟨w.heap.size + 1 + 1, 0, none⟩), .int .i64 (x : Int), undef, .pointer (some ⟨w.heap.size, 0, none⟩), .int .i64 (m : Int), .func (.func 77) #[] #[.pointer (some ⟨w.heap.size + 1 + 1 + 1, 0, none⟩)], .int .i64 (x : Int), undef, undef, undef, undef, undef, undef, undef, undef, undef, undef, undef, undef], defers := [] }) ?hAx ?assign ?body ?done ?stop
  case hKb =>
    intro U o'
    unfold SameAt World.putObj
    exact Array.getElem?_setIfInBounds_ne (by omega)
  case hI => exact own_of_low (fun _ _ h => by rw [HZ.out]; exact h.2.2) (fun _ _ _ h hb => ⟨h.1.low hb (by omega), h.2.1, Nat.le_trans h.2.2 hb.size⟩)
  case hIx =>
    intro cd
    refine own_of_low (fun _ _ h => ?_) (fun _ _ _ h hb => ?_)
    · obtain ⟨-, _, _, -, -, -, -, h9⟩ := h
      omega
    · obtain ⟨h1, p0, s, h2, h3, h4, h5, h6⟩ := h
      exact ⟨h1, p0, s, h2, h3, h4, h5.low hb (by omega), Nat.le_trans h6 hb.size⟩
  case h0 => exact ⟨HS0.out, fun t ht => by simp at ht, by omega⟩
  case hAx =>
    rintro x a' _ X Y row h1 hg2 hr
    exact h1
  case assign =>
    rintro l pre x U K hI hF hK
    unfold setV
    gi_wp2
    exact hK _ _ (KeepsFrom.refl _ _) rfl hI ⟨hF, rfl⟩
  case body =>
    rintro l pre x a' U ⟨hL, hno, hsz⟩ ⟨⟨hx1, hx2⟩, rfl⟩ hlen
    have hlk := (HT.out.below hL.hb HT.out.lt).look hx1 hx2
    have HSH : Hid (shortC cf b x = decide ((cf x).1 < (cf x).2 * b)) := Lib.hid rfl
    obtain ⟨⟨a0, a1⟩, a2, a3⟩ := HC.out x
    generalize (cf x).1 = h at *
    generalize (cf x).2 = nn at *
    have hmb := mul_bd a2 a3 hb0 hb1
    have hw : IntKind.i64.wrap (nn * b) = nn * b := IntWalk.i64_in _ ⟨by omega, by omega⟩
    have c1 := hL.k2.cell 1
    have c3 := hL.k3.cell 0
    have c4 := hL.k4.cell 0
    have f4 := hL.k4.frozen 0
    have l2 := hL.k2.lt
    have l3 := hL.k3.lt
    have l4 := hL.k4.lt
    have HL := Lib.hid (hL.call ((Below.refl _ _).alloc (Nat.le_refl _) (.cells #[.int .i64 h, .int .i64 nn] 112)))
    have HLP := Lib.hid ((hL.put (x : Int)).call ((Below.refl _ _).alloc (Nat.le_refl _) (.cells #[.int .i64 h, .int .i64 nn] 112)))
    have HNO := Lib.hid hno
    clear hno hL hmb a0 a1 a2 a3 hb0 hb1
    by_cases hlt : h < nn * b
    · gi_wp2
      refine ⟨((KeepsOthers.setCell _ _ _).trans (KeepsOthers.alloc _ _)).from _, rfl, pre, x, rfl, HNO.out, by rw [HSH.out]; exact decide_eq_true hlt, HLP.out, ?_⟩
      simp [World.setCell]; omega
    · gi_wp2
      refine ⟨(KeepsOthers.alloc _ _).from _, Below.heap_alloc _ _ _ (by omega), HL.out, fun t ht => ?_, ?_⟩
      · rcases List.mem_append.1 ht with ht | ht
        · exact HNO.out t ht
        · obtain rfl : t = x := by simpa using ht
          rw [HSH.out]; exact decide_eq_false (by omega)
      · simp; omega
  case done =>
    rintro D ys U hD rfl hI hK
    have HR : Hid (lackingC cf m b = 0) := Lib.hid (find_none hI.2.1)
    have c4 := hI.1.k4.cell 0
    have f4 := hI.1.k4.frozen 0
    have l4 := hI.1.k4.lt
    have HP := Lib.hid (hI.1.put 0)
    clear hI
    gi_wp2
    have eK := (KeepsOthers.setCell U ⟨w.heap.size + 1 + 1, 0, none⟩ (.int .i64 0)).same D _ hK rfl
    generalize World.setCell U _ _ = W2 at HP eK ⊢
    have e4 := HP.out.k4.kept (grownBy_putObj' W2 D (.deferred none)) (by simp; omega)
    have eB2 := HP.out.hb.trans (belowK_b (w := w) (Nat.le_refl _) W2 D _ (.deferred none) (by omega) eK rfl rfl)
    have d0 := e4.cell 0
    refine ⟨by simp, .inl ⟨_, _, rfl, run_takeDeferred eK, ?_⟩⟩
    refine ⟨.int .i64 0, ?_, ret_int9 (by rw [HR.out]; rfl), eB2⟩
    simp [results, Try.results40, go_sem, d0]
  case stop =>
    rintro D cd pre U hD hSp ⟨rfl, pre0, s, rfl, h3, h4, h5, h6⟩ hK
    obtain ⟨k9, hSp⟩ := hSp
    have HR : Hid (lackingC cf m b = s) := Lib.hid (find_take hSp.symm h3 h4)
    have e4 := h5.k4.kept (grownBy_putObj' U D (.deferred none)) (by simp; omega)
    have eB2 := h5.hb.trans (belowK_b (w := w) (Nat.le_refl _) U D _ (.deferred none) (by omega) hK rfl rfl)
    have d0 := e4.cell 0
    clear h3 h4 hSp
    gi_wp2
    refine ⟨by simp, .inl ⟨_, _, rfl, run_takeDeferred hK, ?_⟩⟩
    refine ⟨.int .i64 (s : Int), ?_, ret_int9 (by rw [HR.out]), eB2⟩
    simp [results, Try.results40, go_sem, d0]
end Go.Proofs.Ytngoagfkcjkeoaa
