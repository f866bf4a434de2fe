/- tally.canSell. -/
import Derived.Test.YtngoagfkcjkeoaaLp
namespace Go.Proofs.Ytngoagfkcjkeoaa
open Go.RowKit Go.Shelf
attribute [local go_sem] Oper.semAt_some

def badC (cf : Nat → Int × Int) (o as_ : Nat) (p : Int) (s : Nat) : Bool := !s.testBit as_ && (s &&& o != 0) && decide ((cf s).1 - p < (cf s).2)
def canSellC (cf : Nat → Int × Int) (m o as_ : Nat) (p : Int) : Bool := (setsS m).all fun s => !badC cf o as_ p s
structure CsS (w : World) (r m o q : Nat) (p : Int) (v : Bool) (W : World) : Prop where
  hb : Below w.heap.size w W
  k2 : Blk W w.heap.size 73 #[.int .i64 (m : Int), .map (some r)]
  k3 : Blk W (w.heap.size + 1) 114 #[.int .i64 (o : Int), .int .i64 (q : Int), .int .i64 p]
  k5 : Blk W (w.heap.size + 1 + 1) 4 #[.bool v]
section
variable {w : World} {r m o q : Nat} {p : Int} {v : Bool} {W W' : World}
theorem CsS.low (h : CsS w r m o q p v W) {B : Nat} (hb : Below B W W') (hB : w.heap.size + 1 + 1 < B) : CsS w r m o q p v W' := ⟨h.hb.trans (hb.mono (by omega)), h.k2.below hb (by omega), h.k3.below hb (by omega), h.k5.below hb (by omega)⟩
theorem CsS.call (h : CsS w r m o q p v W) (hb : Below W.heap.size W W') : CsS w r m o q p v W' := h.low hb h.k5.lt
theorem CsS.start (w : World) (r m o q : Nat) (p : Int) : CsS w r m o q p true (((w.alloc (.cells #[.int .i64 (m : Int), .map (some r)] 73)).alloc (.cells #[.int .i64 (o : Int), .int .i64 (q : Int), .int .i64 p] 114)).alloc (.cells #[.bool true] 4)) := ⟨by repeat (first | exact Below.refl _ _ | assumption | refine Below.drew ?_ | refine Below.alloc ?_ (by first | omega | (simp only [World.size_alloc]; omega) | simp) _ | refine Below.setCell ?_ (by first | omega | (simp only [World.size_alloc]; omega) | simp) _), ((Blk.new _ _ _).alloc _).alloc _, (blk9 _ _ (by simp)).alloc _, blk9 _ _ (by simp)⟩
theorem CsS.put (h : CsS w r m o q p v W) : CsS w r m o q p false (W.setCell ⟨w.heap.size + 1 + 1, 0, none⟩ (.bool false)) := ⟨h.hb.setCell (by simp only []; omega) _, h.k2.far (by simp only []; omega) _, h.k3.far (by simp only []; omega) _, h.k5.set_ 0 _⟩
end
set_option maxRecDepth 100000 in
set_option maxHeartbeats 8000000 in
theorem canSell_any (w : World) (r m o q : Nat) (cf : Nat → Int × Int) (p : Int) (hm : m ≤ 8) (ho : o < 256) (hq8 : q < 8) (hT : TabAt w r m cf) (hc : CountIn cf) (hp : -1000000000 ≤ p ∧ p ≤ 1000000000) :
    Calls Try.prog 67 #[.agg #[.int .i64 (m : Int), .map (some r)], .agg #[.int .i64 (o : Int), .int .i64 (q : Int), .int .i64 p]] w (Ret (.bool (canSellC cf m o q p)) w) := by
  have HS := Lib.hid (CsS.start w r m o q p)
  have HT := Lib.hid hT
  have HC := Lib.hid hc
  have HP2 : Hid (2 ^ m ≤ 256) := Lib.hid (Nat.pow_le_pow_right (by omega) hm : 2 ^ m ≤ 2 ^ 8)
  have hm0 : (0 : Int) ≤ m := by omega
  have hm1 : (m : Int) ≤ 8 := by omega
  obtain ⟨hp0, hp1⟩ := hp
  clear hT hc
  refine (callsIn_wide (n := 10)).1 ?_
  refine callsIn_of_wp_marks Try.func67 rfl trivial ?_ rfl
  simp only [Try.ntmps67, List.size_toArray, List.length_cons, List.length_nil, Nat.reduceAdd, Nat.reduceSub, Array.replicate_succ, Array.replicate_zero, List.push_toArray, List.append_toArray, List.nil_append, List.cons_append]
  gi_wp2_with fail
  refine wpIn_wide.2 ?_
  go_step3
  go_wp2_with fail
  go_step3
  go_wp2_with fail
  refine (sets_any _ m).mono ?_
  rintro e w' ⟨rfl, rfl⟩
  go_wp2_with fail
  refine (wpIn_wide (n := 10)).1 ?_
  have hq := blk9 (((w.alloc (.cells #[.int .i64 (m : Int), .map (some r)] 73)).alloc (.cells #[.int .i64 (o : Int), .int .i64 (q : Int), .int .i64 p] 114)).alloc (.cells #[.bool true] 4)) (g := w.heap.size + 1 + 1 + 1) 3 (cs := #[.int .i64 (m : Int)]) (by simp)
  have HS0 := Lib.hid (HS.out.call ((Below.refl _ _).alloc (Nat.le_refl _) (.cells #[.int .i64 (m : Int)] 3)))
  have hz : ((((w.alloc (.cells #[.int .i64 (m : Int), .map (some r)] 73)).alloc (.cells #[.int .i64 (o : Int), .int .i64 (q : Int), .int .i64 p] 114)).alloc (.cells #[.bool true] 4)).alloc (.cells #[.int .i64 (m : Int)] 3)).heap.size = w.heap.size + 1 + 1 + 1 + 1 := by simp
  clear HS
  generalize World.alloc (World.alloc (World.alloc (World.alloc w _) _) _) _ = W0 at hq HS0 hz ⊢
  have HZ := Lib.hid hz
  refine wpIn_rangeFunc_facts (n := 10) (by omega) (gf := 77) (lb := #[.pointer (some ⟨w.heap.size + 1 + 1 + 1, 0, none⟩)]) rfl (enters_of Try.func77 (by kernel_rfl) rfl)
    (sets_facts 9 (by omega) (w.heap.size + 1 + 1 + 1) m W0 hm hq) (fun a b => a.trans b) ?hKb (fun _ => rfl)
    (fun pre U => CsS w r m o q p true U ∧ (∀ t ∈ pre, badC cf o q p t = false) ∧ w.heap.size + 1 + 1 + 1 + 1 ≤ U.heap.size)
    (fun cd pre U => cd = Code.exit 0 ∧ (∃ t ∈ pre, badC cf o q p t = true) ∧ CsS w r m o q p false U ∧ w.heap.size + 1 + 1 + 1 + 1 ≤ U.heap.size)
    ?hI ?hIx ?h0 (fun x a' U => SetFact m x U ∧ a' = { tmps := #[.agg #[.int .i64 (m : Int), .map (some r)], .agg #[.int .i64 (o : Int), .int .i64 (q : Int), .int .i64 p], .pointer (some ⟨w.heap.size, 0, none⟩), .pointer (some ⟨w.heap.size + 1, 0, none⟩), .bool false, .pointer (some ⟨w.heap.size + 1 + 1, 0, none⟩), .int .i64 (x : Int), undef, .pointer (some ⟨w.heap.size, 0, none⟩), .int .i64 (m : Int), .func (.func 77) #[] #[.pointer (some ⟨w.heap.size + 1 + 1 + 1, 0, none⟩)], .int .i64 (x : Int), undef, undef, undef, undef, undef, undef, undef, undef, undef, undef, undef, undef, undef, undef, undef, undef, undef, undef, undef, undef, undef, undef, undef, undef, undef, undef], defers := [] }) ?hAx ?assign ?body ?done ?stop
  case hKb =>
    intro U o'
    unfold SameAt World.putObj
    exact Array.getElem?_setIfInBounds_ne (by omega)
  case hI => exact own_of_low (fun _ _ h => by rw [HZ.out]; exact h.2.2) (fun _ _ _ h hb => ⟨h.1.low hb (by omega), h.2.1, Nat.le_trans h.2.2 hb.size⟩)
  case hIx =>
    intro cd
    exact own_of_low (fun _ _ h => by rw [HZ.out]; exact h.2.2.2) (fun _ _ _ h hb => ⟨h.1, h.2.1, h.2.2.1.low hb (by omega), Nat.le_trans h.2.2.2 hb.size⟩)
  case h0 => exact ⟨HS0.out, fun t ht => by simp at ht, by omega⟩
  case hAx =>
    rintro x a' _ X Y row h1 hg2 hr
    exact h1
  case assign =>
    rintro l pre x U K hI hF hK
    unfold setV
    gi_wp2
    exact hK _ _ (KeepsFrom.refl _ _) rfl hI ⟨hF, rfl⟩
  case body =>
    rintro l pre x a' U ⟨hL, hno, hsz⟩ ⟨⟨hx1, hx2⟩, rfl⟩ hlen
    have hx8 : x < 256 := by have := HP2.out; omega
    have hlk := (HT.out.below hL.hb HT.out.lt).look hx1 hx2
    have HSH : Hid (badC cf o q p x = (!x.testBit q && (x &&& o != 0) && decide ((cf x).1 - p < (cf x).2))) := Lib.hid rfl
    obtain ⟨⟨a0, a1⟩, a2, a3⟩ := HC.out x
    generalize (cf x).1 = h at *
    generalize (cf x).2 = nn at *
    have hw : IntKind.i64.wrap (h - p) = h - p := IntWalk.i64_in _ ⟨by omega, by omega⟩
    have c1 := hL.k2.cell 1
    have c30 := hL.k3.cell 0
    have c31 := hL.k3.cell 1
    have c32 := hL.k3.cell 2
    have c5 := hL.k5.cell 0
    have f5 := hL.k5.frozen 0
    have l2 := hL.k2.lt
    have l3 := hL.k3.lt
    have l5 := hL.k5.lt
    have HL := Lib.hid (hL.call ((Below.refl _ _).alloc (Nat.le_refl _) (.cells #[.int .i64 h, .int .i64 nn] 112)))
    have HLP := Lib.hid ((hL.put).call ((Below.refl _ _).alloc (Nat.le_refl _) (.cells #[.int .i64 h, .int .i64 nn] 112)))
    have HNO := Lib.hid hno
    have HGO : Hid (badC cf o q p x = false → (KeepsFrom W0.heap.size U (U.alloc (.cells #[.int .i64 h, .int .i64 nn] 112)) ∧ SameAt (w.heap.size + 1 + 1 + 1) U (U.alloc (.cells #[.int .i64 h, .int .i64 nn] 112)) ∧ CsS w r m o q p true (U.alloc (.cells #[.int .i64 h, .int .i64 nn] 112)) ∧ (∀ t ∈ pre ++ [x], badC cf o q p t = false) ∧ w.heap.size + 1 + 1 + 1 + 1 ≤ (U.alloc (.cells #[.int .i64 h, .int .i64 nn] 112)).heap.size)) := Lib.hid fun hbad =>
      ⟨(KeepsOthers.alloc _ _).from _, Below.heap_alloc _ _ _ (by omega), HL.out, fun t ht => by
        rcases List.mem_append.1 ht with ht | ht
        · exact HNO.out t ht
        · obtain rfl : t = x := by simpa using ht
          exact hbad, by simp; omega⟩
    clear hno hL a0 a1 a2 a3 hlen hx1 hx2
    cases hh : x.testBit q with
    | true =>
      rw [hh] at HSH
      gi_wp2_with (refine ⟨trivial, ?_⟩; go_simp; refine (CallsIn.inRound l (callsIn_wide.2 (holds_any x q _ hx8 hq8))).mono ?_; rintro e W1 ⟨rfl, rfl⟩; rw [hh])
      refine ⟨trivial, ?_⟩
      gi_wp2_with fail
      exact HGO.out (by rw [HSH.out]; rfl)
    | false =>
      cases hmt : (x &&& o != 0) with
      | false =>
        rw [hh, hmt] at HSH
        gi_wp2_with (refine ⟨trivial, ?_⟩; go_simp; first | (refine (CallsIn.inRound l (callsIn_wide.2 (holds_any x q _ hx8 hq8))).mono ?_; rintro e W1 ⟨rfl, rfl⟩; rw [hh]) | (refine (CallsIn.inRound l (callsIn_wide.2 (meets_any x o _ hx8 ho))).mono ?_; rintro e W1 ⟨rfl, rfl⟩; rw [hmt]))
        exact HGO.out (by rw [HSH.out]; rfl)
      | true =>
        rw [hh, hmt] at HSH
        by_cases hlt : h - p < nn
        · gi_wp2_with (refine ⟨trivial, ?_⟩; go_simp; first | (refine (CallsIn.inRound l (callsIn_wide.2 (holds_any x q _ hx8 hq8))).mono ?_; rintro e W1 ⟨rfl, rfl⟩; rw [hh]) | (refine (CallsIn.inRound l (callsIn_wide.2 (meets_any x o _ hx8 ho))).mono ?_; rintro e W1 ⟨rfl, rfl⟩; rw [hmt]))
          refine ⟨((KeepsOthers.setCell _ _ _).trans (KeepsOthers.alloc _ _)).from _, rfl, ⟨x, by simp, by rw [HSH.out, decide_eq_true hlt]; rfl⟩, HLP.out, ?_⟩
          simp [World.setCell]; omega
        · gi_wp2_with (refine ⟨trivial, ?_⟩; go_simp; first | (refine (CallsIn.inRound l (callsIn_wide.2 (holds_any x q _ hx8 hq8))).mono ?_; rintro e W1 ⟨rfl, rfl⟩; rw [hh]) | (refine (CallsIn.inRound l (callsIn_wide.2 (meets_any x o _ hx8 ho))).mono ?_; rintro e W1 ⟨rfl, rfl⟩; rw [hmt]))
          exact HGO.out (by rw [HSH.out, decide_eq_false (by omega)]; rfl)
  case done =>
    rintro D ys U hD rfl hI hK
    have HR : Hid (canSellC cf m o q p = true) := Lib.hid (List.all_eq_true.2 fun s hs => by rw [hI.2.1 s hs]; rfl)
    have c5 := hI.1.k5.cell 0
    have HL := Lib.hid hI.1
    have hsz := hI.2.2
    clear hI
    go_wp2_with fail
    have eB2 := HL.out.hb.trans (belowK_b (w := w) (Nat.le_refl _) U D _ (.deferred none) (by omega) hK rfl rfl)
    refine ⟨by simp, .inl ⟨_, _, rfl, run_takeDeferred hK, ?_⟩⟩
    refine ⟨.bool true, ?_, by rw [HR.out], eB2⟩
    simp [results, Try.results67, go_sem]
  case stop =>
    rintro D cd pre U hD hSp ⟨rfl, ⟨t, ht, hbad⟩, hL, hsz⟩ hK
    obtain ⟨k9, hSp⟩ := hSp
    have HR : Hid (canSellC cf m o q p = false) := Lib.hid (by
      cases hcs : canSellC cf m o q p with
      | false => rfl
      | true =>
        have h9 := List.all_eq_true.1 hcs t (List.mem_of_mem_take (hSp ▸ ht))
        rw [hbad] at h9; cases h9)
    have c5 := hL.k5.cell 0
    have HL := Lib.hid hL
    clear hL hSp ht hbad
    gi_wp2_with fail
    go_wp2_with fail
    have eB2 := HL.out.hb.trans (belowK_b (w := w) (Nat.le_refl _) U D _ (.deferred none) (by omega) hK rfl rfl)
    refine ⟨by simp, .inl ⟨_, _, rfl, run_takeDeferred hK, ?_⟩⟩
    refine ⟨.bool false, ?_, by rw [HR.out], eB2⟩
    simp [results, Try.results67, go_sem]
end Go.Proofs.Ytngoagfkcjkeoaa
