/- tally.sell. -/
import Derived.Test.YtngoagfkcjkeoaaLq
namespace Go.Proofs.Ytngoagfkcjkeoaa
open Go.RowKit Go.Shelf
attribute [local go_sem] Oper.semAt_some

def sold1 (o q : Nat) (p : Int) (s : Nat) (x : Int × Int) : Int × Int := (if (s &&& o != 0) = true then x.1 - p else x.1, if s.testBit q = true then x.2 - p else x.2)
def stF (cf : Nat → Int × Int) (o q : Nat) (p : Int) (l : List Nat) : Nat → Int × Int := l.foldl (fun g s => setF g s (sold1 o q p s (g s))) cf
theorem stF_snoc (cf : Nat → Int × Int) (o q : Nat) (p : Int) (pre : List Nat) (x : Nat) : stF cf o q p (pre ++ [x]) = setF (stF cf o q p pre) x (sold1 o q p x (stF cf o q p pre x)) := by unfold stF; rw [List.foldl_append]; rfl
theorem stF_at (o q : Nat) (p : Int) : ∀ (l : List Nat) (cf : Nat → Int × Int), l.Nodup → ∀ s ∈ l, stF cf o q p l s = sold1 o q p s (cf s)
  | [], _, _, s, h => by simp at h
  | a :: r, cf, hn, s, h => by
    have hr := List.nodup_cons.1 hn
    have keep : ∀ (l : List Nat) (g : Nat → Int × Int), a ∉ l → stF g o q p l a = g a := by
      intro l
      induction l with
      | nil => intro g _; rfl
      | cons b t ih =>
        intro g hb
        have := ih (setF g b (sold1 o q p b (g b))) (fun h => hb (List.mem_cons_of_mem _ h))
        unfold stF at *
        rw [List.foldl_cons, this]
        unfold setF
        rw [if_neg (fun e => hb (by rw [e]; exact List.mem_cons_self))]
    show stF (setF cf a (sold1 o q p a (cf a))) o q p r s = _
    rcases List.mem_cons.1 h with rfl | h
    · rw [keep r _ hr.1]; unfold setF; rw [if_pos rfl]
    · rw [stF_at o q p r _ hr.2 s h]
      unfold setF
      rw [if_neg (fun e => hr.1 (by rw [← e]; exact h))]
theorem sets_nodup (m : Nat) : (setsS m).Nodup := List.nodup_range'
def soldF (cf : Nat → Int × Int) (o q : Nat) (p : Int) : Nat → Int × Int := fun s => sold1 o q p s (cf s)
theorem TabAt.congr {W : World} {r m : Nat} {cf cg : Nat → Int × Int} (h : TabAt W r m cf) (he : ∀ s ∈ setsS m, cf s = cg s) : TabAt W r m cg := by
  unfold TabAt at *
  rw [show tabF cg (setsS m) = tabF cf (setsS m) from List.map_congr_left (fun s hs => by rw [he s hs])]
  exact h
def CountM (M : Int) (cf : Nat → Int × Int) : Prop := ∀ s, (-M ≤ (cf s).1 ∧ (cf s).1 ≤ M) ∧ -M ≤ (cf s).2 ∧ (cf s).2 ≤ M
theorem sold1_bd {M p : Int} {o q s : Nat} {x : Int × Int} (hp : 0 ≤ p) (h : (-M ≤ x.1 ∧ x.1 ≤ M) ∧ -M ≤ x.2 ∧ x.2 ≤ M) : (-(M + p) ≤ (sold1 o q p s x).1 ∧ (sold1 o q p s x).1 ≤ M + p) ∧ -(M + p) ≤ (sold1 o q p s x).2 ∧ (sold1 o q p s x).2 ≤ M + p := by
  unfold sold1
  dsimp only
  refine ⟨?_, ?_⟩
  · split <;> omega
  · split <;> omega
theorem sold_bd {M p : Int} {cf : Nat → Int × Int} {o q : Nat} (hp : 0 ≤ p) (h : CountM M cf) : CountM (M + p) (soldF cf o q p) := fun s => sold1_bd hp (h s)
theorem stF_bd {M p : Int} {o q : Nat} (hp : 0 ≤ p) : ∀ (l : List Nat) (cf : Nat → Int × Int), CountM M cf → CountM (M + p * l.length) (stF cf o q p l) := by
  intro l
  induction l generalizing M with
  | nil => intro cf h s; have := h s; simp [stF]; omega
  | cons a r ih =>
    intro cf h
    have h1 : CountM (M + p) (setF cf a (sold1 o q p a (cf a))) := fun s => by
      unfold setF
      split
      · exact sold1_bd hp (h a)
      · have := h s; omega
    have h2 := ih (M := M + p) _ h1
    have e : M + p + p * (r.length : Int) = M + p * ((a :: r).length : Int) := by
      rw [List.length_cons, Int.natCast_add, Int.mul_add]; simp; omega
    rw [e] at h2
    exact h2
structure SeS (w : World) (r m o q : Nat) (p : Int) (cf : Nat → Int × Int) (pre : List Nat) (W : World) : Prop where
  hg : w.grownBy W (some r)
  k2 : Blk W w.heap.size 73 #[.int .i64 (m : Int), .map (some r)]
  k3 : Blk W (w.heap.size + 1) 114 #[.int .i64 (o : Int), .int .i64 (q : Int), .int .i64 p]
  tab : TabAt W r m (stF cf o q p pre)
theorem gr_trans9 {A B C : World} {m : Nat} (h : A.grownBy B (some m)) (k : B.grownBy C (some m)) : A.grownBy C (some m) := ⟨k.os.trans h.os, k.tape.trans h.tape, k.output.trans h.output, Nat.le_trans h.size k.size, fun i hi hne => (k.block i (Nat.lt_of_lt_of_le hi h.size) hne).trans (h.block i hi hne)⟩
theorem gr_below9 {W W' : World} {m : Nat} (h : Below W.heap.size W W') : W.grownBy W' (some m) := ⟨h.os, h.tape, h.output, h.size, fun i hi _ => h.block i hi⟩
section
variable {w : World} {r m o q : Nat} {p : Int} {cf : Nat → Int × Int} {pre : List Nat} {W W' : World}
theorem SeS.low (h : SeS w r m o q p cf pre W) {B : Nat} (hb : Below B W W') (hB : w.heap.size + 1 < B) (hr : r < w.heap.size) : SeS w r m o q p cf pre W' :=
  ⟨⟨hb.os.trans h.hg.os, hb.tape.trans h.hg.tape, hb.output.trans h.hg.output, Nat.le_trans h.hg.size hb.size, fun i hi hne => (hb.block i (by omega)).trans (h.hg.block i hi hne)⟩, h.k2.below hb (by omega), h.k3.below hb (by omega), h.tab.below hb (by omega)⟩
theorem SeS.call (h : SeS w r m o q p cf pre W) (hb : Below W.heap.size W W') (hr : r < w.heap.size) : SeS w r m o q p cf pre W' := h.low hb h.k3.lt hr
end
/-- What selling does: the table alone is changed. -/
def RetSe (r m o q : Nat) (p : Int) (cf : Nat → Int × Int) (w : World) (e : Ending) (w' : World) : Prop := (∃ v, e = .returned v) ∧ TabAt w' r m (soldF cf o q p) ∧ w.grownBy w' (some r)
set_option maxRecDepth 100000 in
set_option maxHeartbeats 8000000 in
theorem sell_any (w : World) (r m o q : Nat) (cf : Nat → Int × Int) (p : Int) (hm : m ≤ 8) (ho : o < 256) (hq8 : q < 8) (hT : TabAt w r m cf) (hc : CountM 500000000 cf) (hp : 0 ≤ p ∧ p ≤ 1048576) :
    Calls Try.prog 68 #[.agg #[.int .i64 (m : Int), .map (some r)], .agg #[.int .i64 (o : Int), .int .i64 (q : Int), .int .i64 p]] w (RetSe r m o q p cf w) := by
  have hr := hT.lt
  have HS : Hid (SeS w r m o q p cf [] ((w.alloc (.cells #[.int .i64 (m : Int), .map (some r)] 73)).alloc (.cells #[.int .i64 (o : Int), .int .i64 (q : Int), .int .i64 p] 114))) := Lib.hid (by
    have hb : Below w.heap.size w ((w.alloc (.cells #[.int .i64 (m : Int), .map (some r)] 73)).alloc (.cells #[.int .i64 (o : Int), .int .i64 (q : Int), .int .i64 p] 114)) := by repeat (first | exact Below.refl _ _ | assumption | refine Below.drew ?_ | refine Below.alloc ?_ (by first | omega | (simp only [World.size_alloc]; omega) | simp) _ | refine Below.setCell ?_ (by first | omega | (simp only [World.size_alloc]; omega) | simp) _)
    exact ⟨gr_below9 hb, (Blk.new _ _ _).alloc _, blk9 _ _ (by simp), hT.below hb hr⟩)
  have HC := Lib.hid hc
  have HP2 : Hid (2 ^ m ≤ 256) := Lib.hid (Nat.pow_le_pow_right (by omega) hm : 2 ^ m ≤ 2 ^ 8)
  have hm0 : (0 : Int) ≤ m := by omega
  have hm1 : (m : Int) ≤ 8 := by omega
  obtain ⟨hp0, hp1⟩ := hp
  clear hT hc
  refine (callsIn_wide (n := 10)).1 ?_
  refine callsIn_of_wp_marks Try.func68 rfl trivial ?_ rfl
  simp only [Try.ntmps68, List.size_toArray, List.length_cons, List.length_nil, Nat.reduceAdd, Nat.reduceSub, Array.replicate_succ, Array.replicate_zero, List.push_toArray, List.append_toArray, List.nil_append, List.cons_append]
  gi_wp2_with (refine ⟨trivial, ?_⟩; gi_at_call 62; refine (callsIn_wide.2 (sets_any _ m)).mono ?_; rintro e w' ⟨rfl, rfl⟩)
  have hq := blk9 ((w.alloc (.cells #[.int .i64 (m : Int), .map (some r)] 73)).alloc (.cells #[.int .i64 (o : Int), .int .i64 (q : Int), .int .i64 p] 114)) (g := w.heap.size + 1 + 1) 3 (cs := #[.int .i64 (m : Int)]) (by simp)
  have HS0 := Lib.hid (HS.out.call ((Below.refl _ _).alloc (Nat.le_refl _) (.cells #[.int .i64 (m : Int)] 3)) hr)
  have hz : (((w.alloc (.cells #[.int .i64 (m : Int), .map (some r)] 73)).alloc (.cells #[.int .i64 (o : Int), .int .i64 (q : Int), .int .i64 p] 114)).alloc (.cells #[.int .i64 (m : Int)] 3)).heap.size = w.heap.size + 1 + 1 + 1 := by simp
  clear HS
  generalize World.alloc (World.alloc (World.alloc w _) _) _ = W0 at hq HS0 hz ⊢
  have HZ := Lib.hid hz
  refine wpIn_rangeFunc_facts (n := 10) (by omega) (gf := 77) (lb := #[.pointer (some ⟨w.heap.size + 1 + 1, 0, none⟩)]) rfl (enters_of Try.func77 (by kernel_rfl) rfl)
    (sets_facts 9 (by omega) (w.heap.size + 1 + 1) m W0 hm hq) (fun a b => a.trans b) ?hKb (fun _ => rfl)
    (fun pre U => SeS w r m o q p cf pre U ∧ w.heap.size + 1 + 1 + 1 ≤ U.heap.size) (fun _ _ _ => False)
    ?hI (fun _ _ _ _ _ hs _ _ => hs) ?h0 (fun x a' U => SetFact m x U ∧ a' = { tmps := #[.agg #[.int .i64 (m : Int), .map (some r)], .agg #[.int .i64 (o : Int), .int .i64 (q : Int), .int .i64 p], .pointer (some ⟨w.heap.size, 0, none⟩), .pointer (some ⟨w.heap.size + 1, 0, none⟩), .int .i64 (x : Int), undef, .pointer (some ⟨w.heap.size, 0, none⟩), .int .i64 (m : Int), .func (.func 77) #[] #[.pointer (some ⟨w.heap.size + 1 + 1, 0, none⟩)], .int .i64 (x : Int), undef, undef, undef, undef, undef, undef, undef, undef, undef, undef, undef, undef, undef, undef, undef, undef, undef, undef, undef, undef, undef, undef, undef, undef, undef, undef, undef, undef], defers := [] }) ?hAx ?assign ?body ?done ?stop
  case hKb =>
    intro U o'
    unfold SameAt World.putObj
    exact Array.getElem?_setIfInBounds_ne (by omega)
  case hI => exact own_of_low (fun _ _ h => by rw [HZ.out]; exact h.2) (fun _ _ _ h hb => ⟨h.1.low hb (by omega) hr, Nat.le_trans h.2 hb.size⟩)
  case h0 => exact ⟨HS0.out, by omega⟩
  case hAx =>
    rintro x a' _ X Y row h1 hg2 hr2
    exact h1
  case assign =>
    rintro l pre x U K hI hF hK
    unfold setV
    gi_wp2
    exact hK _ _ (KeepsFrom.refl _ _) rfl hI ⟨hF, rfl⟩
  case body =>
    rintro l pre x a' U ⟨hL, hsz⟩ ⟨⟨hx1, hx2⟩, rfl⟩ hlen
    have hx8 : x < 256 := by have := HP2.out; omega
    have hlen8 : pre.length < 255 := by have := HP2.out; omega
    have hlk := hL.tab.look hx1 hx2
    have hbd := stF_bd (o := o) (q := q) hp0 pre cf HC.out x
    have hpl : p * (pre.length : Int) ≤ 1048576 * 255 := Int.mul_le_mul hp1 (by omega) (by omega) (by omega)
    have HTL := Lib.hid hL.tab
    have HX := Lib.hid (And.intro hx1 hx2)
    have HSN := Lib.hid (stF_snoc cf o q p pre x)
    have HS1 : Hid (∀ z : Int × Int, sold1 o q p x z = (if (x &&& o != 0) = true then z.1 - p else z.1, if x.testBit q = true then z.2 - p else z.2)) := Lib.hid fun _ => rfl
    generalize stF cf o q p pre x = z at *
    obtain ⟨h, nn⟩ := z
    dsimp only at hbd hlk
    have hw1 : IntKind.i64.wrap (h - p) = h - p := IntWalk.i64_in _ ⟨by omega, by omega⟩
    have hw2 : IntKind.i64.wrap (nn - p) = nn - p := IntWalk.i64_in _ ⟨by omega, by omega⟩
    have c1 := hL.k2.cell 1
    have c30 := hL.k3.cell 0
    have c31 := hL.k3.cell 1
    have c32 := hL.k3.cell 2
    have l2 := hL.k2.lt
    have l3 := hL.k3.lt
    have lr : r < U.heap.size := by omega
    have HL := Lib.hid hL
    have HCL : Hid (∀ (V X3 : World) (vv : Int × Int), Below U.heap.size U V → V.grownBy X3 (some r) → TabAt X3 r m (setF (stF cf o q p pre) x vv) → sold1 o q p x (h, nn) = vv → (KeepsFrom W0.heap.size U X3 ∧ SameAt (w.heap.size + 1 + 1) U X3 ∧ SeS w r m o q p cf (pre ++ [x]) X3 ∧ w.heap.size + 1 + 1 + 1 ≤ X3.heap.size)) := Lib.hid fun V X3 vv hbV hg3 hT3 hvv => by
      have hv := HL.out.call hbV hr
      refine ⟨(keeps_of_below' hbV).trans (keeps_grown hg3 (by omega)), (SameAt.of_below hbV (by omega)).trans (same_grown hg3 (by have := hbV.size; omega) (by omega)), ⟨gr_trans9 hv.hg hg3, hv.k2.kept hg3 (fun e => by have := Option.some.inj e; omega), hv.k3.kept hg3 (fun e => by have := Option.some.inj e; omega), ?_⟩, Nat.le_trans hsz (Nat.le_trans hbV.size hg3.size)⟩
      rw [HSN.out, hvv]
      exact hT3
    clear hL hbd hpl hlen hx1 hx2 hsz
    have hb0 : Below U.heap.size U (U.alloc (.cells #[.int .i64 h, .int .i64 nn] 112)) := (Below.refl _ _).alloc (Nat.le_refl _) _
    cases hmt : (x &&& o != 0) with
    | true =>
      cases hh : x.testBit q with
      | true =>
        have hbV : Below U.heap.size U (U.alloc (.cells #[.int .i64 (h - p), .int .i64 (nn - p)] 112)) := (Below.refl _ _).alloc (Nat.le_refl _) _
        obtain ⟨X3, hst, hT3, hg3, hz3⟩ := (HTL.out.below hbV lr).store HX.out.1 HX.out.2 (h - p, nn - p)
        dsimp only at hst
        have HF := Lib.hid (HCL.out _ _ _ hbV hg3 hT3 (by rw [HS1.out, hmt, hh]; rfl))
        clear hbV hT3 hg3 hz3 hb0
        gi_wp2_with (refine ⟨trivial, ?_⟩; go_simp; first | (refine (CallsIn.inRound l (callsIn_wide.2 (holds_any x q _ hx8 hq8))).mono ?_; rintro e W1 ⟨rfl, rfl⟩; rw [hh]) | (refine (CallsIn.inRound l (callsIn_wide.2 (meets_any x o _ hx8 ho))).mono ?_; rintro e W1 ⟨rfl, rfl⟩; rw [hmt]))
        exact HF.out
      | false =>
        have hbV : Below U.heap.size U (U.alloc (.cells #[.int .i64 (h - p), .int .i64 nn] 112)) := (Below.refl _ _).alloc (Nat.le_refl _) _
        obtain ⟨X3, hst, hT3, hg3, hz3⟩ := (HTL.out.below hbV lr).store HX.out.1 HX.out.2 (h - p, nn)
        dsimp only at hst
        have HF := Lib.hid (HCL.out _ _ _ hbV hg3 hT3 (by rw [HS1.out, hmt, hh]; rfl))
        clear hbV hT3 hg3 hz3 hb0
        gi_wp2_with (refine ⟨trivial, ?_⟩; go_simp; first | (refine (CallsIn.inRound l (callsIn_wide.2 (holds_any x q _ hx8 hq8))).mono ?_; rintro e W1 ⟨rfl, rfl⟩; rw [hh]) | (refine (CallsIn.inRound l (callsIn_wide.2 (meets_any x o _ hx8 ho))).mono ?_; rintro e W1 ⟨rfl, rfl⟩; rw [hmt]))
        exact HF.out
    | false =>
      cases hh : x.testBit q with
      | true =>
        have hbV : Below U.heap.size U (U.alloc (.cells #[.int .i64 h, .int .i64 (nn - p)] 112)) := (Below.refl _ _).alloc (Nat.le_refl _) _
        obtain ⟨X3, hst, hT3, hg3, hz3⟩ := (HTL.out.below hbV lr).store HX.out.1 HX.out.2 (h, nn - p)
        dsimp only at hst
        have HF := Lib.hid (HCL.out _ _ _ hbV hg3 hT3 (by rw [HS1.out, hmt, hh]; rfl))
        clear hbV hT3 hg3 hz3 hb0
        gi_wp2_with (refine ⟨trivial, ?_⟩; go_simp; first | (refine (CallsIn.inRound l (callsIn_wide.2 (holds_any x q _ hx8 hq8))).mono ?_; rintro e W1 ⟨rfl, rfl⟩; rw [hh]) | (refine (CallsIn.inRound l (callsIn_wide.2 (meets_any x o _ hx8 ho))).mono ?_; rintro e W1 ⟨rfl, rfl⟩; rw [hmt]))
        exact HF.out
      | false =>
        obtain ⟨X3, hst, hT3, hg3, hz3⟩ := (HTL.out.below hb0 lr).store HX.out.1 HX.out.2 (h, nn)
        dsimp only at hst
        have HF := Lib.hid (HCL.out _ _ _ hb0 hg3 hT3 (by rw [HS1.out, hmt, hh]; rfl))
        clear hT3 hg3 hz3 hb0
        gi_wp2_with (refine ⟨trivial, ?_⟩; go_simp; first | (refine (CallsIn.inRound l (callsIn_wide.2 (holds_any x q _ hx8 hq8))).mono ?_; rintro e W1 ⟨rfl, rfl⟩; rw [hh]) | (refine (CallsIn.inRound l (callsIn_wide.2 (meets_any x o _ hx8 ho))).mono ?_; rintro e W1 ⟨rfl, rfl⟩; rw [hmt]))
        exact HF.out
  case done =>
    rintro D ys U hD rfl ⟨hL, hsz⟩ hK
    have hT9 : TabAt U r m (soldF cf o q p) := hL.tab.congr fun s hs => stF_at o q p (setsS m) cf (sets_nodup m) s hs
    have HL := Lib.hid hL
    have HT9 := Lib.hid hT9
    clear hL hT9
    gi_wp2
    have eB2 := belowK_b (n₀ := w.heap.size + 1 + 1) (w := W0) (by omega) U D _ (.deferred none) hD hK rfl rfl
    refine ⟨by simp, .inl ⟨_, _, rfl, run_takeDeferred hK, ?_⟩⟩
    refine ⟨_, results_none rfl _ _ _, ⟨_, rfl⟩, HT9.out.below eB2 (by omega), ⟨eB2.os.trans HL.out.hg.os, eB2.tape.trans HL.out.hg.tape, eB2.output.trans HL.out.hg.output, Nat.le_trans HL.out.hg.size eB2.size, fun i hi hne => (eB2.block i (by omega)).trans (HL.out.hg.block i hi hne)⟩⟩
  case stop =>
    rintro D cd pre U hD hSp h hK
    exact h.elim
end Go.Proofs.Ytngoagfkcjkeoaa
