/- tally.lacks: what each set lacks, in a list. -/
import Derived.Test.YtngoagfkcjkeoaaLm
namespace Go.Proofs.Ytngoagfkcjkeoaa
open Go.RowKit Go.Shelf
attribute [local go_sem] Oper.semAt_some

theorem own_soft9 {X Y : World} {b : Nat} {e : TypeId} {size : Nat} {v : Value} {k : Nat} {xs : List Value} {row : Option Nat} (h : X.ownsRow b e size v k xs) (hg : X.grownBy Y row) (hr : ∀ j, row = some j → ∃ o, X.heap[j]? = some o ∧ o.isCells = false) : Y.ownsRow b e size v k xs := by
  refine ⟨h.1, ?_⟩
  rcases h.2 with h2 | ⟨g, cap, cur, rfl, h1, h2, h3⟩
  · exact .inl h2
  · refine .inr ⟨g, cap, cur, rfl, h1, ?_, h3⟩
    rw [hg.block g (Array.getElem?_eq_some_iff.1 h2).1 (fun e => by
      obtain ⟨o, h4, h5⟩ := hr g e.symm
      rw [h2] at h4; cases h4; cases h5)]
    exact h2
theorem own_low9 {X Y : World} {b : Nat} {e : TypeId} {size : Nat} {v : Value} {k : Nat} {xs : List Value} (h : X.ownsRow b e size v k xs) (hb : Below X.heap.size X Y) : Y.ownsRow b e size v k xs :=
  own_soft9 (row := none) h ⟨hb.os, hb.tape, hb.output, hb.size, fun i hi _ => hb.block i hi⟩ (fun j e => by cases e)
theorem own_ge9 {W : World} {B : Nat} {e : TypeId} {size : Nat} {v : Value} {k : Nat} {xs : List Value} (hr : W.ownsRow B e size v k xs) : ∀ g, v.ownBlock = some g → B ≤ g := by
  rcases hr.2 with ⟨rfl, _⟩ | ⟨g, cap, cur, rfl, hg, hgb, _⟩
  · simp [Value.ownBlock]
  · intro g' e'
    have : g = g' := by simpa [Value.ownBlock] using e'
    omega
theorem own_far9 {W : World} {b : Nat} {e : TypeId} {size : Nat} {v : Value} {k : Nat} {xs : List Value} (h : W.ownsRow b e size v k xs) {q i : Nat} (hq : q < b) (u : Value) : (W.setCell ⟨q, i, none⟩ u).ownsRow b e size v k xs := by
  refine ⟨h.1, ?_⟩
  rcases h.2 with h2 | ⟨g, cap, cur, rfl, h1, h2, h3⟩
  · exact .inl h2
  · exact .inr ⟨g, cap, cur, rfl, h1, (Below.heap_setCell W ⟨q, i, none⟩ u g (by simp only []; omega)).trans h2, h3⟩
theorem keeps_append9 {W W' : World} {b : Nat} {e : TypeId} {size : Nat} {v : Value} {k : Nat} {xs : List Value} (h : W.ownsRow b e size v k xs) (hg : W.grownBy W' v.ownBlock) : KeepsOthers W W' := by
  refine ⟨hg.size, fun j o hj ho => ?_⟩
  refine (hg.block j (Array.getElem?_eq_some_iff.1 hj).1 (fun e => ?_)).trans hj
  rcases h.2 with ⟨rfl, _⟩ | ⟨g, cap, cur, rfl, h1, h2, h3⟩
  · simp [Value.ownBlock] at e
  · obtain rfl : j = g := by simpa [Value.ownBlock] using e
    rw [h2] at hj; cases hj; cases ho
theorem below_append9 {B : Nat} {W W' : World} {b : Nat} {e : TypeId} {size : Nat} {v : Value} {k : Nat} {xs : List Value} (h : W.ownsRow b e size v k xs) (hg : W.grownBy W' v.ownBlock) (hB : B ≤ b) (hz : B ≤ W.heap.size) : Below B W W' :=
  (Below.refl B W).grown hg hz (fun g e => Nat.le_trans hB (own_ge9 h g e))
theorem own_form9 {W : World} {b : Nat} {e : TypeId} {size : Nat} {v : Value} {k : Nat} {xs : List Value} (h : W.ownsRow b e size v k xs) : ∃ A n c, v = .slice A n c := by
  rcases h.2 with ⟨rfl, _⟩ | ⟨g, cap, cur, rfl, _⟩
  · exact ⟨_, _, _, rfl⟩
  · exact ⟨_, _, _, rfl⟩
/-- What sets lack, as cells. -/
def lkV (f : Nat → Int) : List Nat → List Value
  | [] => []
  | s :: r => .int .i64 (s : Int) :: .int .i64 (f s) :: lkV f r
theorem lkV_app (f : Nat → Int) : ∀ a b, lkV f (a ++ b) = lkV f a ++ lkV f b
  | [], _ => rfl
  | s :: a, b => by simp only [List.cons_append, lkV, lkV_app f a b]
theorem lkV_len (f : Nat → Int) : ∀ a, (lkV f a).length = a.length * 2
  | [] => rfl
  | _ :: a => by simp only [lkV, List.length_cons, lkV_len f a]; omega
theorem lkV_at (f : Nat → Int) : ∀ (l : List Nat) (i : Nat) (h : i < l.length), (lkV f l)[i * 2]? = some (.int .i64 (l[i] : Int)) ∧ (lkV f l)[i * 2 + 1]? = some (.int .i64 (f l[i]))
  | s :: l, 0, _ => ⟨rfl, rfl⟩
  | s :: l, i + 1, h => by
    have := lkV_at f l i (by simpa using h)
    rw [show (i + 1) * 2 = i * 2 + 2 by omega]
    exact this
theorem lackInfo : (Try.prog.info? 81).map (fun i => (i.zero, i.size, i.bytes)) = some (some (.agg #[.int .i64 0, .int .i64 0]), 2, 16) := by kernel_rfl
theorem und_lacks : Try.prog.underlying 83 = some (.slice 81) := by kernel_rfl
theorem info9 {P : Program} {t : TypeId} {z : Value} {s b : Nat} (h : (P.info? t).map (fun i => (i.zero, i.size, i.bytes)) = some (some z, s, b)) : ∃ i, P.info? t = some i ∧ i.zero = some z ∧ i.size = s ∧ i.bytes = b := by
  cases hi : P.info? t with
  | none => rw [hi] at h; cases h
  | some i =>
    rw [hi] at h
    simp only [Option.map_some, Option.some.injEq, Prod.mk.injEq] at h
    exact ⟨i, rfl, h.1, h.2.1, h.2.2⟩
def lackC (cf : Nat → Int × Int) (b : Int) (s : Nat) : Int := (cf s).2 * b - (cf s).1
structure LaS (w : World) (r m : Nat) (b : Int) (f : Nat → Int) (pre : List Nat) (v : Value) (W : World) : Prop where
  hb : Below w.heap.size w W
  k2 : Blk W w.heap.size 73 #[.int .i64 (m : Int), .map (some r)]
  k3 : Blk W (w.heap.size + 1) 3 #[.int .i64 b]
  k4 : Blk W (w.heap.size + 1 + 1) 83 #[v]
  row : W.ownsRow (w.heap.size + 1 + 1 + 1 + 1) 81 2 v pre.length (lkV f pre)
  sz : w.heap.size + 1 + 1 + 1 ≤ W.heap.size
section
variable {w : World} {r m : Nat} {b : Int} {f : Nat → Int} {pre : List Nat} {v : Value} {W W' : World}
theorem LaS.call (h : LaS w r m b f pre v W) (hb : Below W.heap.size W W') : LaS w r m b f pre v W' :=
  ⟨h.hb.trans (hb.mono h.hb.size), h.k2.below hb h.k2.lt, h.k3.below hb h.k3.lt, h.k4.below hb h.k4.lt, own_low9 h.row hb, Nat.le_trans h.sz hb.size⟩
theorem LaS.start (w : World) (r m : Nat) (b : Int) (f : Nat → Int) : LaS w r m b f [] (.slice none 0 0) (((w.alloc (.cells #[.int .i64 (m : Int), .map (some r)] 73)).alloc (.cells #[.int .i64 b] 3)).alloc (.cells #[.slice none 0 0] 83)) := ⟨by repeat (first | exact Below.refl _ _ | assumption | refine Below.drew ?_ | refine Below.alloc ?_ (by first | omega | (simp only [World.size_alloc]; omega) | simp) _ | refine Below.setCell ?_ (by first | omega | (simp only [World.size_alloc]; omega) | simp) _), ((Blk.new _ _ _).alloc _).alloc _, (blk9 _ _ (by simp)).alloc _, blk9 _ _ (by simp), World.ownsRow_nil _ _ _ _, by simp⟩
end
def RetLa (f : Nat → Int) (l : List Nat) (w : World) (e : Ending) (w' : World) : Prop := ∃ v, e = .returned v ∧ w'.ownsRow (w.heap.size + 1 + 1 + 1 + 1) 81 2 v l.length (lkV f l) ∧ Below w.heap.size w w'
set_option maxRecDepth 100000 in
set_option maxHeartbeats 4000000 in
theorem lacks_any (w : World) (r m : Nat) (cf : Nat → Int × Int) (b : Int) (hm : m ≤ 8) (hT : TabAt w r m cf) (hc : CountIn cf) (hb : -1000000000 ≤ b ∧ b ≤ 1000000000) :
    Calls Try.prog 44 #[.agg #[.int .i64 (m : Int), .map (some r)], .int .i64 b] w (RetLa (lackC cf b) (setsS m) w) := by
  have HS := Lib.hid (LaS.start w r m b (lackC cf b))
  have HT := Lib.hid hT
  have HC := Lib.hid hc
  have hm0 : (0 : Int) ≤ m := by omega
  have hm1 : (m : Int) ≤ 8 := by omega
  have hP2 : 2 ^ m ≤ 2 ^ 8 := Nat.pow_le_pow_right (by omega) hm
  obtain ⟨hb0, hb1⟩ := hb
  obtain ⟨i0, hi, hz0, hz1, hz2⟩ := info9 lackInfo
  clear hT hc
  refine (callsIn_wide (n := 10)).1 ?_
  refine callsIn_of_wp_marks Try.func44 rfl trivial ?_ rfl
  simp only [Try.ntmps44, List.size_toArray, List.length_cons, List.length_nil, Nat.reduceAdd, Nat.reduceSub, Array.replicate_succ, Array.replicate_zero, List.push_toArray, List.append_toArray, List.nil_append, List.cons_append]
  gi_wp2_with (refine ⟨trivial, ?_⟩; gi_at_call 62; refine (callsIn_wide.2 (sets_any _ m)).mono ?_; rintro e w' ⟨rfl, rfl⟩)
  have hq := blk9 (((w.alloc (.cells #[.int .i64 (m : Int), .map (some r)] 73)).alloc (.cells #[.int .i64 b] 3)).alloc (.cells #[.slice none 0 0] 83)) (g := w.heap.size + 1 + 1 + 1) 3 (cs := #[.int .i64 (m : Int)]) (by simp)
  have HS0 := Lib.hid (HS.out.call ((Below.refl _ _).alloc (Nat.le_refl _) (.cells #[.int .i64 (m : Int)] 3)))
  have hz : ((((w.alloc (.cells #[.int .i64 (m : Int), .map (some r)] 73)).alloc (.cells #[.int .i64 b] 3)).alloc (.cells #[.slice none 0 0] 83)).alloc (.cells #[.int .i64 (m : Int)] 3)).heap.size = w.heap.size + 1 + 1 + 1 + 1 := by simp
  clear HS
  generalize World.alloc (World.alloc (World.alloc (World.alloc w _) _) _) _ = W0 at hq HS0 hz ⊢
  have HZ := Lib.hid hz
  refine wpIn_rangeFunc_facts (n := 10) (by omega) (gf := 77) (lb := #[.pointer (some ⟨w.heap.size + 1 + 1 + 1, 0, none⟩)]) rfl (enters_of Try.func77 (by kernel_rfl) rfl)
    (sets_facts 9 (by omega) (w.heap.size + 1 + 1 + 1) m W0 hm hq) (fun a b => a.trans b) ?hKb (fun _ => rfl)
    (fun pre U => (∃ v, LaS w r m b (lackC cf b) pre v U) ∧ w.heap.size + 1 + 1 + 1 + 1 ≤ U.heap.size) (fun _ _ _ => False)
    ?hI (fun _ _ _ _ _ hs _ _ => hs) ?h0 (fun x a' U => SetFact m x U ∧ a' = { tmps := #[.agg #[.int .i64 (m : Int), .map (some r)], .int .i64 b, .pointer (some ⟨w.heap.size, 0, none⟩), .pointer (some ⟨w.heap.size + 1, 0, none⟩), .pointer (some ⟨w.heap.size + 1 + 1, 0, none⟩), .int .i64 (x : Int), undef, .pointer (some ⟨w.heap.size, 0, none⟩), .int .i64 (m : Int), .func (.func 77) #[] #[.pointer (some ⟨w.heap.size + 1 + 1 + 1, 0, none⟩)], .int .i64 (x : Int), undef, undef, undef, undef, undef, undef, undef, undef, undef, undef, undef, undef, undef, undef, undef, undef, undef], defers := [] }) ?hAx ?assign ?body ?done ?stop
  case hKb =>
    intro U o'
    unfold SameAt World.putObj
    exact Array.getElem?_setIfInBounds_ne (by omega)
  case hI =>
    rintro pre X Y row ⟨⟨v, h⟩, hsz⟩ hg hr
    have hlow : Below (w.heap.size + 1 + 1 + 1 + 1) X Y := ⟨hg.os, hg.tape, hg.output, hg.size, fun i hi => hg.block i (by omega) (fun e => by have := (hr i e.symm).1; rw [HZ.out] at this; omega)⟩
    exact ⟨⟨v, h.hb.trans (hlow.mono (by omega)), h.k2.below hlow (by omega), h.k3.below hlow (by omega), h.k4.below hlow (by omega), own_soft9 h.row hg (fun j e => (hr j e).2), Nat.le_trans h.sz hg.size⟩, Nat.le_trans hsz hg.size⟩
  case h0 => exact ⟨⟨_, HS0.out⟩, by omega⟩
  case hAx =>
    rintro x a' _ X Y row h1 hg2 hr
    exact h1
  case assign =>
    rintro l pre x U K hI hF hK
    unfold setV
    gi_wp2
    exact hK _ _ (KeepsFrom.refl _ _) rfl hI ⟨hF, rfl⟩
  case body =>
    rintro l pre x a' U ⟨⟨v, hL⟩, hsz⟩ ⟨⟨hx1, hx2⟩, rfl⟩ hlen
    have hlk := (HT.out.below hL.hb HT.out.lt).look hx1 hx2
    obtain ⟨Av, nv, cv, rfl⟩ := own_form9 hL.row
    have HSH : Hid (lackC cf b x = (cf x).2 * b - (cf x).1) := Lib.hid rfl
    obtain ⟨⟨a0, a1⟩, a2, a3⟩ := HC.out x
    generalize (cf x).1 = h at *
    generalize (cf x).2 = nn at *
    have hmb := mul_bd a2 a3 hb0 hb1
    have hw : IntKind.i64.wrap (nn * b) = nn * b := IntWalk.i64_in _ ⟨by omega, by omega⟩
    have hw2 : IntKind.i64.wrap (nn * b - h) = nn * b - h := IntWalk.i64_in _ ⟨by omega, by omega⟩
    have c1 := hL.k2.cell 1
    have c3 := hL.k3.cell 0
    have c4 := hL.k4.cell 0
    have f4 := hL.k4.frozen 0
    have l2 := hL.k2.lt
    have l3 := hL.k3.lt
    have l4 := hL.k4.lt
    have HL := Lib.hid (hL.call (((Below.refl _ _).alloc (Nat.le_refl _) (.cells #[.int .i64 h, .int .i64 nn] 112)).alloc (by simp) (.cells #[.int .i64 (x : Int), .int .i64 (nn * b - h)] 81)))
    have hl256 : pre.length < 255 := by omega
    clear hL hmb a0 a1 a2 a3 hb0 hb1 hlen hx1 hx2
    gi_wp2_with (gi_at_builtin; refine wpListIn_append_own _ rfl _ _ 83 rfl (w.heap.size + 1 + 1 + 1 + 1) 81 i0 _ 2 16 und_lacks hi hz0 hz1 hz2 rfl (by decide) (.slice Av nv cv) pre.length (lkV (lackC cf b) pre) rfl HL.out.row ⟨U.heap.size + 1, 0, none⟩ 1 1 [.int .i64 (x : Int), .int .i64 (nn * b - h)] rfl rfl (World.news_of_block (cs := #[.int .i64 (x : Int), .int .i64 (nn * b - h)]) (t := 81) (fr := (0, 0)) (blk9 _ _ (by simp))) (by simp [Value.oneCell']) (by unfold maxLen; omega) (by omega) (by simp; omega) ?_; intro v9 V1 hown hgr hnn; clear hnn; obtain ⟨A9, n9, c9, rfl⟩ := own_form9 hown; have HO := Lib.hid hown; have HG := Lib.hid hgr; clear hown hgr; have hlow := below_append9 (B := w.heap.size + 1 + 1 + 1 + 1) HL.out.row HG.out (Nat.le_refl _) (by simp; omega); have y4 := (HL.out.k4.below hlow (by omega)).cell 0; have g4 := (HL.out.k4.below hlow (by omega)).frozen 0; clear hlow c1 c3 c4 f4 l2 l3 l4 hlk hw hw2)
    have hlow := below_append9 (B := w.heap.size + 1 + 1 + 1 + 1) HL.out.row HG.out (Nat.le_refl _) (by simp; omega)
    have hb1 := (((Below.refl U.heap.size U).alloc (Nat.le_refl _) (.cells #[.int .i64 h, .int .i64 nn] 112)).alloc (by simp) (.cells #[.int .i64 (x : Int), .int .i64 (nn * b - h)] 81))
    have hb2 := (hb1.mono hsz).trans hlow
    refine ⟨((((KeepsOthers.alloc _ _).trans (KeepsOthers.alloc _ _)).trans (keeps_append9 HL.out.row HG.out)).trans (KeepsOthers.setCell _ _ _)).from _, (SameAt.of_below hb2 (by omega)).trans (Below.heap_setCell _ _ _ _ (by simp only []; omega)), ⟨.slice A9 n9 c9, ?_⟩, ?_⟩
    · exact ⟨(HL.out.hb.trans (hlow.mono (by omega))).setCell (by simp only []; omega) _, (HL.out.k2.below hlow (by omega)).far (by simp only []; omega) _, (HL.out.k3.below hlow (by omega)).far (by simp only []; omega) _, (HL.out.k4.below hlow (by omega)).set_ 0 (.slice A9 n9 c9), own_far9 (by rw [List.length_append, lkV_app]; simp only [lkV, HSH.out]; exact HO.out) (by omega) _, by have := hb2.size; simp [World.setCell]; omega⟩
    · have := hb2.size
      simp [World.setCell]; omega
  case done =>
    rintro D ys U hD rfl ⟨⟨v, hL⟩, hsz⟩ hK
    obtain ⟨Av, nv, cv, rfl⟩ := own_form9 hL.row
    have c4 := hL.k4.cell 0
    have f4 := hL.k4.frozen 0
    have l4 := hL.k4.lt
    have HL := Lib.hid hL
    clear hL
    gi_wp2
    have e2 := HL.out.k4.set_ 0 (.slice Av nv cv)
    have eK := (KeepsOthers.setCell U ⟨w.heap.size + 1 + 1, 0, none⟩ (.slice Av nv cv)).same D _ hK rfl
    have eB := HL.out.hb.setCell (p := ⟨w.heap.size + 1 + 1, 0, none⟩) (by simp only []; omega) (.slice Av nv cv)
    have eR := own_far9 HL.out.row (q := w.heap.size + 1 + 1) (i := 0) (by omega) (.slice Av nv cv)
    generalize World.setCell U _ _ = W2 at e2 eK eB eR ⊢
    have e4 := e2.kept (grownBy_putObj' W2 D (.deferred none)) (by simp; omega)
    have eB2 := eB.trans (belowK_b (w := w) (Nat.le_refl _) W2 D _ (.deferred none) (by omega) eK rfl rfl)
    have eR2 := own_soft9 eR (grownBy_putObj' W2 D (.deferred none)) (fun j e => by cases e; exact ⟨_, eK, rfl⟩)
    have d0 := e4.cell 0
    refine ⟨by simp, .inl ⟨_, _, rfl, run_takeDeferred eK, ?_⟩⟩
    refine ⟨.slice Av nv cv, ?_, _, rfl, eR2, eB2⟩
    simp [results, Try.results44, go_sem, d0]
  case stop =>
    rintro D cd pre U hD hSp h hK
    exact h.elim
end Go.Proofs.Ytngoagfkcjkeoaa
