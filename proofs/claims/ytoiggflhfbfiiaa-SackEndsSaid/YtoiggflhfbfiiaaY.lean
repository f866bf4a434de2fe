/- Mix: the walk where the arguments are good. -/
import Derived.Test.YtoiggflhfbfiiaaX
import Derived.Test.YtoiggflhfbfiiaaW
namespace Go.Proofs.Ytoiggflhfbfiiaa
open Go.RowKit Go.Shelf

def gram (s : Sack) : Held := ⟨s, ⟨1, 1⟩⟩
theorem gram_ok {s : Sack} (h : sackOk s = true) : (gram s).ok := ⟨h, by simp [gram], by simp [gram], by simp [gram]⟩
theorem adds_bd_on {h : Held} {g : St → Int} {B : Int} (hg : ∀ t ∈ h.corners, -B ≤ g t ∧ g t ≤ B) (hB0 : 0 ≤ B) (hB : B ≤ 9000000000000000000) :
    -B ≤ (h.adds g).least ∧ (h.adds g).least ≤ B ∧ -B ≤ (h.adds g).most ∧ (h.adds g).most ≤ B := by
  have key : ∀ (l : List St) (r : Reach), (∀ t ∈ l, -B ≤ g t ∧ g t ≤ B) → (l ≠ [] ∨ (-B ≤ r.least ∧ r.least ≤ B ∧ -B ≤ r.most ∧ r.most ≤ B)) → -B ≤ r.least → r.most ≤ B →
      -B ≤ (l.foldl (Reach.step g) r).least ∧ (l.foldl (Reach.step g) r).least ≤ B ∧ -B ≤ (l.foldl (Reach.step g) r).most ∧ (l.foldl (Reach.step g) r).most ≤ B := by
    intro l
    induction l with
    | nil => intro r _ h1 _ _; simpa using h1
    | cons t l ih =>
      intro r ht _ h2 h3
      have h4 := ht t (by simp)
      refine ih _ (fun u hu => ht u (by simp [hu])) (.inr ?_) ?_ ?_ <;> simp only [Reach.step] <;> omega
  refine key h.corners ⟨maxI, minI⟩ hg (.inl ?_) ?_ ?_
  · simp [Held.corners, Span.ends]
  · simp only [maxI]; omega
  · simp only [minI]; omega
theorem gram_m {s : Sack} : ∀ t ∈ (gram s).corners, t.m = 1 := by
  intro t ht
  simp only [gram, Held.corners, Span.ends, List.mem_flatMap, List.mem_map, List.mem_cons, List.not_mem_nil, or_false] at ht
  obtain ⟨m, hm, w, hw, c, hc, s, hs', rfl⟩ := ht
  simpa using hm
theorem gram_bd {s : Sack} (h : sackOk s = true) (n : Int) (h0 : 0 ≤ n) (h1 : n ≤ 1000) :
    -1000000000000 ≤ ((gram s).adds (carbonOver n)).least ∧ ((gram s).adds (carbonOver n)).least ≤ 1000000000000 ∧ -1000000000000 ≤ ((gram s).adds (carbonOver n)).most ∧ ((gram s).adds (carbonOver n)).most ≤ 1000000000000 := by
  refine adds_bd_on (fun t ht => ?_) (by omega) (by omega)
  have hok := Held.corner_ok (gram_ok h) t ht
  have hm := gram_m t ht
  have e1 := St.part_eq t
  have b1 := St.carbon_bd hok
  have b2 := St.clay_bd hok
  have b3 := St.smoke_bd hok
  have hd : 0 ≤ t.dry ∧ t.dry ≤ 1000 := by
    obtain ⟨_, _, w0, w1, _⟩ := hok
    unfold St.dry; rw [hm]; omega
  have hl : 0 ≤ t.lead ∧ t.lead ≤ 1000000000 := by unfold St.lead; omega
  have hn := mul_bd h0 h1 hl.1 hl.2
  unfold carbonOver; omega

def mixReach (s1 s2 : Sack) (total wl wh : Int) : Reach × Reach :=
  (notBelow total ((gram s1).adds (carbonOver wl)).least ((gram s2).adds (carbonOver wl)).least, notBelow total (-((gram s1).adds (carbonOver wh)).most) (-((gram s2).adds (carbonOver wh)).most))
def mixV (s1 s2 : Sack) (total wl wh : Int) : Value :=
  numV (max (max (mixReach s1 s2 total wl wh).1.least (mixReach s1 s2 total wl wh).2.least) 1) (min (min (mixReach s1 s2 total wl wh).1.most (mixReach s1 s2 total wl wh).2.most) (total - 1))

structure MixS (w : World) (wl wh : Int) (W : World) : Prop where
  b0 : Blk W w.heap.size 25 #[.int .i64 wl, .int .i64 wh]
  b1 : Blk W (w.heap.size + 1) 25 #[.int .i64 0, .int .i64 0]
  below : Below w.heap.size w W
theorem MixS.call {w : World} {wl wh : Int} {W W' : World} (h : MixS w wl wh W) (hb : Below W.heap.size W W') : MixS w wl wh W' :=
  ⟨h.b0.below hb h.b0.lt, h.b1.below hb h.b1.lt, h.below.trans (hb.mono h.below.size)⟩

def gramV (s : Sack) : Value := .func (.func 54) #[.agg #[.int .i64 s.w.lo, .int .i64 s.w.hi, .int .i64 s.c.lo, .int .i64 s.c.hi, .int .i64 s.l.lo, .int .i64 s.l.hi, .int .i64 1, .int .i64 1]] #[]

def MixC (w : World) (wl wh : Int) (sb so n1 n2 : Nat) (s1 s2 : Sack) (W : World) : Prop := MixS w wl wh W ∧ W.cell? ⟨sb, so + n1 * 6, none⟩ = some (.int .i64 s1.w.lo) ∧ W.cell? ⟨sb, so + n1 * 6 + 1, none⟩ = some (.int .i64 s1.w.hi) ∧ W.cell? ⟨sb, so + n1 * 6 + 2, none⟩ = some (.int .i64 s1.c.lo) ∧ W.cell? ⟨sb, so + n1 * 6 + 3, none⟩ = some (.int .i64 s1.c.hi) ∧ W.cell? ⟨sb, so + n1 * 6 + 4, none⟩ = some (.int .i64 s1.l.lo) ∧ W.cell? ⟨sb, so + n1 * 6 + 5, none⟩ = some (.int .i64 s1.l.hi) ∧ W.cell? ⟨sb, so + n2 * 6, none⟩ = some (.int .i64 s2.w.lo) ∧ W.cell? ⟨sb, so + n2 * 6 + 1, none⟩ = some (.int .i64 s2.w.hi) ∧ W.cell? ⟨sb, so + n2 * 6 + 2, none⟩ = some (.int .i64 s2.c.lo) ∧ W.cell? ⟨sb, so + n2 * 6 + 3, none⟩ = some (.int .i64 s2.c.hi) ∧ W.cell? ⟨sb, so + n2 * 6 + 4, none⟩ = some (.int .i64 s2.l.lo) ∧ W.cell? ⟨sb, so + n2 * 6 + 5, none⟩ = some (.int .i64 s2.l.hi)
theorem MixC.drew {w : World} {wl wh : Int} {sb so n1 n2 : Nat} {s1 s2 : Sack} {W : World} (h : MixC w wl wh sb so n1 n2 s1 s2 W) : MixC w wl wh sb so n1 n2 s1 s2 W.drew := ⟨⟨h.1.b0, h.1.b1, h.1.below.drew⟩, h.2⟩
theorem MixC.mk_ {w : World} {wl wh : Int} {sb so n1 n2 : Nat} {l : List Sack} (h1 : n1 < l.length) (h2 : n2 < l.length) {W : World} (h : MixS w wl wh W) (hs : SacksAt W sb so l) : MixC w wl wh sb so n1 n2 l[n1] l[n2] W := by
  obtain ⟨a0, a1, a2, a3, a4, a5⟩ := hs n1 h1
  obtain ⟨b0, b1, b2, b3, b4, b5⟩ := hs n2 h2
  exact ⟨h, a0, a1, a2, a3, a4, a5, b0, b1, b2, b3, b4, b5⟩
theorem MixC.call {w : World} {wl wh : Int} {sb so n1 n2 : Nat} {s1 s2 : Sack} {W W' : World} (hsb : sb < w.heap.size) (hb : Below W.heap.size W W') (h : MixC w wl wh sb so n1 n2 s1 s2 W) : MixC w wl wh sb so n1 n2 s1 s2 W' := by
  obtain ⟨h0, h1, h2, h3, h4, h5, h6, h7, h8, h9, h10, h11, h12⟩ := h
  have hl : sb < W.heap.size := Nat.lt_of_lt_of_le hsb h0.below.size
  exact ⟨h0.call hb, (hb.cell (p := ⟨sb, _, none⟩) hl).trans h1, (hb.cell (p := ⟨sb, _, none⟩) hl).trans h2, (hb.cell (p := ⟨sb, _, none⟩) hl).trans h3, (hb.cell (p := ⟨sb, _, none⟩) hl).trans h4, (hb.cell (p := ⟨sb, _, none⟩) hl).trans h5, (hb.cell (p := ⟨sb, _, none⟩) hl).trans h6,
    (hb.cell (p := ⟨sb, _, none⟩) hl).trans h7, (hb.cell (p := ⟨sb, _, none⟩) hl).trans h8, (hb.cell (p := ⟨sb, _, none⟩) hl).trans h9, (hb.cell (p := ⟨sb, _, none⟩) hl).trans h10, (hb.cell (p := ⟨sb, _, none⟩) hl).trans h11, (hb.cell (p := ⟨sb, _, none⟩) hl).trans h12⟩

/-- Two function values are there, with the numbers that they hold. -/
structure MixF (w : World) (wl wh : Int) (q1 q2 : Nat) (W : World) : Prop where
  m : MixS w wl wh W
  l1 : q1 < W.heap.size
  l2 : q2 < W.heap.size
  c1 : W.cell? ⟨q1, 0, none⟩ = some (.int .i64 wl)
  c2 : W.cell? ⟨q2, 0, none⟩ = some (.int .i64 wh)
theorem MixF.call {w : World} {wl wh : Int} {q1 q2 : Nat} {W W' : World} (h : MixF w wl wh q1 q2 W) (hb : Below W.heap.size W W') : MixF w wl wh q1 q2 W' :=
  ⟨h.m.call hb, Nat.lt_of_lt_of_le h.l1 hb.size, Nat.lt_of_lt_of_le h.l2 hb.size, (hb.cell (p := ⟨q1, 0, none⟩) h.l1).trans h.c1, (hb.cell (p := ⟨q2, 0, none⟩) h.l2).trans h.c2⟩
theorem two_boxes {w : World} {wl wh a b : Int} {W : World} (h : MixS w wl wh W) : MixS w wl wh (((W.alloc (.cells #[.int .i64 a] 3)).alloc (.cells #[.int .i64 b] 3)).drew) ∧
    (((W.alloc (.cells #[.int .i64 a] 3)).alloc (.cells #[.int .i64 b] 3)).drew).cell? ⟨W.heap.size, 0, none⟩ = some (.int .i64 a) ∧ (((W.alloc (.cells #[.int .i64 a] 3)).alloc (.cells #[.int .i64 b] 3)).drew).cell? ⟨W.heap.size + 1, 0, none⟩ = some (.int .i64 b) := by
  have h1 : Below W.heap.size W (((W.alloc (.cells #[.int .i64 a] 3)).alloc (.cells #[.int .i64 b] 3)).drew) := by repeat (first | exact Below.refl _ _ | assumption | refine Below.drew ?_ | refine Below.alloc ?_ (by first | omega | (simp only [World.size_alloc]; omega) | simp) _ | refine Below.setCell ?_ (by first | omega | (simp only [World.size_alloc]; omega) | simp) _)
  have a1 := ((Blk.new W 3 #[.int .i64 a]).alloc (.cells #[.int .i64 b] 3)).drew
  have a2 := (Blk.new (W.alloc (.cells #[.int .i64 a] 3)) 3 #[.int .i64 b]).drew
  rw [World.size_alloc] at a2
  exact ⟨h.call h1, a1.cell 0, a2.cell 0⟩

theorem mf1 {w : World} {wl wh : Int} {W : World} (h : MixS w wl wh W) : MixF w wl wh W.heap.size (W.heap.size + 1) (((W.alloc (.cells #[.int .i64 wl] 3)).alloc (.cells #[.int .i64 wh] 3)).drew) := by
  obtain ⟨a, b, c⟩ := two_boxes (a := wl) (b := wh) h
  exact ⟨a, by simp <;> omega, by simp <;> omega, b, c⟩
theorem mf2 {w : World} {wl wh : Int} {W : World} (h : MixS w wl wh W) : MixF w wl wh (W.heap.size + 1) W.heap.size (((W.alloc (.cells #[.int .i64 wh] 3)).alloc (.cells #[.int .i64 wl] 3)).drew) := by
  obtain ⟨a, b, c⟩ := two_boxes (a := wh) (b := wl) h
  exact ⟨a, by simp <;> omega, by simp <;> omega, c, b⟩
theorem gram_call (s : Sack) (n : Int) (q : Nat) (W : World) (hs : sackOk s = true) (h0 : 0 ≤ n) (h1 : n ≤ 1000) (hq : q < W.heap.size) (hc : W.cell? ⟨q, 0, none⟩ = some (.int .i64 n)) :
    Calls Try.prog 54 #[.agg #[.int .i64 s.w.lo, .int .i64 s.w.hi, .int .i64 s.c.lo, .int .i64 s.c.hi, .int .i64 s.l.lo, .int .i64 s.l.hi, .int .i64 1, .int .i64 1], .func (.func 66) #[] #[.pointer (some ⟨q, 0, none⟩)]] W
      (Ret (.agg #[.int .i64 ((gram s).adds (carbonOver n)).least, .int .i64 ((gram s).adds (carbonOver n)).most]) W) :=
  adds_any (gram s) _ (carbonOver n) W (gram_ok hs) (isMeas_over W q n h0 h1 hc hq)

set_option maxRecDepth 100000 in
set_option maxHeartbeats 4000000 in
theorem mix_yes (w : World) (A : Option Addr) (c : Nat) (l : List Sack) (n1 n2 : Nat) (total wl wh : Int) (hl : l.length ≤ 100) (hA : SackSl w w.heap.size A l) (hv : sacksOk l = true)
    (hn1 : n1 < l.length) (hn2 : n2 < l.length) (hne : ((n1 : Int) == (n2 : Int)) = false) (ht : 2 ≤ total) (ht' : total ≤ 100000) (hw : withinB ⟨wl, wh⟩ 0 1000 = true) :
    Calls Try.prog 17 #[.slice A l.length c, .int .i64 n1, .int .i64 n2, .int .i64 total, .agg #[.int .i64 wl, .int .i64 wh]] w (Ret (mixV l[n1] l[n2] total wl wh) w) := by
  have HD1 : Hid (decide (0 ≤ (n1 : Int) ∧ (n1 : Int) < l.length) = true) := by show _ = _; simp; omega
  have HD2 : Hid (decide (0 ≤ (n2 : Int) ∧ (n2 : Int) < l.length) = true) := by show _ = _; simp; omega
  have hwb := withinB_iff.1 hw
  obtain ⟨hw1, hw2, hw3⟩ := hwb
  simp only at hw1 hw2 hw3
  have hok : ∀ s ∈ l, sackOk s = true := by simp only [sacksOk, Bool.and_eq_true] at hv; exact List.all_eq_true.1 hv.2
  have HO1 := Lib.hid (hok _ (List.getElem_mem hn1))
  have HO2 := Lib.hid (hok _ (List.getElem_mem hn2))
  clear hok
  obtain ⟨sb, so, rfl, hsb, hSA⟩ := hA (by intro e; subst e; simp at hn1)
  have HS := Lib.hid hSA
  clear hSA
  have HW := Lib.hid hw
  clear hw
  have h0 : Below w.heap.size w ((w.alloc (.cells #[.int .i64 wl, .int .i64 wh] 25)).alloc (.cells #[.int .i64 0, .int .i64 0] 25)) := (by repeat (first | exact Below.refl _ _ | assumption | refine Below.drew ?_ | refine Below.alloc ?_ (by first | omega | (simp only [World.size_alloc]; omega) | simp) _ | refine Below.setCell ?_ (by first | omega | (simp only [World.size_alloc]; omega) | simp) _)); have HB0 := Lib.hid ((Blk.new w 25 #[.int .i64 wl, .int .i64 wh]).alloc (.cells #[.int .i64 0, .int .i64 0] 25)); have hB1' := Blk.new (w.alloc (.cells #[.int .i64 wl, .int .i64 wh] 25)) 25 #[.int .i64 0, .int .i64 0]; rw [World.size_alloc] at hB1'; have HB1 := Lib.hid hB1'; have HA := Lib.hid ((hA.below h0).more h0.size); have H0 := Lib.hid h0; have hle : w.heap.size ≤ w.heap.size + 1 := (by omega); clear hA h0 hB1'
  go_enter Try.func17, Try.ntmps17
  go_wp2_with fail
  refine (validSacks_any _ _ _ _ hl HA.out).mono ?_; rintro e w1 ⟨rfl, hb1⟩; rw [hv]; have B0 := Lib.hid (HB0.out.below hb1 HB0.out.lt); have B1 := Lib.hid (HB1.out.below hb1 HB1.out.lt); have hB1 := H0.out.trans (hb1.mono H0.out.size); have c0 := B0.out.cell 0; have c1 := B0.out.cell 1; clear hb1 HB0 H0 HB1
  go_wp2_with (first | (go_at_call 52; refine (isIndex_any _ _ _ _ _).mono ?_; (first | rw [HD1.out] | rw [HD2.out]); rintro e w' ⟨rfl, rfl⟩) | (go_at_call 42; refine (within_any _ _ _ _ _).mono ?_; rintro e w2 ⟨rfl, hb1⟩; rw [HW.out]; replace B0 := Lib.hid (B0.out.below hb1 B0.out.lt); replace B1 := Lib.hid (B1.out.below hb1 B1.out.lt); replace hB1 := hB1.trans (hb1.mono hB1.size); clear hb1 c0 c1))
  have HC := Lib.hid (MixC.mk_ hn1 hn2 (⟨B0.out, B1.out, hB1⟩ : MixS w wl wh w2) (HS.out.below hB1 hsb))
  clear B0 B1 hB1 HA HD1 HD2 HW HS hle
  generalize hs1 : l[n1] = s1 at HO1 HC
  generalize hs2 : l[n2] = s2 at HO2 HC
  have HS1 := Lib.hid hs1
  have HS2 := Lib.hid hs2
  clear hs1 hs2
  go_cut [12, 13] (fun s12 s13 wx => s12 = .func (.func 54) #[.agg #[.int .i64 s1.w.lo, .int .i64 s1.w.hi, .int .i64 s1.c.lo, .int .i64 s1.c.hi, .int .i64 s1.l.lo, .int .i64 s1.l.hi, .int .i64 1, .int .i64 1]] #[] ∧ s13 = .func (.func 54) #[.agg #[.int .i64 s2.w.lo, .int .i64 s2.w.hi, .int .i64 s2.c.lo, .int .i64 s2.c.hi, .int .i64 s2.l.lo, .int .i64 s2.l.hi, .int .i64 1, .int .i64 1]] #[] ∧ Hid (MixS w wl wh wx))
  case first =>
    go_region_held3 (fun W => MixS w wl wh W ∧ W.cell? ⟨sb, so + n1 * 6, none⟩ = some (.int .i64 s1.w.lo) ∧ W.cell? ⟨sb, so + n1 * 6 + 1, none⟩ = some (.int .i64 s1.w.hi) ∧ W.cell? ⟨sb, so + n1 * 6 + 2, none⟩ = some (.int .i64 s1.c.lo) ∧ W.cell? ⟨sb, so + n1 * 6 + 3, none⟩ = some (.int .i64 s1.c.hi) ∧ W.cell? ⟨sb, so + n1 * 6 + 4, none⟩ = some (.int .i64 s1.l.lo) ∧ W.cell? ⟨sb, so + n1 * 6 + 5, none⟩ = some (.int .i64 s1.l.hi) ∧ W.cell? ⟨sb, so + n2 * 6, none⟩ = some (.int .i64 s2.w.lo) ∧ W.cell? ⟨sb, so + n2 * 6 + 1, none⟩ = some (.int .i64 s2.w.hi) ∧ W.cell? ⟨sb, so + n2 * 6 + 2, none⟩ = some (.int .i64 s2.c.lo) ∧ W.cell? ⟨sb, so + n2 * 6 + 3, none⟩ = some (.int .i64 s2.c.hi) ∧ W.cell? ⟨sb, so + n2 * 6 + 4, none⟩ = some (.int .i64 s2.l.lo) ∧ W.cell? ⟨sb, so + n2 * 6 + 5, none⟩ = some (.int .i64 s2.l.hi))
      (first | exact HC.out.drew | (exact MixC.call hsb (by assumption) (by assumption)) | go_keep)
      (first | (go_at_call 53; refine (gramOf_any _ _ _ _ _ _ _).mono ?_; rintro e e' ⟨rfl, hb'⟩))
    all_goals (obtain ⟨hM, -⟩ : MixC w wl wh sb so n1 n2 s1 s2 _ := by assumption)
    all_goals have HM := Lib.hid hM
    all_goals clear hM
    all_goals go_wp2_with fail
    all_goals go_meet
    all_goals exact ⟨rfl, rfl, HM⟩
  case rest =>
  obtain ⟨rfl, rfl, HM⟩ := hcut
  clear HC
  generalize wc = wE at HM ⊢
  go_wp2_with fail
  go_cut [14, 15] (fun s14 s15 wx => ∃ q1 q2 : Nat, s14 = .func (.func 66) #[] #[.pointer (some ⟨q1, 0, none⟩)] ∧ s15 = .func (.func 66) #[] #[.pointer (some ⟨q2, 0, none⟩)] ∧ Hid (MixF w wl wh q1 q2 wx))
  case first =>
    have e0 := HM.out.b0.cell 0
    have e1 := HM.out.b0.cell 1
    have hlt := HM.out.b0.lt
    go_region_with (first | (go_at_call 39; refine (mkCarbonOver _ _).mono ?_; rintro e w' ⟨rfl, rfl⟩))
    all_goals go_wp2_with fail
    all_goals go_meet
    all_goals first | exact ⟨_, _, rfl, rfl, mf1 HM.out⟩ | exact ⟨_, _, rfl, rfl, mf2 HM.out⟩
  case rest =>
    obtain ⟨q1, q2, rfl, rfl, HF⟩ := hcut
    clear HM
    have HX : Hid (mixV s1 s2 total wl wh = mixV s1 s2 total wl wh) := rfl
    have HXV : Hid (Ret (mixV s1 s2 total wl wh) w = Ret (mixV s1 s2 total wl wh) w) := rfl
    clear HX HXV
    have f0 := fld0
    have f1 := fld1
    go_wp2_with fail
    refine (gram_call s1 wl q1 _ HO1.out hw1 (by omega) HF.out.l1 HF.out.c1).mono ?_
    rintro e v1 ⟨rfl, hb⟩
    replace HF := Lib.hid (HF.out.call hb)
    clear hb
    go_wp2_with fail
    refine (gram_call s2 wl q1 _ HO2.out hw1 (by omega) HF.out.l1 HF.out.c1).mono ?_
    rintro e v2 ⟨rfl, hb⟩
    replace HF := Lib.hid (HF.out.call hb)
    clear hb
    obtain ⟨g1, g2, -, -⟩ := gram_bd HO1.out wl hw1 (by omega)
    obtain ⟨g3, g4, -, -⟩ := gram_bd HO2.out wl hw1 (by omega)
    obtain ⟨-, -, g5, g6⟩ := gram_bd HO1.out wh (by omega) hw3
    obtain ⟨-, -, g7, g8⟩ := gram_bd HO2.out wh (by omega) hw3
    go_wp2_with fail
    refine (notBelow_any total _ _ _ (by omega) ht' g1 g2 g3 g4).mono ?_
    rintro e v3 ⟨rfl, hb⟩
    replace HF := Lib.hid (HF.out.call hb)
    clear hb g1 g2 g3 g4
    obtain ⟨r1, hr1⟩ : ∃ r, notBelow total ((gram s1).adds (carbonOver wl)).least ((gram s2).adds (carbonOver wl)).least = r := ⟨_, rfl⟩
    rw [hr1]
    have HR1 := Lib.hid hr1
    clear hr1
    go_wp2_with fail
    have R1 := Lib.hid (Blk.new v3 74 #[.int .i64 r1.least, .int .i64 r1.most])
    replace HF := Lib.hid (HF.out.call ((Below.refl _ v3).alloc (Nat.le_refl _) (.cells #[.int .i64 r1.least, .int .i64 r1.most] 74)))
    refine (gram_call s1 wh q2 _ HO1.out (by omega) hw3 HF.out.l2 HF.out.c2).mono ?_
    rintro e v4 ⟨rfl, hb⟩
    replace HF := Lib.hid (HF.out.call hb)
    replace R1 := Lib.hid (R1.out.below hb R1.out.lt)
    clear hb
    go_wp2_with fail
    refine (gram_call s2 wh q2 _ HO2.out (by omega) hw3 HF.out.l2 HF.out.c2).mono ?_
    rintro e v5 ⟨rfl, hb⟩
    replace HF := Lib.hid (HF.out.call hb)
    replace R1 := Lib.hid (R1.out.below hb R1.out.lt)
    clear hb
    go_wp2_with fail
    refine (notBelow_any total _ _ _ (by omega) ht' (by omega) (by omega) (by omega) (by omega)).mono ?_
    rintro e v6 ⟨rfl, hb⟩
    replace HF := Lib.hid (HF.out.call hb)
    replace R1 := Lib.hid (R1.out.below hb R1.out.lt)
    clear hb g5 g6 g7 g8
    obtain ⟨r2, hr2⟩ : ∃ r, notBelow total (-((gram s1).adds (carbonOver wh)).most) (-((gram s2).adds (carbonOver wh)).most) = r := ⟨_, rfl⟩
    rw [hr2]
    have HR2 := Lib.hid hr2
    clear hr2
    have HE : Hid (mixV s1 s2 total wl wh = numV (max (max r1.least r2.least) 1) (min (min r1.most r2.most) (total - 1))) := by
      show _ = _
      simp only [mixV, mixReach, HR1.out, HR2.out]
    have lt1 := R1.out.lt
    have c10 := R1.out.cell 0
    have c11 := R1.out.cell 1
    have ne1 : v3.heap.size ≠ v6.heap.size := by omega
    have hle : w.heap.size ≤ w.heap.size + 1 := by omega
    have HF6 := Lib.hid (HF.out.call ((Below.refl _ v6).alloc (Nat.le_refl _) (.cells #[.int .i64 r2.least, .int .i64 r2.most] 74)))
    by_cases hxy : max (max r1.least r2.least) 1 ≤ min (min r1.most r2.most) (total - 1)
    · go_wp2_with (first | (go_at_call 46; refine (numbers_ok _ _ _ (by omega)).mono ?_; rintro e w4 ⟨rfl, hb4⟩; have HS4 := HF6.out.m.call hb4; have hB4 := HS4.below; have B4 := Lib.hid HS4.b1; have l4 := B4.out.lt; clear hb4 HS4) | (refine wpList_store_row rfl 25 (.tmp 10) (.tmp 103) rfl (w.heap.size + 1) #[_, _] rfl rfl 25 _ B4.out (by kernel_rfl) rfl (by kernel_rfl) ?_))
      all_goals exact bodyPost_ret (results_blk_tmp rfl _ rfl (B4.out.row _) (by kernel_rfl) (by kernel_rfl)) rfl ⟨by rw [HS1.out, HS2.out, HE.out]; exact ret_num (by omega) (by omega) (by omega), below_setRow hB4 hle _⟩
    · go_wp2_with (first | (go_at_call 46; refine (numbers_no _ _ _ (by omega)).mono ?_; rintro e w4 ⟨rfl, hb4⟩; have HS4 := HF6.out.m.call hb4; have hB4 := HS4.below; have B4 := Lib.hid HS4.b1; have l4 := B4.out.lt; clear hb4 HS4) | (refine wpList_store_row rfl 25 (.tmp 10) (.tmp 103) rfl (w.heap.size + 1) #[_, _] rfl rfl 25 _ B4.out (by kernel_rfl) rfl (by kernel_rfl) ?_))
      all_goals exact bodyPost_ret (results_blk_tmp rfl _ rfl (B4.out.row _) (by kernel_rfl) (by kernel_rfl)) rfl ⟨by rw [HS1.out, HS2.out, HE.out]; exact ret_none (by omega), below_setRow hB4 hle _⟩
end Go.Proofs.Ytoiggflhfbfiiaa
