/- The document's own checks of jigs and slats. -/
import Derived.Test.YtfpfafijockfnaaSm
import Derived.Test.YtfpfafijockfnaaYm
import Derived.Deep.RegionLawGrows
import Derived.Laws.AppendOwnNone
namespace Go.Proofs.Ytfpfafijockfnaa
open Go.RowKit Go.Shelf

set_option maxHeartbeats 400000 in
theorem rin5_any (n a b : Int) (w : World) : Calls Try.prog 54 #[.int .i64 n, .int .i64 a, .int .i64 b] w fun e w' => e = .returned (.bool (fromB n a b)) ∧ w = w' := by
  go_enter Try.func54, Try.ntmps54
  go_wp2
  all_goals go_ret
  all_goals exact ⟨ret_bool (by rw [Bool.eq_iff_iff]; simp only [fromB, decide_eq_true_eq, Bool.false_eq_true, false_iff]; omega), rfl⟩
set_option maxHeartbeats 400000 in
theorem rspan5_any (a b c d : Int) (w : World) : Calls Try.prog 53 #[.agg #[.int .i64 a, .int .i64 b], .int .i64 c, .int .i64 d] w (Ret (.bool (withinB ⟨a, b⟩ c d)) w) := by
  go_enter Try.func53, Try.ntmps53
  go_wp2
  all_goals go_ret
  all_goals exact ⟨ret_bool (by rw [Bool.eq_iff_iff]; simp only [withinB, decide_eq_true_eq, Bool.false_eq_true, false_iff]; omega), (Below.refl _ _).alloc (Nat.le_refl _) _⟩
set_option maxRecDepth 100000 in
set_option maxHeartbeats 2000000 in
theorem rjig5_any (j : Jig) (w : World) : Calls Try.prog 24 #[.agg #[.int .i64 j.glue.lo, .int .i64 j.glue.hi, .int .i64 j.lead.lo, .int .i64 j.lead.hi, .int .i64 j.side.lo, .int .i64 j.side.hi, .int .i64 j.height.lo, .int .i64 j.height.hi, .int .i64 j.play, .int .i64 j.grooves]] w (Ret (.bool (jigOk j)) w) := by
  have HB := Lib.hid (show Below w.heap.size w (w.alloc (.cells #[.int .i64 j.glue.lo, .int .i64 j.glue.hi, .int .i64 j.lead.lo, .int .i64 j.lead.hi, .int .i64 j.side.lo, .int .i64 j.side.hi, .int .i64 j.height.lo, .int .i64 j.height.hi, .int .i64 j.play, .int .i64 j.grooves] 25)) from (Below.refl _ _).alloc (Nat.le_refl _) _)
  have HK := Lib.hid (Blk.new w 25 #[.int .i64 j.glue.lo, .int .i64 j.glue.hi, .int .i64 j.lead.lo, .int .i64 j.lead.hi, .int .i64 j.side.lo, .int .i64 j.side.hi, .int .i64 j.height.lo, .int .i64 j.height.hi, .int .i64 j.play, .int .i64 j.grooves])
  have HD : Hid (jigOk j = (withinB ⟨j.glue.lo, j.glue.hi⟩ 0 500 && withinB ⟨j.lead.lo, j.lead.hi⟩ 1 5000 && withinB ⟨j.side.lo, j.side.hi⟩ (-500) 500 && withinB ⟨j.height.lo, j.height.hi⟩ (-500) 500 && fromB j.play 0 500 && fromB j.grooves 1 10)) := Lib.hid rfl
  go_enter Try.func24, Try.ntmps24
  go_wp2_with fail
  generalize World.alloc w _ = V at HB HK ⊢
  refine (rspan5_any _ _ _ _ _).mono ?_
  rintro e W1 ⟨he, hb1⟩
  replace HK := Lib.hid (HK.out.below hb1 HK.out.lt)
  replace HB := Lib.hid (HB.out.trans (hb1.mono HB.out.size))
  clear hb1
  obtain ⟨z1, hz1⟩ : ∃ z, withinB ⟨j.glue.lo, j.glue.hi⟩ 0 500 = z := ⟨_, rfl⟩
  rw [hz1] at he
  have H0 := Lib.hid hz1
  clear hz1
  subst he
  cases z1 with
  | false =>
    go_wp2_with fail
    go_ret
    exact ⟨ret_bool (Eq.symm (by rw [HD.out, H0.out]; simp)), HB.out⟩
  | true =>
    skip
    have x2 := HK.out.cell 2
    have x3 := HK.out.cell 3
    go_wp2_with fail
    clear x2 x3
    refine (rspan5_any _ _ _ _ _).mono ?_
    rintro e W1 ⟨he, hb1⟩
    replace HK := Lib.hid (HK.out.below hb1 HK.out.lt)
    replace HB := Lib.hid (HB.out.trans (hb1.mono HB.out.size))
    clear hb1
    obtain ⟨z1, hz1⟩ : ∃ z, withinB ⟨j.lead.lo, j.lead.hi⟩ 1 5000 = z := ⟨_, rfl⟩
    rw [hz1] at he
    have H1 := Lib.hid hz1
    clear hz1
    subst he
    cases z1 with
    | false =>
      go_wp2_with fail
      go_ret
      exact ⟨ret_bool (Eq.symm (by rw [HD.out, H0.out, H1.out]; simp)), HB.out⟩
    | true =>
      skip
      have x4 := HK.out.cell 4
      have x5 := HK.out.cell 5
      go_wp2_with fail
      clear x4 x5
      refine (rspan5_any _ _ _ _ _).mono ?_
      rintro e W1 ⟨he, hb1⟩
      replace HK := Lib.hid (HK.out.below hb1 HK.out.lt)
      replace HB := Lib.hid (HB.out.trans (hb1.mono HB.out.size))
      clear hb1
      obtain ⟨z1, hz1⟩ : ∃ z, withinB ⟨j.side.lo, j.side.hi⟩ (-500) 500 = z := ⟨_, rfl⟩
      rw [hz1] at he
      have H2 := Lib.hid hz1
      clear hz1
      subst he
      cases z1 with
      | false =>
        go_wp2_with fail
        go_ret
        exact ⟨ret_bool (Eq.symm (by rw [HD.out, H0.out, H1.out, H2.out]; simp)), HB.out⟩
      | true =>
        skip
        have x6 := HK.out.cell 6
        have x7 := HK.out.cell 7
        go_wp2_with fail
        clear x6 x7
        refine (rspan5_any _ _ _ _ _).mono ?_
        rintro e W1 ⟨he, hb1⟩
        replace HK := Lib.hid (HK.out.below hb1 HK.out.lt)
        replace HB := Lib.hid (HB.out.trans (hb1.mono HB.out.size))
        clear hb1
        obtain ⟨z1, hz1⟩ : ∃ z, withinB ⟨j.height.lo, j.height.hi⟩ (-500) 500 = z := ⟨_, rfl⟩
        rw [hz1] at he
        have H3 := Lib.hid hz1
        clear hz1
        subst he
        cases z1 with
        | false =>
          go_wp2_with fail
          go_ret
          exact ⟨ret_bool (Eq.symm (by rw [HD.out, H0.out, H1.out, H2.out, H3.out]; simp)), HB.out⟩
        | true =>
          skip
          have x8 := HK.out.cell 8
          go_wp2_with fail
          clear x8
          refine (rin5_any _ _ _ _).mono ?_
          rintro e W1 ⟨he, rfl⟩
          skip
          obtain ⟨z1, hz1⟩ : ∃ z, fromB j.play 0 500 = z := ⟨_, rfl⟩
          rw [hz1] at he
          have H4 := Lib.hid hz1
          clear hz1
          subst he
          cases z1 with
          | false =>
            go_wp2_with fail
            go_ret
            exact ⟨ret_bool (Eq.symm (by rw [HD.out, H0.out, H1.out, H2.out, H3.out, H4.out]; simp)), HB.out⟩
          | true =>
            skip
            have x9 := HK.out.cell 9
            go_wp2_with fail
            clear x9
            refine (rin5_any _ _ _ _).mono ?_
            rintro e W1 ⟨rfl, rfl⟩
            go_wp2_with fail
            go_ret
            exact ⟨ret_bool (by rw [HD.out, H0.out, H1.out, H2.out, H3.out, H4.out]; simp), HB.out⟩
set_option maxRecDepth 100000 in
set_option maxHeartbeats 2000000 in
theorem rslat5_any (s : Slat) (w : World) : Calls Try.prog 25 #[.agg #[.int .i64 s.thick.lo, .int .i64 s.thick.hi, .int .i64 s.depth.lo, .int .i64 s.depth.hi, .int .i64 s.shift.lo, .int .i64 s.shift.hi, .int .i64 s.pitch.lo, .int .i64 s.pitch.hi]] w (Ret (.bool (slatOk s)) w) := by
  have HB := Lib.hid (show Below w.heap.size w (w.alloc (.cells #[.int .i64 s.thick.lo, .int .i64 s.thick.hi, .int .i64 s.depth.lo, .int .i64 s.depth.hi, .int .i64 s.shift.lo, .int .i64 s.shift.hi, .int .i64 s.pitch.lo, .int .i64 s.pitch.hi] 37)) from (Below.refl _ _).alloc (Nat.le_refl _) _)
  have HK := Lib.hid (Blk.new w 37 #[.int .i64 s.thick.lo, .int .i64 s.thick.hi, .int .i64 s.depth.lo, .int .i64 s.depth.hi, .int .i64 s.shift.lo, .int .i64 s.shift.hi, .int .i64 s.pitch.lo, .int .i64 s.pitch.hi])
  have HD : Hid (slatOk s = (withinB ⟨s.thick.lo, s.thick.hi⟩ 1 10000 && withinB ⟨s.depth.lo, s.depth.hi⟩ 0 s.thick.lo && withinB ⟨s.shift.lo, s.shift.hi⟩ (-500) 500 && withinB ⟨s.pitch.lo, s.pitch.hi⟩ (-50) 50)) := Lib.hid rfl
  go_enter Try.func25, Try.ntmps25
  go_wp2_with fail
  generalize World.alloc w _ = V at HB HK ⊢
  refine (rspan5_any _ _ _ _ _).mono ?_
  rintro e W1 ⟨he, hb1⟩
  replace HK := Lib.hid (HK.out.below hb1 HK.out.lt)
  replace HB := Lib.hid (HB.out.trans (hb1.mono HB.out.size))
  clear hb1
  obtain ⟨z1, hz1⟩ : ∃ z, withinB ⟨s.thick.lo, s.thick.hi⟩ 1 10000 = z := ⟨_, rfl⟩
  rw [hz1] at he
  have H0 := Lib.hid hz1
  clear hz1
  subst he
  cases z1 with
  | false =>
    go_wp2_with fail
    go_ret
    exact ⟨ret_bool (Eq.symm (by rw [HD.out, H0.out]; simp)), HB.out⟩
  | true =>
    skip
    have x0 := HK.out.cell 0
    have x2 := HK.out.cell 2
    have x3 := HK.out.cell 3
    go_wp2_with fail
    clear x0 x2 x3
    refine (rspan5_any _ _ _ _ _).mono ?_
    rintro e W1 ⟨he, hb1⟩
    replace HK := Lib.hid (HK.out.below hb1 HK.out.lt)
    replace HB := Lib.hid (HB.out.trans (hb1.mono HB.out.size))
    clear hb1
    obtain ⟨z1, hz1⟩ : ∃ z, withinB ⟨s.depth.lo, s.depth.hi⟩ 0 s.thick.lo = z := ⟨_, rfl⟩
    rw [hz1] at he
    have H1 := Lib.hid hz1
    clear hz1
    subst he
    cases z1 with
    | false =>
      go_wp2_with fail
      go_ret
      exact ⟨ret_bool (Eq.symm (by rw [HD.out, H0.out, H1.out]; simp)), HB.out⟩
    | true =>
      skip
      have x4 := HK.out.cell 4
      have x5 := HK.out.cell 5
      go_wp2_with fail
      clear x4 x5
      refine (rspan5_any _ _ _ _ _).mono ?_
      rintro e W1 ⟨he, hb1⟩
      replace HK := Lib.hid (HK.out.below hb1 HK.out.lt)
      replace HB := Lib.hid (HB.out.trans (hb1.mono HB.out.size))
      clear hb1
      obtain ⟨z1, hz1⟩ : ∃ z, withinB ⟨s.shift.lo, s.shift.hi⟩ (-500) 500 = z := ⟨_, rfl⟩
      rw [hz1] at he
      have H2 := Lib.hid hz1
      clear hz1
      subst he
      cases z1 with
      | false =>
        go_wp2_with fail
        go_ret
        exact ⟨ret_bool (Eq.symm (by rw [HD.out, H0.out, H1.out, H2.out]; simp)), HB.out⟩
      | true =>
        skip
        have x6 := HK.out.cell 6
        have x7 := HK.out.cell 7
        go_wp2_with fail
        clear x6 x7
        refine (rspan5_any _ _ _ _ _).mono ?_
        rintro e W1 ⟨rfl, hb1⟩
        replace HB := Lib.hid (HB.out.trans (hb1.mono HB.out.size))
        clear hb1
        go_wp2_with fail
        go_ret
        exact ⟨ret_bool (by rw [HD.out, H0.out, H1.out, H2.out]; simp), HB.out⟩
end Go.Proofs.Ytfpfafijockfnaa
namespace Go.Proofs.Ytfpfafijockfnaa
open Go.RowKit Go.Shelf

/-- One lower slat gets an upper one (-1: none): what is gained, and what is used then. -/
def stepB (g : Int → Int → Option Int) (i : Int) (t : Nat) (c : Int) : Option (Int × Nat) :=
  if c = -1 then some (0, t) else match g i c with
  | some m => if Nat.testBit t c.toNat = true then none else some (m, t ||| 2 ^ c.toNat)
  | none => none
/-- How many leads the pairs of a list have; none: they cannot be glued. -/
def cntB (g : Int → Int → Option Int) : Int → Nat → List Int → Option Int
  | _, _, [] => some 0
  | i, t, c :: q => match stepB g i t c with
    | some mt => (cntB g (i + 1) mt.2 q).map (mt.1 + ·)
    | none => none
def befK (a b : Int) : Prop := a ≠ -1 ∧ (b = -1 ∨ a < b)
def LexB : List Int → List Int → Prop
  | a :: p, b :: q => (a = b ∧ LexB p q) ∨ befK a b
  | _, _ => True
def InU (U : Nat) (k : Nat) (c : Int) : Prop := c = -1 ∨ ((k : Int) ≤ c ∧ c < U)
structure ScB (g : Int → Int → Option Int) (i : Int) (t : Nat) (f : Nat → Prg) (U k : Nat) (r : Prg) (c0 : Int) (mt : Int × Nat) : Prop where
  hin : InU U k c0
  st : stepB g i t c0 = some mt
  eq : r = befP c0 mt.1 (f mt.2)
  all : ∀ c mt', InU U k c → stepB g i t c = some mt' → mt'.1 + (f mt'.2).2 ≤ r.2 ∧ (mt'.1 + (f mt'.2).2 = r.2 → c0 = c ∨ befK c0 c)
theorem scanB {g : Int → Int → Option Int} {i : Int} {t : Nat} {f : Nat → Prg} {U : Nat} : ∀ (k : Nat) (r : Prg) (c0 : Int) (mt : Int × Nat), k ≤ U → ScB g i t f U k r c0 mt → ∃ c1 m1, ScB g i t f U 0 (scanP g i t f k r) c1 m1
  | 0, r, c0, mt, _, h => ⟨c0, mt, h⟩
  | k + 1, r, c0, mt, hk, h => by
    have hne : (k : Int) ≠ -1 := by omega
    have wide : ∀ c : Int, InU U k c → c = (k : Int) ∨ InU U (k + 1) c := fun c hc => by
      unfold InU at hc ⊢
      omega
    have keep : (∀ mt', stepB g i t k = some mt' → mt'.1 + (f mt'.2).2 < r.2) → ScB g i t f U k r c0 mt := fun hlt => by
      refine ⟨?_, h.st, h.eq, fun c mt' hc hs => ?_⟩
      · have := h.hin; unfold InU at this ⊢; omega
      · rcases wide c hc with rfl | hc'
        · have := hlt mt' hs
          exact ⟨by omega, fun e => by omega⟩
        · exact h.all c mt' hc' hs
    show ∃ c1 m1, ScB g i t f U 0 (scanP g i t f k (tryP g i t f k r)) c1 m1
    cases hg : g i k with
    | none =>
      rw [tryP_no hg]
      exact scanB k r c0 mt (by omega) (keep fun mt' hs => by simp [stepB, hne, hg] at hs)
    | some m =>
      cases ht : Nat.testBit t k with
      | true =>
        rw [tryP_used hg ht]
        exact scanB k r c0 mt (by omega) (keep fun mt' hs => by simp [stepB, hne, hg, ht] at hs)
      | false =>
        have hst : stepB g i t k = some (m, t ||| 2 ^ k) := by simp [stepB, hne, hg, ht]
        rw [tryP_free hg ht]
        split
        · rename_i hle
          refine scanB k _ k (m, t ||| 2 ^ k) (by omega) ⟨.inr ⟨by omega, by omega⟩, hst, rfl, fun c mt' hc hs => ?_⟩
          show mt'.1 + (f mt'.2).2 ≤ m + (f (t ||| 2 ^ k)).2 ∧ (mt'.1 + (f mt'.2).2 = m + (f (t ||| 2 ^ k)).2 → (k : Int) = c ∨ befK k c)
          rcases wide c hc with rfl | hc'
          · rw [hst] at hs; cases hs; exact ⟨Int.le_refl _, fun _ => .inl rfl⟩
          · have := (h.all c mt' hc' hs).1
            exact ⟨by omega, fun _ => .inr ⟨hne, by unfold InU at hc'; omega⟩⟩
        · rename_i hle
          exact scanB k r c0 mt (by omega) (keep fun mt' hs => by rw [hst] at hs; cases hs; show m + (f (t ||| 2 ^ k)).2 < r.2; omega)
theorem pairB_succ (g : Int → Int → Option Int) (L U n t : Nat) : ∃ c0 mt, ScB g ((L : Int) - (n + 1 : Nat)) t (pairT g L U n) U 0 (pairT g L U (n + 1) t) c0 mt :=
  scanB U _ (-1) (0, t) (Nat.le_refl _) ⟨.inl rfl, by simp [stepB], rfl, fun c mt' hc hs => by
    have : c = -1 := by unfold InU at hc; omega
    subst this
    simp [stepB] at hs; subst hs
    exact ⟨Int.le_refl _, fun _ => .inl rfl⟩⟩
theorem sub_succ (L n : Nat) : ((L : Int) - (n + 1 : Nat)) + 1 = (L : Int) - n := by omega
/-- What is chosen can be glued, and has as many leads as is said. -/
theorem cnt_pair (g : Int → Int → Option Int) (L U : Nat) : ∀ (n t : Nat), cntB g ((L : Int) - n) t (pairT g L U n t).1 = some (pairT g L U n t).2 ∧ ∀ c ∈ (pairT g L U n t).1, InU U 0 c
  | 0, _ => ⟨rfl, by simp [pairT]⟩
  | n + 1, t => by
    obtain ⟨c0, mt, h⟩ := pairB_succ g L U n t
    obtain ⟨h1, h2⟩ := cnt_pair g L U n mt.2
    rw [h.eq]
    refine ⟨?_, ?_⟩
    · show cntB g _ t (c0 :: (pairT g L U n mt.2).1) = some (mt.1 + (pairT g L U n mt.2).2)
      rw [cntB, h.st, sub_succ]
      show Option.map _ _ = _
      rw [h1]; rfl
    · intro c hc
      have hc' : c ∈ c0 :: (pairT g L U n mt.2).1 := hc
      rcases List.mem_cons.1 hc' with rfl | hc'
      · exact h.hin
      · exact h2 c hc'
/-- No other pairs have more leads, or as many and come before. -/
theorem best_pair (g : Int → Int → Option Int) (L U : Nat) : ∀ (n t : Nat) (q : List Int) (m : Int), q.length = n → (∀ c ∈ q, InU U 0 c) → cntB g ((L : Int) - n) t q = some m → m ≤ (pairT g L U n t).2 ∧ (m = (pairT g L U n t).2 → LexB (pairT g L U n t).1 q)
  | 0, t, q, m, hl, _, h => by
    obtain rfl := List.eq_nil_of_length_eq_zero hl
    simp [cntB] at h
    subst h
    exact ⟨Int.le_refl _, fun _ => trivial⟩
  | n + 1, t, [], m, hl, _, h => by simp at hl
  | n + 1, t, c :: q, m, hl, hq, h => by
    obtain ⟨c0, mt, hs⟩ := pairB_succ g L U n t
    rw [cntB, sub_succ] at h
    cases hst : stepB g ((L : Int) - (n + 1 : Nat)) t c with
    | none => rw [hst] at h; simp at h
    | some m1 =>
      rw [hst] at h
      have h' : (cntB g ((L : Int) - n) m1.2 q).map (m1.1 + ·) = some m := h
      cases hc : cntB g ((L : Int) - n) m1.2 q with
      | none => rw [hc] at h'; simp at h'
      | some m2 =>
        rw [hc] at h'
        have e : m1.1 + m2 = m := by simpa using h'
        obtain ⟨b1, b2⟩ := best_pair g L U n m1.2 q m2 (by simpa using hl) (fun x hx => hq x (List.mem_cons_of_mem _ hx)) hc
        obtain ⟨a1, a2⟩ := hs.all c m1 (hq c (List.mem_cons_self ..)) hst
        refine ⟨by omega, fun em => ?_⟩
        have e2 : m2 = (pairT g L U n m1.2).2 := by omega
        rw [hs.eq]
        show LexB (c0 :: (pairT g L U n mt.2).1) (c :: q)
        rcases a2 (by omega) with rfl | hb
        · rw [hs.st] at hst; cases hst
          exact .inl ⟨rfl, b2 e2⟩
        · exact .inr hb
/-- The first place at which two lists part. -/
theorem lexB_at : ∀ (p q : List Int) (k : Nat) (a b : Int), LexB p q → (∀ j, j < k → p[j]? = q[j]?) → p[k]? = some a → q[k]? = some b → a ≠ b → befK a b
  | [], _, k, a, b, _, _, h, _, _ => by simp at h
  | _ :: _, [], k, a, b, _, _, _, h, _ => by simp at h
  | x :: p, y :: q, 0, a, b, hL, _, h1, h2, hne => by
    simp at h1 h2; subst h1; subst h2
    rcases hL with ⟨e, _⟩ | h
    · exact absurd e hne
    · exact h
  | x :: p, y :: q, k + 1, a, b, hL, hs, h1, h2, hne => by
    have h0 := hs 0 (by omega)
    simp at h0; subst h0
    rcases hL with ⟨_, h⟩ | h
    · exact lexB_at p q k a b h (fun j hj => by simpa using hs (j + 1) (by omega)) (by simpa using h1) (by simpa using h2) hne
    · unfold befK at h; omega
theorem grade_one (l : Lead) (x : Int) : gradeOf l [x] = if leadIn l x = true then 0 else -1 := by
  unfold gradeOf gradeFrom gradeFrom; rfl
theorem grade_count (j : Jig) (a b : Slat) (lim : Int) : (gradesOf j a b [lim]).countP (· == 0) = (leadsOf j a b).countP (leadIn · lim) := by
  unfold gradesOf
  rw [List.countP_map]
  congr 1
  funext l
  simp only [Function.comp_apply, grade_one]
  cases leadIn l lim <;> simp
theorem pair_gra {j : Jig} {l u : List Slat} {lim : Int} (h : pairE j l u lim = 0) {i k : Nat} (hi : i < l.length) (hk : k < u.length) :
    (∃ m : Nat, pairS j l u lim i k = some (m : Int) ∧ graE j l[i] u[k] [lim] = 0 ∧ (graL j l[i] u[k] [lim]).countP (· == 0) = m ∧ (graL j l[i] u[k] [lim]).length ≤ 10) ∨ (pairS j l u lim i k = none ∧ graE j l[i] u[k] [lim] = 6) := by
  obtain ⟨h1, ⟨h2, h3⟩, -, h5, -⟩ := slErr_0 h
  have ha := List.all_eq_true.1 h2 _ (List.getElem_mem hi)
  have hb := List.all_eq_true.1 h3 _ (List.getElem_mem hk)
  have h0 : graE0 j l[i] u[k] [lim] = 0 := by
    unfold graE0 slErr
    simp [h1, ha, hb, h5]
  have e : pairS j l u lim i k = if alwaysB j l[i] u[k] = true then some (((leadsOf j l[i] u[k]).countP (leadIn · lim) : Nat) : Int) else none := by
    unfold pairS
    simp [hi, hk]
  cases hal : alwaysB j l[i] u[k] with
  | true =>
    have eL : graL j l[i] u[k] [lim] = gradesOf j l[i] u[k] [lim] := by unfold graL; rw [if_pos ⟨h0, hal⟩]
    refine .inl ⟨_, by rw [e, hal]; rfl, by unfold graE; rw [if_pos h0, hal]; rfl, by rw [eL, grade_count], ?_⟩
    rw [eL, grades_len, leads_len]
    have := (jigIn_of h1).n1
    omega
  | false => exact .inr ⟨by rw [e, hal]; rfl, by unfold graE; rw [if_pos h0, hal]; rfl⟩
end Go.Proofs.Ytfpfafijockfnaa
namespace Go.Proofs.Ytfpfafijockfnaa
open Go.RowKit Go.Shelf

/-- What the closure has captured. -/
structure CtS (qj ql qu qm : Nat) (j : Jig) (A B : Option Addr) (n ca m cb : Nat) (lim : Int) (w W : World) : Prop where
  hb : Below w.heap.size w W
  kj : Blk W qj 25 #[.int .i64 j.glue.lo, .int .i64 j.glue.hi, .int .i64 j.lead.lo, .int .i64 j.lead.hi, .int .i64 j.side.lo, .int .i64 j.side.hi, .int .i64 j.height.lo, .int .i64 j.height.hi, .int .i64 j.play, .int .i64 j.grooves]
  kl : Blk W ql 26 #[.slice A n ca]
  ku : Blk W qu 26 #[.slice B m cb]
  km : Blk W qm 3 #[.int .i64 lim]
theorem CtS.call {qj ql qu qm : Nat} {j : Jig} {A B : Option Addr} {n ca m cb : Nat} {lim : Int} {w W W' : World} (h : CtS qj ql qu qm j A B n ca m cb lim w W) (hb : Below W.heap.size W W') : CtS qj ql qu qm j A B n ca m cb lim w W' :=
  ⟨h.hb.trans (hb.mono h.hb.size), h.kj.below hb h.kj.lt, h.kl.below hb h.kl.lt, h.ku.below hb h.ku.lt, h.km.below hb h.km.lt⟩
theorem bit_use2 {t q : Nat} (ht : t < 128) (hq : q < 7) : bits .and .i64 ((t : Int) / 2 ^ q) 1 = if Nat.testBit t q = true then 1 else 0 := by
  rw [← and_bits t ht q hq]
  rw [Int.natCast_ediv, Int.natCast_pow]; rfl
theorem cnt_at {G : Int → Int → Option Int} {q : List Int} {k t : Nat} (hk : k < q.length) : cntB G k t (q.drop k) = match stepB G k t q[k] with
    | some mt => (cntB G ((k : Int) + 1) mt.2 (q.drop (k + 1))).map (mt.1 + ·)
    | none => none := by
  rw [List.drop_eq_getElem_cons hk, cntB]
  all_goals (cases stepB G k t q[k] <;> rfl)
theorem map_add2 (o : Option Int) (a b : Int) : (o.map (b + ·)).map (a + ·) = o.map (a + b + ·) := by
  cases o with
  | none => rfl
  | some x => simp [Int.add_assoc]
theorem step_none (G : Int → Int → Option Int) (i : Int) (t : Nat) : stepB G i t (-1) = some (0, t) := by simp [stepB]
theorem step_used {G : Int → Int → Option Int} {i : Int} {t r : Nat} {m : Int} (hg : G i r = some m) (ht : Nat.testBit t r = true) : stepB G i t r = none := by
  have h : (r : Int) ≠ -1 := by omega
  simp [stepB, h, hg, ht]
theorem step_used2 {G : Int → Int → Option Int} {i : Int} {t r : Nat} (ht : Nat.testBit t r = true) : stepB G i t r = none := by
  cases hg : G i r with
  | some m => exact step_used hg ht
  | none =>
    have h : (r : Int) ≠ -1 := by omega
    simp [stepB, h, hg]
theorem step_not {G : Int → Int → Option Int} {i : Int} {t r : Nat} (hg : G i r = none) : stepB G i t r = none := by
  have h : (r : Int) ≠ -1 := by omega
  simp [stepB, h, hg]
theorem step_free {G : Int → Int → Option Int} {i : Int} {t r : Nat} {m : Int} (hg : G i r = some m) (ht : Nat.testBit t r = false) : stepB G i t r = some (m, t ||| 2 ^ r) := by
  have h : (r : Int) ≠ -1 := by omega
  simp [stepB, h, hg, ht]
set_option maxRecDepth 100000 in
set_option maxHeartbeats 8000000 in
theorem count5_any (w : World) (qj ql qu qm : Nat) (A B P : Option Addr) (ca cb cp : Nat) (j : Jig) (l u : List Slat) (lim : Int) (q : List Int) (hE : pairE j l u lim = 0) (hq : q.length = l.length) (hr : ∀ c ∈ q, InU u.length 0 c) (hP : IntSl w w.heap.size P q) (hA : SlatSl w w.heap.size A l) (hB : SlatSl w w.heap.size B u) (hS : CtS qj ql qu qm j A B l.length ca u.length cb lim w w) :
    Calls Try.prog 29 #[.slice P q.length cp, .pointer (some ⟨qu, 0, none⟩), .pointer (some ⟨qj, 0, none⟩), .pointer (some ⟨ql, 0, none⟩), .pointer (some ⟨qm, 0, none⟩)] w (Ret (.tuple #[.int .i64 ((cntB (pairS j l u lim) 0 0 q).getD 0), .bool (cntB (pairS j l u lim) 0 0 q).isSome]) w) := by
  have HPG := Lib.hid fun (i k : Nat) (hi : i < l.length) (hk : k < u.length) => pair_gra hE hi hk
  obtain ⟨-, -, ⟨hl7, hu7, -⟩, hlim, -⟩ := slErr_0 hE
  have HGO : Hid (GOk (pairS j l u lim)) := Lib.hid (pairS_ok (jigIn_of (slErr_0 hE).1))
  have HS := Lib.hid hS
  have HQ := Lib.hid hP
  have HAA := Lib.hid hA
  have HBB := Lib.hid hB
  have HR := Lib.hid hr
  have HQL := Lib.hid hq
  have hq0 : (0 : Int) ≤ q.length := by omega
  have hq7 : (q.length : Int) ≤ 7 := by omega
  have hu0 : (0 : Int) ≤ u.length := by omega
  have hu1 : (u.length : Int) ≤ 7 := by omega
  have HQ7 : Hid (q.length ≤ 7) := Lib.hid (by omega)
  generalize pairS j l u lim = G at *
  obtain ⟨res, hres⟩ : ∃ r, cntB G 0 0 q = r := ⟨_, rfl⟩
  rw [hres]
  have HC0 : Hid (res = (cntB G ((0 : Nat) : Int) 0 (q.drop 0)).map ((0 : Int) + ·)) := Lib.hid (by rw [← hres]; cases h : cntB G 0 0 q with | none => simp [h] | some x => simp [h])
  clear hE hq hr hP hA hB hS hlim hres hl7
  go_enter Try.func29, Try.ntmps29
  go_wp2_with fail
  go_loopw [8, 9, 18] (fun n t i wr => ∃ (k : Nat) (m : Int) (ub : Nat), k ≤ q.length ∧ n = .int .i64 m ∧ t = .int .i64 (ub : Int) ∧ i = .int .i64 k ∧ Hid ((0 ≤ m ∧ m ≤ 10 * k) ∧ ub < 128) ∧ Hid (res = (cntB G k ub (q.drop k)).map (m + ·)) ∧ Hid (CtS qj ql qu qm j A B l.length ca u.length cb lim w wr)) (fun _ _ i _ => q.length - (intOf i).toNat)
  case atStart => exact ⟨0, 0, 0, Nat.zero_le _, rfl, rfl, rfl, Lib.hid (by omega), HC0, HS⟩
  case round =>
    clear HS HC0
    obtain ⟨k, m, ub, hk, rfl, rfl, rfl, HM, HC, HS⟩ := hrel
    by_cases hlt : k < q.length
    · obtain ⟨bP, oP, rfl, hbP, hcP⟩ := HQ.out (by intro e; rw [e] at hlt; simp at hlt)
      have x0 := hcP k hlt
      rw [← HS.out.hb.cell (p := ⟨bP, _, none⟩) hbP] at x0
      rw [cnt_at hlt] at HC
      have hin := HR.out q[k] (List.getElem_mem hlt)
      have hk0 : (0 : Int) ≤ k := by omega
      have hkl : (k : Int) < q.length := by omega
      have hka : k < l.length := by have := HQL.out; omega
      generalize q[k] = c at *
      clear hcP hbP
      by_cases hc : c = -1
      · subst hc
        rw [step_none] at HC
        have HC2 : Hid (res = (cntB G ((k + 1 : Nat) : Int) ub (q.drop (k + 1))).map (m + ·)) := Lib.hid (by rw [HC.out]; show Option.map _ (Option.map _ _) = _; rw [map_add2]; simp)
        clear HC hin
        go_wp2_with fail
        go_roundw
        case rel => exact ⟨k + 1, m, ub, by omega, rfl, rfl, by go_num, Lib.hid (by have := HM.out; omega), HC2, HS⟩
        case measure => simp [intOf]; omega
      · have hc' : (c == -1) = false := by rw [beq_eq_false_iff_ne]; exact hc
        obtain ⟨r, rfl⟩ := Int.eq_ofNat_of_zero_le (show 0 ≤ c by unfold InU at hin; omega)
        have hru : r < u.length := by unfold InU at hin; omega
        have hr0 : (0 : Int) ≤ r := by omega
        have hr1 : (r : Int) < u.length := by omega
        have hr2 : ¬ (u.length : Int) ≤ r := by omega
        have hr3 : ¬ (r : Int) < 0 := by omega
        have hr64 : (r : Int) ≤ 64 := by omega
        have hr7 : r < 7 := by omega
        have x1 := HS.out.ku.cell 0
        have hbu := bit_use2 HM.out.2 hr7
        clear hin hc
        cases htb : Nat.testBit ub r with
        | true =>
          rw [step_used2 htb] at HC
          rw [if_pos htb] at hbu
          have HN : Hid (res = none) := Lib.hid HC.out
          clear HC htb
          go_wp2_with fail
          exact bodyPost_ret (v := .tuple #[.int .i64 0, .bool false]) (by simp [results, Try.results29, go_sem]) rfl ⟨by rw [HN.out]; rfl, HS.out.hb⟩
        | false =>
          rw [if_neg (by rw [htb]; simp)] at hbu
          have HO := Lib.hid (or_bits ub HM.out.2 r hr7)
          have HSH := Lib.hid (sh_bits r hr7)
          have HT2 : Hid (ub ||| 2 ^ r < 128) := Lib.hid (or_small ub HM.out.2 r hr7)
          have e1 : IntKind.i64.wrap (2 ^ r) = ((2 ^ r : Nat) : Int) := by rw [← HSH.out]; rw [Int.natCast_pow]; rfl
          have e2 : bits .or .i64 (ub : Int) ((2 ^ r : Nat) : Int) = ((ub ||| 2 ^ r : Nat) : Int) := HO.out
          have HPK := Lib.hid (HPG.out k r hka hru)
          have HST : Hid (∀ m1, G k r = some m1 → stepB G k ub r = some (m1, ub ||| 2 ^ r)) := Lib.hid fun m1 h => step_free h htb
          have HST2 : Hid (G k r = none → stepB G k ub r = none) := Lib.hid step_not
          have HGB := Lib.hid fun m1 => HGO.out k r m1
          obtain ⟨bA, oA, rfl, hbA, hsA⟩ := HAA.out (by intro e; rw [e] at hka; simp at hka)
          obtain ⟨bB, oB, rfl, hbB, hsB⟩ := HBB.out (by intro e; rw [e] at hru; simp at hru)
          have HRA := Lib.hid fun V (hV : Below w.heap.size w V) => range_low (slats_range hsA hka rfl) hV hbA
          have HRB := Lib.hid fun V (hV : Below w.heap.size w V) => range_low (slats_range hsB hru rfl) hV hbB
          generalize l[k] = a at *
          generalize u[r] = b at *
          generalize ((2 ^ r : Nat) : Int) = P2 at e1 e2
          generalize ub ||| 2 ^ r = ub2 at *
          have hkl' : (k : Int) < l.length := by omega
          clear htb HO HSH hsA hsB hbA hbB
          go_upto_region 9 with fail
          clear x0 x1 hbu e1 e2
          replace HS := Lib.hid (HS.out.call (Below.refl _ _).drew)
          refine wp_region_held_drew (S := fun W9 => (Blk W9 qj 25 #[.int .i64 j.glue.lo, .int .i64 j.glue.hi, .int .i64 j.lead.lo, .int .i64 j.lead.hi, .int .i64 j.side.lo, .int .i64 j.side.hi, .int .i64 j.height.lo, .int .i64 j.height.hi, .int .i64 j.play, .int .i64 j.grooves] ∧ Blk W9 ql 26 #[.slice (some ⟨bA, oA, none⟩) l.length ca] ∧ Blk W9 qu 26 #[.slice (some ⟨bB, oB, none⟩) u.length cb] ∧ Blk W9 qm 3 #[.int .i64 lim]) ∧ W9.rangeAt bA (oA + k * 8) [.int .i64 a.thick.lo, .int .i64 a.thick.hi, .int .i64 a.depth.lo, .int .i64 a.depth.hi, .int .i64 a.shift.lo, .int .i64 a.shift.hi, .int .i64 a.pitch.lo, .int .i64 a.pitch.hi] ∧ W9.rangeAt bB (oB + r * 8) [.int .i64 b.thick.lo, .int .i64 b.thick.hi, .int .i64 b.depth.lo, .int .i64 b.depth.hi, .int .i64 b.shift.lo, .int .i64 b.shift.hi, .int .i64 b.pitch.lo, .int .i64 b.pitch.hi]) (by kernel_rfl) ⟨⟨HS.out.kj, HS.out.kl, HS.out.ku, HS.out.km⟩, HRA.out _ HS.out.hb, HRB.out _ HS.out.hb⟩ (fun hH0 => ?_)
          generalize World.drew _ = V0 at *
          simp only [List.size_toArray, List.length_cons, List.length_nil, Nat.reduceAdd, Array.replicate_succ, Array.replicate_zero, List.push_toArray, List.nil_append, List.cons_append]
          refine wpAnyH_take (i := 0) (v := _) rfl (by kernel_rfl) (by kernel_rfl) (by kernel_rfl) (fun _ _ _ h => h) (yieldsIf_load_mid (by rfl) _ _ rfl _ _ rfl [.int .i64 j.glue.lo, .int .i64 j.glue.hi, .int .i64 j.lead.lo, .int .i64 j.lead.hi, .int .i64 j.side.lo, .int .i64 j.side.hi, .int .i64 j.height.lo, .int .i64 j.height.hi, .int .i64 j.play, .int .i64 j.grooves] _ (fun w0 h0 => h0.1.1.range) (by rfl) (by rfl) (by kernel_rfl)) (by assumption) ?_
          (try simp only [Act.put, List.getElem_toArray, List.getElem_cons_zero, List.setIfInBounds_toArray, List.set_cons_zero, List.set_cons_succ])
          refine wpAnyH_take (i := 1 ) (v := ?_) rfl (by kernel_rfl) (by kernel_rfl) (by kernel_rfl) (fun _ _ _ h => h) (Or.inl ⟨by rfl, ?_⟩) (by assumption) ?_; rotate_left; (· (intro w0 hSw; have a0 := hSw.1.2.1.cell 0; have a1 := hSw.1.2.2.1.cell 0; have a2 := hSw.1.2.2.2.cell 0; clear hSw; go_simp); first | done | with_reducible rfl); (try simp only [Act.put, List.getElem_toArray, List.getElem_cons_succ, List.getElem_cons_zero, List.setIfInBounds_toArray, List.set_cons_zero, List.set_cons_succ])
          refine wpAnyH_take (i := 2 ) (v := ?_) rfl (by kernel_rfl) (by kernel_rfl) (by kernel_rfl) (fun _ _ _ h => h) (Or.inl ⟨by rfl, ?_⟩) (by assumption) ?_; rotate_left; (· (intro w0 hSw; have a0 := hSw.1.2.1.cell 0; have a1 := hSw.1.2.2.1.cell 0; have a2 := hSw.1.2.2.2.cell 0; clear hSw; go_simp); first | done | with_reducible rfl); (try simp only [Act.put, List.getElem_toArray, List.getElem_cons_succ, List.getElem_cons_zero, List.setIfInBounds_toArray, List.set_cons_zero, List.set_cons_succ])
          refine wpAnyH_take (i := 3 ) (v := ?_) rfl (by kernel_rfl) (by kernel_rfl) (by kernel_rfl) (fun _ _ _ h => h) (Or.inl ⟨by rfl, ?_⟩) (by assumption) ?_; rotate_left; (· (intro w0 hSw; have a0 := hSw.1.2.1.cell 0; have a1 := hSw.1.2.2.1.cell 0; have a2 := hSw.1.2.2.2.cell 0; clear hSw; go_simp); first | done | with_reducible rfl); (try simp only [Act.put, List.getElem_toArray, List.getElem_cons_succ, List.getElem_cons_zero, List.setIfInBounds_toArray, List.set_cons_zero, List.set_cons_succ])
          refine wpAnyH_take (i := 4) (v := _) rfl (by kernel_rfl) (by kernel_rfl) (by kernel_rfl) (fun _ _ _ h => h) (yieldsIf_load_mid (by rfl) _ _ rfl _ _ rfl [.int .i64 a.thick.lo, .int .i64 a.thick.hi, .int .i64 a.depth.lo, .int .i64 a.depth.hi, .int .i64 a.shift.lo, .int .i64 a.shift.hi, .int .i64 a.pitch.lo, .int .i64 a.pitch.hi] _ (fun w0 h0 => h0.2.1) (by rfl) (by rfl) (by kernel_rfl)) (by assumption) ?_
          (try simp only [Act.put, List.getElem_toArray, List.getElem_cons_succ, List.getElem_cons_zero, List.setIfInBounds_toArray, List.set_cons_zero, List.set_cons_succ])
          refine wpAnyH_take (i := 5 ) (v := ?_) rfl (by kernel_rfl) (by kernel_rfl) (by kernel_rfl) (fun _ _ _ h => h) (Or.inl ⟨by rfl, ?_⟩) (by assumption) ?_; rotate_left; (· (intro w0 hSw; have a0 := hSw.1.2.1.cell 0; have a1 := hSw.1.2.2.1.cell 0; have a2 := hSw.1.2.2.2.cell 0; clear hSw; go_simp); first | done | with_reducible rfl); (try simp only [Act.put, List.getElem_toArray, List.getElem_cons_succ, List.getElem_cons_zero, List.setIfInBounds_toArray, List.set_cons_zero, List.set_cons_succ])
          refine wpAnyH_take (i := 6 ) (v := ?_) rfl (by kernel_rfl) (by kernel_rfl) (by kernel_rfl) (fun _ _ _ h => h) (Or.inl ⟨by rfl, ?_⟩) (by assumption) ?_; rotate_left; (· (intro w0 hSw; have a0 := hSw.1.2.1.cell 0; have a1 := hSw.1.2.2.1.cell 0; have a2 := hSw.1.2.2.2.cell 0; clear hSw; go_simp); first | done | with_reducible rfl); (try simp only [Act.put, List.getElem_toArray, List.getElem_cons_succ, List.getElem_cons_zero, List.setIfInBounds_toArray, List.set_cons_zero, List.set_cons_succ])
          refine wpAnyH_take (i := 7 ) (v := ?_) rfl (by kernel_rfl) (by kernel_rfl) (by kernel_rfl) (fun _ _ _ h => h) (Or.inl ⟨by rfl, ?_⟩) (by assumption) ?_; rotate_left; (· (intro w0 hSw; have a0 := hSw.1.2.1.cell 0; have a1 := hSw.1.2.2.1.cell 0; have a2 := hSw.1.2.2.2.cell 0; clear hSw; go_simp); first | done | with_reducible rfl); (try simp only [Act.put, List.getElem_toArray, List.getElem_cons_succ, List.getElem_cons_zero, List.setIfInBounds_toArray, List.set_cons_zero, List.set_cons_succ])
          refine wpAnyH_take (i := 8) (v := _) rfl (by kernel_rfl) (by kernel_rfl) (by kernel_rfl) (fun _ _ _ h => h) (yieldsIf_load_mid (by rfl) _ _ rfl _ _ rfl [.int .i64 b.thick.lo, .int .i64 b.thick.hi, .int .i64 b.depth.lo, .int .i64 b.depth.hi, .int .i64 b.shift.lo, .int .i64 b.shift.hi, .int .i64 b.pitch.lo, .int .i64 b.pitch.hi] _ (fun w0 h0 => h0.2.2) (by rfl) (by rfl) (by kernel_rfl)) (by assumption) ?_
          (try simp only [Act.put, List.getElem_toArray, List.getElem_cons_succ, List.getElem_cons_zero, List.setIfInBounds_toArray, List.set_cons_zero, List.set_cons_succ])
          refine wpAnyH_take (i := 9 ) (v := ?_) rfl (by kernel_rfl) (by kernel_rfl) (by kernel_rfl) (fun _ _ _ h => h) (Or.inl ⟨by rfl, ?_⟩) (by assumption) ?_; rotate_left; (· (intro w0 hSw; have a0 := hSw.1.2.1.cell 0; have a1 := hSw.1.2.2.1.cell 0; have a2 := hSw.1.2.2.2.cell 0; clear hSw; go_simp); first | done | with_reducible rfl); (try simp only [Act.put, List.getElem_toArray, List.getElem_cons_succ, List.getElem_cons_zero, List.setIfInBounds_toArray, List.set_cons_zero, List.set_cons_succ])
          refine wpAnyH_ready (rs := [10]) (by kernel_rfl) (by simp) ?_
          refine AllReadyH.cons (by simp only [List.getElem?_toArray, List.getElem?_cons_succ, List.getElem?_cons_zero]; rfl) (fun K hK => ?_) AllReadyH.nil
          go_simp
          have hb : Below V0.heap.size V0 (V0.alloc (.cells #[.int .i64 lim] 3)) := (Below.refl _ _).alloc (Nat.le_refl _) _
          have H9 := Lib.hid (Blk.new V0 3 #[.int .i64 lim])
          replace HS := Lib.hid (HS.out.call hb)
          clear hb
          generalize V0.heap.size = g9 at *
          generalize World.alloc V0 _ = X9 at *
          refine hK.out _ _ ⟨⟨HS.out.kj, HS.out.kl, HS.out.ku, HS.out.km⟩, HRA.out _ HS.out.hb, HRB.out _ HS.out.hb⟩ (fun hH1 => ?_)
          clear hK K
          try simp only [List.setIfInBounds_toArray, List.set_cons_zero, List.set_cons_succ]
          refine wpAnyH_ready (rs := [11]) (by kernel_rfl) (by simp) ?_
          refine AllReadyH.cons (by simp only [List.getElem?_toArray, List.getElem?_cons_succ, List.getElem?_cons_zero]; rfl) (fun K hK => ?_) AllReadyH.nil
          go_simp
          refine (grades5_any j a b (some ⟨g9, 0, none⟩) 1 [lim] _ (by simp) (one_lim H9.out)).mono ?_
          rintro e X ⟨A9, c9, rfl, hown, hb⟩
          replace HS := Lib.hid (HS.out.call hb)
          have HOW := Lib.hid (show PlanAt X (.slice A9 (graL j a b [lim]).length c9) (graL j a b [lim]) from own_low hown (Nat.zero_le _))
          clear hb hown H9
          refine hK.out _ _ ⟨⟨HS.out.kj, HS.out.kl, HS.out.ku, HS.out.km⟩, HRA.out _ HS.out.hb, HRB.out _ HS.out.hb⟩ (fun hH2 => ?_)
          clear hK K
          try simp only [List.setIfInBounds_toArray, List.set_cons_zero, List.set_cons_succ]
          refine wpAnyH_take (i := 12 ) (v := ?_) rfl (by kernel_rfl) (by kernel_rfl) (by kernel_rfl) (fun _ _ _ h => h) (Or.inl ⟨by rfl, ?_⟩) (by assumption) ?_; rotate_left; (· (intro w0 hSw; have a0 := hSw.1.2.1.cell 0; have a1 := hSw.1.2.2.1.cell 0; have a2 := hSw.1.2.2.2.cell 0; clear hSw; go_simp); first | done | with_reducible rfl); (try simp only [Act.put, List.getElem_toArray, List.getElem_cons_succ, List.getElem_cons_zero, List.setIfInBounds_toArray, List.set_cons_zero, List.set_cons_succ])
          refine wpAnyH_take (i := 13 ) (v := ?_) rfl (by kernel_rfl) (by kernel_rfl) (by kernel_rfl) (fun _ _ _ h => h) (Or.inl ⟨by rfl, ?_⟩) (by assumption) ?_; rotate_left; (· (intro w0 hSw; have a0 := hSw.1.2.1.cell 0; have a1 := hSw.1.2.2.1.cell 0; have a2 := hSw.1.2.2.2.cell 0; clear hSw; go_simp); first | done | with_reducible rfl); (try simp only [Act.put, List.getElem_toArray, List.getElem_cons_succ, List.getElem_cons_zero, List.setIfInBounds_toArray, List.set_cons_zero, List.set_cons_succ])
          refine wpAnyH_take (i := 14 ) (v := ?_) rfl (by kernel_rfl) (by kernel_rfl) (by kernel_rfl) (fun _ _ _ h => h) (Or.inl ⟨by rfl, ?_⟩) (by assumption) ?_; rotate_left; (· (intro w0 hSw; have a0 := hSw.1.2.1.cell 0; have a1 := hSw.1.2.2.1.cell 0; have a2 := hSw.1.2.2.2.cell 0; clear hSw; go_simp); first | done | with_reducible rfl); (try simp only [Act.put, List.getElem_toArray, List.getElem_cons_succ, List.getElem_cons_zero, List.setIfInBounds_toArray, List.set_cons_zero, List.set_cons_succ])
          refine wpAnyH_take (i := 15 ) (v := ?_) rfl (by kernel_rfl) (by kernel_rfl) (by kernel_rfl) (fun _ _ _ h => h) (Or.inl ⟨by rfl, ?_⟩) (by assumption) ?_; rotate_left; (· (intro w0 hSw; have a0 := hSw.1.2.1.cell 0; have a1 := hSw.1.2.2.1.cell 0; have a2 := hSw.1.2.2.2.cell 0; clear hSw; go_simp); first | done | with_reducible rfl); (try simp only [Act.put, List.getElem_toArray, List.getElem_cons_succ, List.getElem_cons_zero, List.setIfInBounds_toArray, List.set_cons_zero, List.set_cons_succ])
          refine wpAnyH_take (i := 16 ) (v := ?_) rfl (by kernel_rfl) (by kernel_rfl) (by kernel_rfl) (fun _ _ _ h => h) (Or.inl ⟨by rfl, ?_⟩) (by assumption) ?_; rotate_left; (· (intro w0 hSw; have a0 := hSw.1.2.1.cell 0; have a1 := hSw.1.2.2.1.cell 0; have a2 := hSw.1.2.2.2.cell 0; clear hSw; go_simp); first | done | with_reducible rfl); (try simp only [Act.put, List.getElem_toArray, List.getElem_cons_succ, List.getElem_cons_zero, List.setIfInBounds_toArray, List.set_cons_zero, List.set_cons_succ])
          refine wpAnyH_done (by kernel_rfl) ?_ _
          clear HRA HRB
          rcases HPK.out with ⟨z, hg1, hg2, hg3, hg4⟩ | ⟨hg1, hg2⟩
          · rw [HST.out _ hg1] at HC
            have hz10 := (HGB.out _ hg1)
            have HC2 : Hid (res = (cntB G ((k + 1 : Nat) : Int) ub2 (q.drop (k + 1))).map (m + (z : Int) + ·)) := Lib.hid (by rw [HC.out]; show Option.map _ (Option.map _ _) = _; rw [map_add2]; simp)
            have HZ := Lib.hid hg3
            rw [hg2]
            clear hg1 hg2 hg3 HC HST HST2 HGB HPK
            generalize graL j a b [lim] = gl at *
            have HGS := Lib.hid (plan_sl5 HOW.out)
            have hgl0 : (0 : Int) ≤ gl.length := by omega
            have hgl1 : (gl.length : Int) ≤ 10 := by omega
            have hsz := HS.out.hb
            have HX := Lib.hid (Below.refl X.heap.size X)
            clear hsz
            go_wp2_with fail
            go_loopw [8, 63] (fun n i wr => ∃ (p y : Nat), p ≤ gl.length ∧ n = .int .i64 (m + y) ∧ i = .int .i64 p ∧ Hid (y = (gl.take p).countP (· == 0)) ∧ Hid (CtS qj ql qu qm j (some ⟨bA, oA, none⟩) (some ⟨bB, oB, none⟩) l.length ca u.length cb lim w wr) ∧ Hid (Below X.heap.size X wr)) (fun _ i _ => gl.length - (intOf i).toNat)
            case atStart => exact ⟨0, 0, Nat.zero_le _, by simp, rfl, Lib.hid (by simp), HS, HX⟩
            case round =>
              clear HS HX
              obtain ⟨p, y, hp, rfl, rfl, HY, HS, HX⟩ := hrel
              by_cases hpl : p < gl.length
              · obtain ⟨bG, oG, rfl, hbG, hcG⟩ := HGS.out (by intro e; rw [e] at hpl; simp at hpl)
                have g0 := hcG p hpl
                rw [← HX.out.cell (p := ⟨bG, _, none⟩) hbG] at g0
                have HCN : Hid ((gl.take (p + 1)).countP (· == 0) = (gl.take p).countP (· == 0) + if (gl[p] == 0) = true then 1 else 0) := Lib.hid (by rw [List.take_succ_eq_append_getElem hpl, List.countP_append]; simp [List.countP_cons])
                have hy10 : y ≤ 10 := by
                  have h1 := HY.out
                  have h2 := List.countP_le_length (p := fun x : Int => x == 0) (l := gl.take p)
                  rw [List.length_take] at h2
                  omega
                have hmb := HM.out.1
                have wm : IntKind.i64.wrap (m + (y : Int) + 1) = m + (y : Int) + 1 := IntWalk.i64_in _ ⟨by omega, by omega⟩
                have hp0 : (0 : Int) ≤ p := by omega
                have hp1 : (p : Int) < gl.length := by omega
                generalize gl[p] = gv at *
                clear hcG hmb
                cases hw : gv == 0 with
                | true =>
                  rw [hw] at HCN
                  have HY2 : Hid (y + 1 = (gl.take (p + 1)).countP (· == 0)) := Lib.hid (by rw [HCN.out, ← HY.out]; rfl)
                  clear HCN HY
                  go_wp2_with fail
                  go_roundw
                  case rel => exact ⟨p + 1, y + 1, by omega, by rw [Int.natCast_add, ← Int.add_assoc]; rfl, by go_num, HY2, HS, HX⟩
                  case measure => simp [intOf]; omega
                | false =>
                  rw [hw] at HCN
                  have HY2 : Hid (y = (gl.take (p + 1)).countP (· == 0)) := Lib.hid (by rw [HCN.out, ← HY.out]; rfl)
                  clear HCN HY
                  go_wp2_with fail
                  go_roundw
                  case rel => exact ⟨p + 1, y, by omega, rfl, by go_num, HY2, HS, HX⟩
                  case measure => simp [intOf]; omega
              · obtain rfl : gl.length = p := by omega
                have hpl' : ¬ (gl.length : Int) < gl.length := by omega
                have hyz : y = z := by rw [HY.out, List.take_length, HZ.out]
                subst hyz
                clear HY HZ
                go_wp2_with fail
                go_roundw
                case rel => exact ⟨k + 1, m + y, ub2, by omega, rfl, rfl, by go_num, Lib.hid (by have := HM.out; have := HT2.out; omega), HC2, HS⟩
                case measure => simp [intOf]; omega
          · rw [HST2.out hg1] at HC
            have HN : Hid (res = none) := Lib.hid HC.out
            rw [hg2]
            clear hg1 hg2 HC HST HST2 HGB HPK
            go_wp2_with fail
            exact bodyPost_ret (v := .tuple #[.int .i64 0, .bool false]) (by simp [results, Try.results29, go_sem]) rfl ⟨by rw [HN.out]; rfl, HS.out.hb⟩
    · obtain rfl : q.length = k := by omega
      have hlt' : ¬ (q.length : Int) < q.length := by omega
      have HN : Hid (res = some m) := Lib.hid (by rw [HC.out, List.drop_length]; simp [cntB])
      clear HC
      go_wp2_with fail
      exact bodyPost_ret (v := .tuple #[.int .i64 m, .bool true]) (by simp [results, Try.results29, go_sem]) rfl ⟨by rw [HN.out]; rfl, HS.out.hb⟩
end Go.Proofs.Ytfpfafijockfnaa
namespace Go.Proofs.Ytfpfafijockfnaa
open Go.RowKit Go.Shelf

/-- The cells of slats. -/
def slatsV : List Slat → List Value
  | [] => []
  | s :: r => .int .i64 s.thick.lo :: .int .i64 s.thick.hi :: .int .i64 s.depth.lo :: .int .i64 s.depth.hi :: .int .i64 s.shift.lo :: .int .i64 s.shift.hi :: .int .i64 s.pitch.lo :: .int .i64 s.pitch.hi :: slatsV r
theorem slatsV_len : ∀ l, (slatsV l).length = l.length * 8
  | [] => rfl
  | _ :: l => by simp only [slatsV, List.length_cons, slatsV_len l]; omega
theorem slatsV_append : ∀ a b, slatsV (a ++ b) = slatsV a ++ slatsV b
  | [], _ => rfl
  | s :: a, b => by simp only [List.cons_append, slatsV, slatsV_append a b]
theorem slatsV_one : ∀ (l : List Slat), ∀ u ∈ slatsV l, u.oneCell' = true
  | [], u, h => by simp [slatsV] at h
  | l :: r, u, h => by
    simp only [slatsV, List.mem_cons] at h
    rcases h with rfl | rfl | rfl | rfl | rfl | rfl | rfl | rfl | h
    · rfl
    · rfl
    · rfl
    · rfl
    · rfl
    · rfl
    · rfl
    · rfl
    · exact slatsV_one r u h
theorem slatsV_at : ∀ (l : List Slat) (i : Nat) (h : i < l.length), (slatsV l)[i * 8]? = some (.int .i64 l[i].thick.lo) ∧ (slatsV l)[i * 8 + 1]? = some (.int .i64 l[i].thick.hi) ∧ (slatsV l)[i * 8 + 2]? = some (.int .i64 l[i].depth.lo) ∧ (slatsV l)[i * 8 + 3]? = some (.int .i64 l[i].depth.hi) ∧ (slatsV l)[i * 8 + 4]? = some (.int .i64 l[i].shift.lo) ∧ (slatsV l)[i * 8 + 5]? = some (.int .i64 l[i].shift.hi) ∧ (slatsV l)[i * 8 + 6]? = some (.int .i64 l[i].pitch.lo) ∧ (slatsV l)[i * 8 + 7]? = some (.int .i64 l[i].pitch.hi)
  | s :: l, 0, _ => ⟨rfl, rfl, rfl, rfl, rfl, rfl, rfl, rfl⟩
  | s :: l, i + 1, h => by
    have := slatsV_at l i (by simpa using h)
    rw [show (i + 1) * 8 = i * 8 + 8 by omega]
    exact this
theorem slats_news {W : World} {b off : Nat} {l : List Slat} (h : SlatsAt W b off l) : ∀ (j : Nat) u, (slatsV l)[j]? = some u → W.cell? ((⟨b, off, none⟩ : Addr).add j) = some u := fun j u hj => by
  rw [Addr.add_mid]
  have hlt : j < (slatsV l).length := (List.getElem?_eq_some_iff.1 hj).1
  rw [slatsV_len] at hlt
  have hi : j / 8 < l.length := by omega
  obtain ⟨a0, a1, a2, a3, a4, a5, a6, a7⟩ := h (j / 8) hi
  obtain ⟨b0, b1, b2, b3, b4, b5, b6, b7⟩ := slatsV_at l (j / 8) hi
  have hr : j = j / 8 * 8 ∨ j = j / 8 * 8 + 1 ∨ j = j / 8 * 8 + 2 ∨ j = j / 8 * 8 + 3 ∨ j = j / 8 * 8 + 4 ∨ j = j / 8 * 8 + 5 ∨ j = j / 8 * 8 + 6 ∨ j = j / 8 * 8 + 7 := by omega
  generalize j / 8 = i at *
  rcases hr with rfl | rfl | rfl | rfl | rfl | rfl | rfl | rfl
  · rw [b0] at hj; cases hj; exact a0
  · rw [b1] at hj; cases hj; exact a1
  · rw [b2] at hj; cases hj; exact a2
  · rw [b3] at hj; cases hj; exact a3
  · rw [b4] at hj; cases hj; exact a4
  · rw [b5] at hj; cases hj; exact a5
  · rw [b6] at hj; cases hj; exact a6
  · rw [b7] at hj; cases hj; exact a7
theorem slatInfo : (Try.prog.info? 37).map (fun i => (i.zero, i.size, i.bytes)) = some (some (.agg #[.int .i64 0, .int .i64 0, .int .i64 0, .int .i64 0, .int .i64 0, .int .i64 0, .int .i64 0, .int .i64 0]), 8, 64) := by kernel_rfl
theorem und_slatsR : Try.prog.underlying 26 = some (.slice 37) := by kernel_rfl
/-- A row of slats of the call's own. -/
theorem slats_own {W : World} {B : Nat} {A : Option Addr} {n c : Nat} {l : List Slat} (h : W.ownsRow B 37 8 (.slice A n c) n (slatsV l)) (hn : n = l.length) : SlatSl W W.heap.size A l := fun hne => by
  have hpos := List.length_pos_iff.2 hne
  obtain ⟨h1, ⟨-, h2⟩ | ⟨g, cap, cur, hv, h3, h4, h5, h6, h7, h8⟩⟩ := h
  · omega
  · rw [Value.slice.injEq] at hv
    have hg := (Array.getElem?_eq_some_iff.1 h4).1
    refine ⟨g, 0, hv.1, hg, fun i hi => ?_⟩
    have key : ∀ j, j < n * 8 → ∀ u, (slatsV l)[j]? = some u → W.cell? ⟨g, j, none⟩ = some u := fun j hj u hu => by
      rw [cell_of_row W g j cur 37 (0, 0) h4]
      rw [← h8, List.getElem?_take, if_pos hj] at hu
      simpa using hu
    obtain ⟨b0, b1, b2, b3, b4, b5, b6, b7⟩ := slatsV_at l i hi
    simp only [Nat.zero_add]
    exact ⟨key _ (by omega) _ b0, key _ (by omega) _ b1, key _ (by omega) _ b2, key _ (by omega) _ b3, key _ (by omega) _ b4, key _ (by omega) _ b5, key _ (by omega) _ b6, key _ (by omega) _ b7⟩
/-- A row with no slats in a block of its own. -/
theorem slats_empty {W : World} {B g : Nat} (hg : B ≤ g) (h : Blk W g 37 #[]) : W.ownsRow B 37 8 (.slice (some ⟨g, 0, none⟩) 0 0) 0 (slatsV []) :=
  ⟨rfl, .inr ⟨g, 0, #[], rfl, hg, h, by simp, Nat.zero_le _, by simp, by simp [slatsV]⟩⟩
/-- append(s, x...), where s is the call's own and x is any slice, nil or not, at a step of a region that draws its order. -/
theorem step_append_sl {P : Program} {ops : Array Oper} {o : Oper} {a : Act} {w : World} {K : Act → World → Prop} {Q : Exit → Act → World → Prop} {E : Prop}
    (hg : o.guard = none) (s x : Operand) (t : TypeId) (hop : o.op = Op.call { callee := Callee.builtin Builtin.append, args := #[s, x], argTypes := #[t, t] })
    (base : Nat) (e : TypeId) (i : TypeInfo) (z : Value) (size bytes : Nat) (h1 : P.underlying t = some (.slice e)) (h2 : P.info? e = some i) (h3 : i.zero = some z) (h4 : i.size = size) (h5 : i.bytes = bytes) (h6 : z.cells.size = size) (h7 : 0 < size)
    (v : Value) (n : Nat) (xs : List Value) (hs : a.eval s = v) (hown : w.ownsRow base e size v n xs)
    (A : Option Addr) (m c : Nat) (news : List Value) (hx : a.eval x = .slice A m c) (hnone : A = none → m = 0 ∧ c = 0) (hn : news.length = m * size) (hc : ∀ ad, A = some ad → ∀ j u, news[j]? = some u → w.cell? (ad.add j) = some u) (h1c : ∀ u ∈ news, u.oneCell' = true)
    (b1 : n + m ≤ maxLen) (b2 : (n + m) * bytes ≤ 140737488355328) (hbase : base ≤ w.heap.size)
    (hK : ∀ v' w', w'.ownsRow base e size v' (n + m) (xs ++ news) → w.grownBy w' v.ownBlock → K (a.put o.dst v') w') :
    if Region.wanted o (yielded ops a.tmps) = true then Oper.wp P o a w K Q else E := by
  have hw : Region.wanted o (yielded ops a.tmps) = true := by simp [Region.wanted, hg]
  rw [if_pos hw]
  cases A with
  | some ad =>
    obtain ⟨v', w', hrun, r1, r2, -⟩ := run_append_own (P := P) w base t o.type e i z size bytes h1 h2 h3 h4 h5 h6 h7 v n xs hown ad m c news hn (hc ad rfl) h1c b1 b2 hbase
    unfold Oper.wp
    simp [execOp, hop, resolve, invoke, builtin, hs, hx, hrun, Result.andThen]
    exact hK v' w' r1 r2
  | none =>
    obtain ⟨rfl, rfl⟩ := hnone rfl
    obtain rfl : news = [] := List.eq_nil_of_length_eq_zero (by simpa using hn)
    have hrun := run_append_owned_none (P := P) (w := w) base t o.type e i size h1 h2 v n xs hown
    unfold Oper.wp
    simp [execOp, hop, resolve, invoke, builtin, hs, hx, hrun, Result.andThen]
    exact hK v w (by simpa using hown) (World.grownBy.refl w _)
end Go.Proofs.Ytfpfafijockfnaa
namespace Go.Proofs.Ytfpfafijockfnaa
open Go.RowKit Go.Shelf

theorem cnt_mono {g g' : Int → Int → Option Int} (hg : ∀ i k m, g i k = some m → ∃ m', g' i k = some m' ∧ m ≤ m') : ∀ (q : List Int) (i : Int) (t : Nat) (M : Int), cntB g i t q = some M → ∃ M', cntB g' i t q = some M' ∧ M ≤ M'
  | [], _, _, M, h => ⟨M, h, Int.le_refl _⟩
  | c :: q, i, t, M, h => by
    rw [cntB] at h ⊢
    cases hs : stepB g i t c with
    | none => rw [hs] at h; simp at h
    | some mt =>
      rw [hs] at h
      have h' : (cntB g (i + 1) mt.2 q).map (mt.1 + ·) = some M := h
      have hs' : ∃ mt', stepB g' i t c = some mt' ∧ mt'.2 = mt.2 ∧ mt.1 ≤ mt'.1 := by
        unfold stepB at hs ⊢
        by_cases hc : c = -1
        · rw [if_pos hc] at hs ⊢
          exact ⟨(0, t), rfl, by cases hs; rfl, by cases hs; exact Int.le_refl _⟩
        · rw [if_neg hc] at hs ⊢
          cases hgc : g i c with
          | none => rw [hgc] at hs; cases hs
          | some m =>
            rw [hgc] at hs
            obtain ⟨m', e1, e2⟩ := hg _ _ _ hgc
            rw [e1]
            dsimp only at hs ⊢
            cases ht : Nat.testBit t c.toNat with
            | true => rw [ht] at hs; simp at hs
            | false =>
              rw [ht] at hs
              simp only [Bool.false_eq_true, if_false, Option.some.injEq] at hs ⊢
              exact ⟨_, rfl, by rw [← hs], by rw [← hs]; exact e2⟩
      obtain ⟨mt', e1, e2, e3⟩ := hs'
      rw [e1]
      show ∃ M', (cntB g' (i + 1) mt'.2 q).map (mt'.1 + ·) = some M' ∧ M ≤ M'
      rw [e2]
      cases hc : cntB g (i + 1) mt.2 q with
      | none => rw [hc] at h'; simp at h'
      | some M1 =>
        rw [hc] at h'
        obtain ⟨M2, f1, f2⟩ := cnt_mono hg q (i + 1) mt.2 M1 hc
        have e : mt.1 + M1 = M := by simpa using h'
        exact ⟨mt'.1 + M2, by rw [f1]; rfl, by omega⟩
theorem cnt_snoc (g : Int → Int → Option Int) : ∀ (q : List Int) (i : Int) (t : Nat), cntB g i t (q ++ [-1]) = cntB g i t q
  | [], i, t => by
    show cntB g i t [-1] = some 0
    rw [cntB]
    simp [stepB, cntB]
  | c :: q, i, t => by
    rw [List.cons_append, cntB, cntB]
    cases stepB g i t c with
    | none => rfl
    | some mt => show (cntB g (i + 1) mt.2 (q ++ [-1])).map _ = _; rw [cnt_snoc g q]
theorem pm_pair0 (g : Int → Int → Option Int) (L U : Nat) : cntB g 0 0 (pairT g L U L 0).1 = some (pairT g L U L 0).2 ∧ ∀ c ∈ (pairT g L U L 0).1, InU U 0 c := by
  have h := cnt_pair g L U L 0
  rwa [Int.sub_self] at h
theorem pm_best (g : Int → Int → Option Int) (L U : Nat) (q : List Int) (m : Int) (h1 : q.length = L) (h2 : ∀ c ∈ q, InU U 0 c) (h3 : cntB g 0 0 q = some m) : m ≤ (pairT g L U L 0).2 := (best_pair g L U L 0 q m h1 h2 (by rw [Int.sub_self]; exact h3)).1
theorem pm_len {g : Int → Int → Option Int} (hg : GOk g) (L U : Nat) : (pairT g L U L 0).1.length = L := (pairT_ok hg L 0).1
theorem pair_mono {g g' : Int → Int → Option Int} (hG : GOk g) (L : Nat) {U U' : Nat} (hU : U ≤ U') (hg : ∀ i k m, g i k = some m → ∃ m', g' i k = some m' ∧ m ≤ m') : (pairT g L U L 0).2 ≤ (pairT g' L U' L 0).2 := by
  obtain ⟨h1, h2⟩ := pm_pair0 g L U
  obtain ⟨M', e1, e2⟩ := cnt_mono hg _ _ _ _ h1
  have h9 := pm_best g' L U' _ M' (pm_len hG L U) (fun c hc => by have := h2 c hc; unfold InU at this ⊢; omega) e1
  omega
theorem pair_longer {g g' : Int → Int → Option Int} (hG : GOk g) (L U : Nat) (hg : ∀ i k m, g i k = some m → ∃ m', g' i k = some m' ∧ m ≤ m') : (pairT g L U L 0).2 ≤ (pairT g' (L + 1) U (L + 1) 0).2 := by
  obtain ⟨h1, h2⟩ := pm_pair0 g L U
  obtain ⟨M', e1, e2⟩ := cnt_mono hg _ _ _ _ h1
  have h9 := pm_best g' (L + 1) U ((pairT g L U L 0).1 ++ [-1]) M' (by rw [List.length_append, pm_len hG L U]; rfl) (fun c hc => by
    rcases List.mem_append.1 hc with h | h
    · exact h2 c h
    · rw [List.mem_singleton.1 h]; exact .inl rfl) (by rw [cnt_snoc]; exact e1)
  omega
/-- Upper slats that are turned. -/
def rotC (U r : Nat) (c : Int) : Int := if c = -1 then -1 else (((c.toNat + r) % U : Nat) : Int)
theorem rot_inj {U r a b : Nat} (ha : a < U) (hb : b < U) (h : (a + r) % U = (b + r) % U) : a = b := by
  have h1 : (a + r % U) % U = (b + r % U) % U := by rw [Nat.add_mod_mod, Nat.add_mod_mod]; exact h
  have hr : r % U < U := Nat.mod_lt _ (by omega)
  generalize r % U = s at *
  have e1 : (a + s) % U = if a + s < U then a + s else a + s - U := by
    split
    · rename_i h; exact Nat.mod_eq_of_lt h
    · rename_i h; rw [Nat.mod_eq_sub_mod (by omega), Nat.mod_eq_of_lt (by omega)]
  have e2 : (b + s) % U = if b + s < U then b + s else b + s - U := by
    split
    · rename_i h; exact Nat.mod_eq_of_lt h
    · rename_i h; rw [Nat.mod_eq_sub_mod (by omega), Nat.mod_eq_of_lt (by omega)]
  rw [e1, e2] at h1
  split at h1 <;> split at h1 <;> omega
theorem cnt_rot {g g' : Int → Int → Option Int} {U r : Nat} (hg : ∀ (i : Int) (k : Nat), k < U → g i k = g' i (((k + r) % U : Nat) : Int)) : ∀ (q : List Int) (i : Int) (t t' : Nat), (∀ c ∈ q, InU U 0 c) → (∀ k, k < U → Nat.testBit t' ((k + r) % U) = Nat.testBit t k) → cntB g' i t' (q.map (rotC U r)) = cntB g i t q
  | [], _, _, _, _, _ => rfl
  | c :: q, i, t, t', hq, ht => by
    have hc := hq c (List.mem_cons_self ..)
    have hq' : ∀ c ∈ q, InU U 0 c := fun x hx => hq x (List.mem_cons_of_mem _ hx)
    rw [List.map_cons, cntB, cntB]
    by_cases h1 : c = -1
    · subst h1
      have e : stepB g' i t' (rotC U r (-1)) = some (0, t') := by simp [rotC, stepB]
      have e2 : stepB g i t (-1) = some (0, t) := by simp [stepB]
      rw [e, e2]
      show (cntB g' (i + 1) t' (q.map (rotC U r))).map _ = (cntB g (i + 1) t q).map _
      rw [cnt_rot hg q (i + 1) t t' hq' ht]
    · obtain ⟨k, rfl⟩ := Int.eq_ofNat_of_zero_le (show 0 ≤ c by unfold InU at hc; omega)
      have hk : k < U := by unfold InU at hc; omega
      have er : rotC U r (k : Int) = (((k + r) % U : Nat) : Int) := by unfold rotC; rw [if_neg h1]; rfl
      rw [er]
      have hn : ((((k + r) % U : Nat) : Int)) ≠ -1 := by omega
      have hgk := hg i k hk
      have htk := ht k hk
      have e1 : stepB g' i t' (((k + r) % U : Nat) : Int) = (match g i k with | some m => if Nat.testBit t k = true then none else some (m, t' ||| 2 ^ ((k + r) % U)) | none => none) := by
        unfold stepB
        rw [if_neg hn, ← hgk, Int.toNat_natCast, htk]
        all_goals (cases g i (k : Int) <;> rfl)
      have e2 : stepB g i t (k : Int) = (match g i k with | some m => if Nat.testBit t k = true then none else some (m, t ||| 2 ^ k) | none => none) := by
        unfold stepB
        rw [if_neg h1, Int.toNat_natCast]
        all_goals (cases g i (k : Int) <;> rfl)
      rw [e1, e2]
      cases g i k with
      | none => rfl
      | some m =>
        dsimp only
        cases hb : Nat.testBit t k with
        | true => simp
        | false =>
          simp only [Bool.false_eq_true, if_false]
          show (cntB g' (i + 1) (t' ||| 2 ^ ((k + r) % U)) (q.map (rotC U r))).map _ = (cntB g (i + 1) (t ||| 2 ^ k) q).map _
          rw [cnt_rot hg q (i + 1) (t ||| 2 ^ k) (t' ||| 2 ^ ((k + r) % U)) hq' fun x hx => ?_]
          rw [Nat.testBit_or, Nat.testBit_or, ht x hx, Nat.testBit_two_pow, Nat.testBit_two_pow]
          congr 1
          by_cases e : k = x
          · subst e; simp
          · have : ¬ (k + r) % U = (x + r) % U := fun h => e (rot_inj hk hx h)
            simp [e, this]
theorem pair_rot {g g' : Int → Int → Option Int} (hG : GOk g) (L : Nat) {U r : Nat} (hU : 0 < U) (hg : ∀ (i : Int) (k : Nat), k < U → g i k = g' i (((k + r) % U : Nat) : Int)) : (pairT g L U L 0).2 ≤ (pairT g' L U L 0).2 := by
  obtain ⟨h1, h2⟩ := pm_pair0 g L U
  have e := cnt_rot hg (pairT g L U L 0).1 0 0 0 h2 (fun k _ => by simp)
  rw [h1] at e
  refine pm_best g' L U _ _ (by rw [List.length_map, pm_len hG L U]) (fun c hc => ?_) e
  obtain ⟨c', hc', rfl⟩ := List.mem_map.1 hc
  unfold rotC
  split
  · exact .inl rfl
  · have := Nat.mod_lt (c'.toNat + r) hU
    exact .inr ⟨by omega, by omega⟩
def rotL (u : List Slat) (r : Nat) : List Slat := (List.range u.length).map fun i => u.getD ((i + r) % u.length) ⟨⟨0, 0⟩, ⟨0, 0⟩, ⟨0, 0⟩, ⟨0, 0⟩⟩
theorem rotL_len (u : List Slat) (r : Nat) : (rotL u r).length = u.length := by simp [rotL]
theorem rotL_get (u : List Slat) (r k : Nat) (hk : k < u.length) : (rotL u r)[k]? = u[(k + r) % u.length]? := by
  have h : (k + r) % u.length < u.length := Nat.mod_lt _ (by omega)
  unfold rotL
  rw [List.getElem?_map, List.getElem?_range hk]
  simp [List.getD_eq_getElem?_getD, h]
theorem pairS_rot (j : Jig) (l u : List Slat) (lim : Int) (r : Nat) (i : Int) (k : Nat) (hk : k < u.length) : pairS j l (rotL u r) lim i k = pairS j l u lim i (((k + r) % u.length : Nat) : Int) := by
  unfold pairS
  simp only [Int.toNat_natCast, rotL_get u r k hk]
  by_cases h : 0 ≤ i
  · rw [if_pos ⟨h, by omega⟩, if_pos ⟨h, by omega⟩]
  · rw [if_neg (fun h9 => h h9.1), if_neg (fun h9 => h h9.1)]
theorem rotL_back (u : List Slat) (r k : Nat) (hk : k < u.length) : (rotL u r)[(k + (u.length - r % u.length)) % u.length]? = u[k]? := by
  have hp : 0 < u.length := by omega
  have hr := Nat.mod_lt r hp
  rw [rotL_get u r _ (Nat.mod_lt _ hp)]
  congr 1
  rw [Nat.mod_add_mod, ← Nat.add_mod_mod]
  have e : k + (u.length - r % u.length) + r % u.length = k + u.length := by omega
  rw [e, Nat.add_mod_right, Nat.mod_eq_of_lt hk]
theorem pairS_back (j : Jig) (l u : List Slat) (lim : Int) (r : Nat) (i : Int) (k : Nat) (hk : k < u.length) : pairS j l u lim i k = pairS j l (rotL u r) lim i (((k + (u.length - r % u.length)) % u.length : Nat) : Int) := by
  unfold pairS
  simp only [Int.toNat_natCast, rotL_back u r k hk]
  by_cases h : 0 ≤ i
  · rw [if_pos ⟨h, by omega⟩, if_pos ⟨h, by omega⟩]
  · rw [if_neg (fun h9 => h h9.1), if_neg (fun h9 => h h9.1)]
theorem pair_turned {j : Jig} {l u : List Slat} {lim : Int} (hj : JigIn j) (r : Nat) : (pairT (pairS j l (rotL u r) lim) l.length u.length l.length 0).2 = (pairT (pairS j l u lim) l.length u.length l.length 0).2 := by
  by_cases hU : u.length = 0
  · have : rotL u r = u := by
      rw [List.eq_nil_of_length_eq_zero hU]; rfl
    rw [this]
  · have h1 := pair_rot (pairS_ok hj) l.length (by omega) (fun i k hk => pairS_rot j l u lim r i k hk)
    have h2 := pair_rot (pairS_ok hj) l.length (by omega) (fun i k hk => pairS_back j l u lim r i k hk)
    omega
theorem pairS_upper (j : Jig) (l u : List Slat) (b : Slat) (lim : Int) : ∀ i k m, pairS j l u lim i k = some m → ∃ m', pairS j l (u ++ [b]) lim i k = some m' ∧ m ≤ m' := fun i k m h => by
  have hl := pairS_low (show pairS j l u lim i k ≠ none by rw [h]; simp)
  refine ⟨m, ?_, Int.le_refl _⟩
  rw [← h]
  unfold pairS
  rw [List.getElem?_append_left (by omega)]
theorem pairS_lower (j : Jig) (l u : List Slat) (a : Slat) (lim : Int) : ∀ i k m, pairS j l u lim i k = some m → ∃ m', pairS j (l ++ [a]) u lim i k = some m' ∧ m ≤ m' := fun i k m h => by
  have hl := pairS_low (show pairS j l u lim i k ≠ none by rw [h]; simp)
  refine ⟨m, ?_, Int.le_refl _⟩
  rw [← h]
  unfold pairS
  rw [List.getElem?_append_left (by omega)]
theorem leadIn_lim {l : Lead} {x y : Int} (h0 : 0 ≤ x) (h : x ≤ y) (hl : leadIn l x = true) : leadIn l y = true := by
  unfold leadIn at *
  rw [decide_eq_true_eq] at *
  have h1 : x * x ≤ y * y := Int.mul_le_mul h h h0 (by omega)
  have h2 : 4 * x * x = 4 * (x * x) := Int.mul_assoc ..
  have h3 : 4 * y * y = 4 * (y * y) := Int.mul_assoc ..
  omega
theorem pairS_limit (j : Jig) (l u : List Slat) {x y : Int} (h0 : 0 ≤ x) (hxy : x ≤ y) : ∀ i k m, pairS j l u x i k = some m → ∃ m', pairS j l u y i k = some m' ∧ m ≤ m' := fun i k m h => by
  unfold pairS at h ⊢
  split at h
  · rename_i h1
    rw [if_pos h1]
    split at h
    · rename_i a b e1 e2
      split at h
      · rename_i h2
        rw [if_pos h2]
        refine ⟨_, rfl, ?_⟩
        have h3 := Option.some.inj h
        have h4 : (leadsOf j a b).countP (leadIn · x) ≤ (leadsOf j a b).countP (leadIn · y) := List.countP_mono_left fun z _ hz => leadIn_lim h0 hxy hz
        omega
      · cases h
    · cases h
  · cases h
end Go.Proofs.Ytfpfafijockfnaa
namespace Go.Proofs.Ytfpfafijockfnaa
open Go.RowKit Go.Shelf

/-- A slat, and a jig, some of whose spans are narrower. -/
def thinS (a : Slat) (n m : Int) : Slat := { a with thick := ⟨a.thick.lo, max a.thick.lo (a.thick.hi - n)⟩, shift := ⟨min a.shift.hi (a.shift.lo + m), a.shift.hi⟩ }
def tightJ (j : Jig) (n m : Int) : Jig := { j with glue := ⟨min j.glue.hi (j.glue.lo + n), j.glue.hi⟩, side := ⟨j.side.lo, max j.side.lo (j.side.hi - m)⟩ }
theorem max_nar {a b n : Int} (h : a ≤ b) (hn : 0 ≤ n) : a ≤ max a (b - n) ∧ max a (b - n) ≤ b := by rw [Int.max_def]; split <;> omega
theorem min_nar {a b n : Int} (h : a ≤ b) (hn : 0 ≤ n) : a ≤ min b (a + n) ∧ min b (a + n) ≤ b := by rw [Int.min_def]; split <;> omega
theorem thin_ok {a : Slat} {n m : Int} (ha : slatOk a = true) (hn : 0 ≤ n) (hm : 0 ≤ m) : slatOk (thinS a n m) = true := by
  have hi := slatIn_of ha
  have h1 := max_nar hi.t1 hn
  have h2 := min_nar hi.s1 hm
  unfold slatOk at *
  simp only [Bool.and_eq_true] at ha ⊢
  obtain ⟨⟨⟨k1, k2⟩, k3⟩, k4⟩ := ha
  have k1' := withinB_iff.1 k1
  have k3' := withinB_iff.1 k3
  exact ⟨⟨⟨withinB_iff.2 ⟨k1'.1, h1.1, Int.le_trans h1.2 k1'.2.2⟩, k2⟩, withinB_iff.2 ⟨Int.le_trans k3'.1 h2.1, h2.2, k3'.2.2⟩⟩, k4⟩
theorem tight_ok {j : Jig} {n m : Int} (hj : jigOk j = true) (hn : 0 ≤ n) (hm : 0 ≤ m) : jigOk (tightJ j n m) = true := by
  have hi := jigIn_of hj
  have h1 := min_nar hi.g1 hn
  have h2 := max_nar hi.s1 hm
  unfold jigOk at *
  simp only [Bool.and_eq_true] at hj ⊢
  obtain ⟨⟨⟨⟨⟨k1, k2⟩, k3⟩, k4⟩, k5⟩, k6⟩ := hj
  refine ⟨⟨⟨⟨⟨?_, k2⟩, ?_⟩, k4⟩, k5⟩, k6⟩
  · have k1' := withinB_iff.1 k1
    exact withinB_iff.2 ⟨Int.le_trans k1'.1 h1.1, h1.2, k1'.2.2⟩
  · have k3' := withinB_iff.1 k3
    exact withinB_iff.2 ⟨k3'.1, h2.1, Int.le_trans h2.2 k3'.2.2⟩
section
variable {j : Jig} {a b : Slat} {n m p q : Int}
/-- What is narrower in what a lead lies off by. -/
theorem nar_side (hj : JigIn j) (ha : SlatIn a) (_hn : 0 ≤ n) (hm : 0 ≤ m) (_hp : 0 ≤ p) (hq : 0 ≤ q) (i : Int) : (sideS j a b i).lo ≤ (sideS (tightJ j p q) (thinS a n m) b i).lo ∧ (sideS (tightJ j p q) (thinS a n m) b i).hi ≤ (sideS j a b i).hi := by
  have h1 := min_nar ha.s1 hm
  have h2 := max_nar hj.s1 hq
  unfold sideS placeS tightJ thinS
  dsimp only
  omega
theorem nar_high (hj : JigIn j) (ha : SlatIn a) (hn : 0 ≤ n) (_hm : 0 ≤ m) (hp : 0 ≤ p) (_hq : 0 ≤ q) : (heightS j a b).lo ≤ (heightS (tightJ j p q) (thinS a n m) b).lo ∧ (heightS (tightJ j p q) (thinS a n m) b).hi ≤ (heightS j a b).hi := by
  have h1 := max_nar ha.t1 hn
  have h2 := min_nar hj.g1 hp
  unfold heightS tightJ thinS
  dsimp only
  omega
theorem side_swap (i : Int) : sideS j b a i = sideS j a b i := by
  unfold sideS placeS
  simp only [Span.mk.injEq]
  omega
theorem insideM_iff {r b : Span} : insideB r b = true ↔ b.lo ≤ r.lo ∧ r.hi ≤ b.hi := by
  unfold insideB
  rw [Bool.and_eq_true, decide_eq_true_eq, decide_eq_true_eq]
theorem meetsM_iff {r b : Span} : meetsB r b = true ↔ (r.lo ≤ r.hi ∧ r.lo ≤ b.hi) ∧ b.lo ≤ r.hi ∧ b.lo ≤ b.hi := by
  unfold meetsB cutS
  rw [decide_eq_true_eq]
  dsimp only
  rw [Int.max_def, Int.min_def]
  split <;> split <;> omega
theorem nar_room (hj : JigIn j) (hp : 0 ≤ p) : (roomS j a b).lo ≤ (roomS (tightJ j p q) (thinS a n m) b).lo ∧ (roomS (tightJ j p q) (thinS a n m) b).hi = (roomS j a b).hi := by
  have h2 := min_nar hj.g1 hp
  unfold roomS tightJ thinS
  dsimp only
  omega
theorem nar_first (ha : SlatIn a) (hm : 0 ≤ m) : (firstS a b).lo ≤ (firstS (thinS a n m) b).lo ∧ (firstS (thinS a n m) b).hi = (firstS a b).hi := by
  have h1 := min_nar ha.s1 hm
  unfold firstS thinS
  dsimp only
  omega
theorem nar_last (ha : SlatIn a) (hm : 0 ≤ m) : (lastS j a b).lo ≤ (lastS (tightJ j p q) (thinS a n m) b).lo ∧ (lastS (tightJ j p q) (thinS a n m) b).hi ≤ (lastS j a b).hi := by
  have h1 := nar_first (b := b) (n := n) ha hm
  have e1 : stepS (thinS a n m) b = stepS a b := rfl
  have e2 : (tightJ j p q).grooves = j.grooves := rfl
  have e3 : playS (tightJ j p q) = playS j := rfl
  unfold lastS cutS
  rw [e1, e2, e3]
  dsimp only
  generalize (j.grooves - 1) * (stepS a b).lo = x
  generalize (j.grooves - 1) * (stepS a b).hi = y
  rw [Int.max_def, Int.max_def, Int.min_def, Int.min_def]
  split <;> split <;> split <;> split <;> omega
theorem nar_always (hj : JigIn j) (ha : SlatIn a) (hm : 0 ≤ m) (hp : 0 ≤ p) (h : alwaysB j a b = true) : alwaysB (tightJ j p q) (thinS a n m) b = true := by
  unfold alwaysB at *
  rw [Bool.and_eq_true, Bool.and_eq_true, insideM_iff, insideM_iff, insideM_iff] at *
  have h1 := nar_room (a := a) (b := b) (q := q) (n := n) (m := m) hj hp
  have h2 := nar_first (b := b) (n := n) ha hm
  have h3 := nar_last (j := j) (b := b) (n := n) (p := p) (q := q) ha hm
  have e3 : playS (tightJ j p q) = playS j := rfl
  rw [e3]
  omega
theorem nar_perhaps (hj : JigIn j) (ha : SlatIn a) (hm : 0 ≤ m) (hp : 0 ≤ p) (h : perhapsB (tightJ j p q) (thinS a n m) b = true) : perhapsB j a b = true := by
  unfold perhapsB at *
  rw [Bool.and_eq_true, Bool.and_eq_true, meetsM_iff, meetsM_iff, meetsM_iff] at *
  have h1 := nar_room (a := a) (b := b) (q := q) (n := n) (m := m) hj hp
  have h2 := nar_first (b := b) (n := n) ha hm
  have h3 := nar_last (j := j) (b := b) (n := n) (p := p) (q := q) ha hm
  have e3 : playS (tightJ j p q) = playS j := rfl
  rw [e3] at h
  omega
theorem always_perhapsM {j : Jig} {a b : Slat} (hj : JigIn j) (ha : SlatIn a) (hb : SlatIn b) (h : alwaysB j a b = true) : perhapsB j a b = true := by
  unfold alwaysB at h
  unfold perhapsB
  rw [Bool.and_eq_true, Bool.and_eq_true, insideM_iff, insideM_iff, insideM_iff] at h
  rw [Bool.and_eq_true, Bool.and_eq_true, meetsM_iff, meetsM_iff, meetsM_iff]
  have r1 : (roomS j a b).lo ≤ (roomS j a b).hi := by
    have := hj.g1; have := hj.l1; have := ha.d1; have := hb.d1
    unfold roomS; dsimp only; omega
  have r2 : (firstS a b).lo ≤ (firstS a b).hi := by
    have := ha.s1; have := hb.s1
    unfold firstS; dsimp only; omega
  have r3 : (lastS j a b).lo ≤ (lastS j a b).hi := by
    have hs : (stepS a b).lo ≤ (stepS a b).hi := by
      have := ha.p1; have := hb.p1
      unfold stepS; dsimp only; omega
    have hm := Int.mul_le_mul_of_nonneg_left hs (show 0 ≤ j.grooves - 1 by have := hj.n0; omega)
    have h2 := h.2.1
    unfold lastS cutS
    dsimp only
    generalize (j.grooves - 1) * (stepS a b).lo = x at hm ⊢
    generalize (j.grooves - 1) * (stepS a b).hi = y at hm ⊢
    rw [Int.max_def, Int.min_def]
    split <;> split <;> omega
  have q1 : (playS j).lo ≤ (playS j).hi := by
    have := hj.p0
    unfold playS; dsimp only; omega
  have q2 : roomB.lo ≤ roomB.hi := by unfold roomB; dsimp only; omega
  omega
theorem grade_geM (l : Lead) : ∀ (xs : List Int) (i : Int), 0 ≤ i → gradeFrom l xs i ≠ -1 → i ≤ gradeFrom l xs i
  | [], i, _, h => absurd rfl h
  | x :: xs, i, hi, h => by
    unfold gradeFrom at h ⊢
    cases h1 : leadIn l x with
    | true => rw [if_pos rfl]; exact Int.le_refl _
    | false =>
      rw [h1] at h
      simp only [Bool.false_eq_true, if_false] at h ⊢
      have := grade_geM l xs (i + 1) (by omega) h
      omega
theorem gra_atM {j : Jig} {a b : Slat} {x : List Int} {k : Nat} (h : k < (gradesOf j a b x).length) : (gradesOf j a b x)[k] = gradeOf (leadOf j a b (k : Int)) x := by
  simp [gradesOf, leadsOf]
theorem nar_closes (hj' : JigIn (tightJ j p q)) (ha' : SlatIn (thinS a n m)) (hb : SlatIn b) (hj : JigIn j) (ha : SlatIn a) (hm : 0 ≤ m) (hp : 0 ≤ p) : (closesN j a b = 2 → closesN (tightJ j p q) (thinS a n m) b = 2) ∧ (closesN j a b = 0 → closesN (tightJ j p q) (thinS a n m) b = 0) := by
  unfold closesN
  constructor
  · intro h
    have h1 : alwaysB j a b = true := by
      cases h9 : alwaysB j a b with
      | true => rfl
      | false => rw [h9] at h; simp only [Bool.false_eq_true, if_false] at h; split at h <;> omega
    rw [if_pos (nar_always hj ha hm hp h1)]
  · intro h
    have h1 : alwaysB j a b = false ∧ perhapsB j a b = false := by
      cases h9 : alwaysB j a b with
      | true => rw [h9] at h; simp at h
      | false =>
        rw [h9] at h
        simp only [Bool.false_eq_true, if_false] at h
        cases h8 : perhapsB j a b with
        | true => rw [h8] at h; simp at h
        | false => exact ⟨rfl, rfl⟩
    have h2 : perhapsB (tightJ j p q) (thinS a n m) b = false := by
      cases h9 : perhapsB (tightJ j p q) (thinS a n m) b with
      | false => rfl
      | true => have := nar_perhaps hj ha hm hp h9; rw [h1.2] at this; cases this
    have h3 : alwaysB (tightJ j p q) (thinS a n m) b = false := by
      cases h9 : alwaysB (tightJ j p q) (thinS a n m) b with
      | false => rfl
      | true =>
        have h8 := always_perhapsM hj' ha' hb h9
        rw [h2] at h8; cases h8
    rw [h3, h2]
    rfl
theorem amt_nar {r s : Span} (h1 : s.lo ≤ r.lo) (h2 : r.hi ≤ s.hi) (h3 : r.lo ≤ r.hi) : 0 ≤ amountS r ∧ amountS r ≤ amountS s := by
  unfold amountS
  rw [Int.max_def, Int.max_def]
  split <;> split <;> omega
theorem lead_nar {l l' : Lead} {x : Int} (h1 : l.side.lo ≤ l'.side.lo ∧ l'.side.hi ≤ l.side.hi) (h2 : l.height.lo ≤ l'.height.lo ∧ l'.height.hi ≤ l.height.hi) (h3 : l'.side.lo ≤ l'.side.hi) (h4 : l'.height.lo ≤ l'.height.hi) (h : leadIn l x = true) : leadIn l' x = true := by
  unfold leadIn at *
  rw [decide_eq_true_eq] at *
  obtain ⟨a1, a2⟩ := amt_nar h1.1 h1.2 h3
  obtain ⟨b1, b2⟩ := amt_nar h2.1 h2.2 h4
  have c1 := Int.mul_le_mul a2 a2 a1 (by omega)
  have c2 := Int.mul_le_mul b2 b2 b1 (by omega)
  omega
theorem grade_nar {l l' : Lead} (hl : ∀ x, leadIn l x = true → leadIn l' x = true) : ∀ (xs : List Int) (i : Int), 0 ≤ i → gradeFrom l xs i ≠ -1 → gradeFrom l' xs i ≠ -1 ∧ gradeFrom l' xs i ≤ gradeFrom l xs i
  | [], i, _, h => absurd rfl h
  | x :: xs, i, hi, h => by
    unfold gradeFrom at h ⊢
    cases h1 : leadIn l x with
    | true =>
      rw [if_pos (hl x h1), if_pos rfl]
      exact ⟨by omega, Int.le_refl _⟩
    | false =>
      rw [h1] at h
      simp only [Bool.false_eq_true, if_false] at h ⊢
      obtain ⟨h2, h3⟩ := grade_nar hl xs (i + 1) (by omega) h
      cases h4 : leadIn l' x with
      | true =>
        rw [if_pos rfl]
        have h5 := grade_geM l xs (i + 1) (by omega) h
        exact ⟨by omega, by omega⟩
      | false =>
        simp only [Bool.false_eq_true, if_false]
        exact ⟨h2, h3⟩
end
/-- Grades are no worse. -/
theorem nar_grades {j : Jig} {a b : Slat} {x : List Int} {n m p q : Int} (hjo : jigOk j = true) (hao : slatOk a = true) (hbo : slatOk b = true) (hn : 0 ≤ n) (hm : 0 ≤ m) (hp : 0 ≤ p) (hq : 0 ≤ q) (h : graE j a b x = 0) :
    graE (tightJ j p q) (thinS a n m) b x = 0 ∧ (graL (tightJ j p q) (thinS a n m) b x).length = (graL j a b x).length ∧ (graL j a b x).length ≤ 10 ∧ ∀ (k : Nat) (u v : Int), (graL j a b x)[k]? = some u → (graL (tightJ j p q) (thinS a n m) b x)[k]? = some v → u ≠ -1 → v ≠ -1 ∧ v ≤ u := by
  have hj := jigIn_of hjo
  have ha := slatIn_of hao
  have hb := slatIn_of hbo
  have ho1 := tight_ok hjo hp hq
  have ho2 := thin_ok hao hn hm
  have hj' := jigIn_of ho1
  have ha' := slatIn_of ho2
  have h0 : graE0 j a b x = 0 ∧ alwaysB j a b = true := by
    unfold graE at h
    split at h
    · rename_i h1
      split at h
      · rename_i h2; exact ⟨h1, h2⟩
      · cases h
    · rename_i h1; exact absurd h h1
  have h1 : graE0 (tightJ j p q) (thinS a n m) b x = 0 := by
    have h9 := h0.1
    unfold graE0 slErr at h9 ⊢
    simp only [List.all_cons, List.all_nil, Bool.and_true, hjo, hao, hbo, ho1, ho2] at h9 ⊢
    exact h9
  have h2 := nar_always (n := n) (q := q) hj ha hm hp h0.2
  have e1 : graL j a b x = gradesOf j a b x := by unfold graL; rw [if_pos h0]
  have e2 : graL (tightJ j p q) (thinS a n m) b x = gradesOf (tightJ j p q) (thinS a n m) b x := by unfold graL; rw [if_pos ⟨h1, h2⟩]
  refine ⟨by unfold graE; rw [if_pos h1, h2]; rfl, ?_, ?_, ?_⟩
  · rw [e1, e2, grades_len, grades_len, leads_len, leads_len]; rfl
  · rw [e1, grades_len, leads_len]
    have := hj.n1
    omega
  · intro k u v hu hv hne
    rw [e1] at hu
    rw [e2] at hv
    obtain ⟨hk, eu⟩ := List.getElem?_eq_some_iff.1 hu
    obtain ⟨hk', ev⟩ := List.getElem?_eq_some_iff.1 hv
    rw [gra_atM hk] at eu
    rw [gra_atM hk'] at ev
    rw [grades_len, leads_len] at hk
    have hk9 : (k : Int) ≤ 9 := by have := hj.n1; omega
    subst eu; subst ev
    refine grade_nar (fun y hy => lead_nar (nar_side hj ha hn hm hp hq k) (nar_high hj ha hn hm hp hq) ?_ ?_ hy) x 0 (Int.le_refl _) hne
    · exact (lead_bd hj' ha' hb (i := (k : Int)) (by omega) hk9).1.2
    · exact (lead_bd hj' ha' hb (i := (k : Int)) (by omega) hk9).2.2
/-! ### The pairings of the law -/
theorem all_snoc_ok {l : List Slat} {a : Slat} (h : l.all slatOk = true) (ha : slatOk a = true) : (l ++ [a]).all slatOk = true := by
  rw [List.all_append, h]; simp [ha]
theorem err_parts {j : Jig} {l u : List Slat} {lim : Int} (h1 : jigOk j = true) (h2 : l.all slatOk = true) (h3 : u.all slatOk = true) (h4 : l.length ≤ 7) (h5 : u.length ≤ 7) (h6 : limsOk [lim] = true) : pairE j l u lim = 0 := by
  unfold pairE slErr
  rw [if_neg (by rw [h1, h2, h3]; simp), if_neg (by simp only [List.length_cons, List.length_nil]; omega), if_neg (by rw [h6]; simp)]
theorem lims_one {lim : Int} (h : 0 ≤ lim ∧ lim ≤ 1000) : limsOk [lim] = true := by
  unfold limsOk limAt
  simp only [List.length_cons, List.length_nil, Nat.zero_add, List.range_one, List.all_cons, List.all_nil, Bool.and_true]
  simp [fromB_iff.2 h]
theorem pairR_ok {j : Jig} {l u : List Slat} {lim : Int} (h : pairE j l u lim = 0) : (pairR j l u lim).2 = 0 ∧ (pairR j l u lim).1.2 = (pairT (pairS j l u lim) l.length u.length l.length 0).2 := by
  unfold pairR
  rw [if_pos h]
  exact ⟨rfl, rfl⟩
theorem rotL_all {u : List Slat} (r : Nat) (h : u.all slatOk = true) : (rotL u r).all slatOk = true := by
  rw [List.all_eq_true] at h ⊢
  intro s hs
  obtain ⟨k, hk, rfl⟩ := List.mem_iff_getElem.1 hs
  rw [rotL_len] at hk
  have e := rotL_get u r k hk
  have hm : (k + r) % u.length < u.length := Nat.mod_lt _ (by omega)
  rw [List.getElem?_eq_getElem (by rw [rotL_len]; exact hk), List.getElem?_eq_getElem hm] at e
  rw [Option.some.inj e]
  exact h _ (List.getElem_mem hm)
/-- What the law asks of its four other pairings. -/
theorem more_pairs {j : Jig} {l u : List Slat} {a b : Slat} {lim y : Int} (h : pairE j l u lim = 0) (ha : slatOk a = true) (hb : slatOk b = true) (hl : l.length < 7) (hu : u.length < 7) (hy : 0 ≤ y) (r : Nat) :
    ((pairR j (l ++ [a]) u lim).2 = 0 ∧ (pairR j l u lim).1.2 ≤ (pairR j (l ++ [a]) u lim).1.2) ∧ ((pairR j l (u ++ [b]) lim).2 = 0 ∧ (pairR j l u lim).1.2 ≤ (pairR j l (u ++ [b]) lim).1.2) ∧
    ((pairR j l u (min 1000 (lim + y))).2 = 0 ∧ (pairR j l u lim).1.2 ≤ (pairR j l u (min 1000 (lim + y))).1.2) ∧ (pairR j l (rotL u r) lim).2 = 0 ∧ (pairR j l (rotL u r) lim).1.2 = (pairR j l u lim).1.2 := by
  obtain ⟨k1, ⟨k2, k3⟩, -, k5, -⟩ := slErr_0 h
  have k6 := lims_in k5 lim (by simp)
  have hG : GOk (pairS j l u lim) := pairS_ok (jigIn_of k1)
  have hl1 : (l ++ [a]).length = l.length + 1 := by simp
  have hu1 : (u ++ [b]).length = u.length + 1 := by simp
  have hm : lim ≤ min 1000 (lim + y) ∧ min 1000 (lim + y) ≤ 1000 := by rw [Int.min_def]; split <;> omega
  have e0 := pairR_ok h
  have e1 := pairR_ok (err_parts k1 (all_snoc_ok k2 ha) k3 (by omega) (by omega) k5 : pairE j (l ++ [a]) u lim = 0)
  have e2 := pairR_ok (err_parts k1 k2 (all_snoc_ok k3 hb) (by omega) (by omega) k5 : pairE j l (u ++ [b]) lim = 0)
  have e3 := pairR_ok (err_parts k1 k2 k3 (by omega) (by omega) (lims_one ⟨by omega, hm.2⟩) : pairE j l u (min 1000 (lim + y)) = 0)
  have e4 := pairR_ok (err_parts k1 k2 (rotL_all r k3) (by omega) (by rw [rotL_len]; omega) k5 : pairE j l (rotL u r) lim = 0)
  rw [e0.2, e1.2, e2.2, e3.2, e4.2, hl1, hu1, rotL_len]
  exact ⟨⟨e1.1, pair_longer hG l.length u.length (pairS_lower j l u a lim)⟩, ⟨e2.1, pair_mono hG l.length (by omega) (pairS_upper j l u b lim)⟩, ⟨e3.1, pair_mono hG l.length (Nat.le_refl _) (pairS_limit j l u k6.1 hm.1)⟩, e4.1, pair_turned (jigIn_of k1) r⟩
end Go.Proofs.Ytfpfafijockfnaa
