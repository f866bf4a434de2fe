/- Walks: whether a jig, slats and limits are valid; the first error. -/
import Derived.Test.YtfpfafijockfnaaSk
import Derived.Test.YtfpfafijockfnaaLf
namespace Go.Proofs.Ytfpfafijockfnaa
open Go.RowKit Go.Shelf

set_option maxRecDepth 100000 in
set_option maxHeartbeats 2000000 in
theorem validJig_any (j : Jig) (w : World) : Calls Try.prog 61 #[.agg #[.int .i64 j.glue.lo, .int .i64 j.glue.hi, .int .i64 j.lead.lo, .int .i64 j.lead.hi, .int .i64 j.side.lo, .int .i64 j.side.hi, .int .i64 j.height.lo, .int .i64 j.height.hi, .int .i64 j.play, .int .i64 j.grooves]] w (Ret (.bool (jigOk j)) w) := by
  have HB := Lib.hid (show Below w.heap.size w (w.alloc (.cells #[.int .i64 j.glue.lo, .int .i64 j.glue.hi, .int .i64 j.lead.lo, .int .i64 j.lead.hi, .int .i64 j.side.lo, .int .i64 j.side.hi, .int .i64 j.height.lo, .int .i64 j.height.hi, .int .i64 j.play, .int .i64 j.grooves] 25)) from (Below.refl _ _).alloc (Nat.le_refl _) _)
  have HK := Lib.hid (Blk.new w 25 #[.int .i64 j.glue.lo, .int .i64 j.glue.hi, .int .i64 j.lead.lo, .int .i64 j.lead.hi, .int .i64 j.side.lo, .int .i64 j.side.hi, .int .i64 j.height.lo, .int .i64 j.height.hi, .int .i64 j.play, .int .i64 j.grooves])
  have HD : Hid (jigOk j = (withinB ⟨j.glue.lo, j.glue.hi⟩ 0 500 && withinB ⟨j.lead.lo, j.lead.hi⟩ 1 5000 && withinB ⟨j.side.lo, j.side.hi⟩ (-500) 500 && withinB ⟨j.height.lo, j.height.hi⟩ (-500) 500 && fromB j.play 0 500 && fromB j.grooves 1 10)) := Lib.hid rfl
  go_enter Try.func61, Try.ntmps61
  go_wp2_with fail
  generalize World.alloc w _ = V at HB HK ⊢
  refine (within_any _ _ _ _ _).mono ?_
  rintro e W1 ⟨he, hb1⟩
  replace HK := Lib.hid (HK.out.below hb1 HK.out.lt)
  replace HB := Lib.hid (HB.out.trans (hb1.mono HB.out.size))
  clear hb1
  obtain ⟨z1, hz1⟩ : ∃ z, withinB ⟨j.glue.lo, j.glue.hi⟩ 0 500 = z := ⟨_, rfl⟩
  rw [hz1] at he
  have H0 := Lib.hid hz1
  clear hz1
  subst he
  cases z1 with
  | false =>
    go_wp2_with fail
    go_ret
    exact ⟨ret_bool (Eq.symm (by rw [HD.out, H0.out]; simp)), HB.out⟩
  | true =>
    skip
    have x2 := HK.out.cell 2
    have x3 := HK.out.cell 3
    go_wp2_with fail
    clear x2 x3
    refine (within_any _ _ _ _ _).mono ?_
    rintro e W1 ⟨he, hb1⟩
    replace HK := Lib.hid (HK.out.below hb1 HK.out.lt)
    replace HB := Lib.hid (HB.out.trans (hb1.mono HB.out.size))
    clear hb1
    obtain ⟨z1, hz1⟩ : ∃ z, withinB ⟨j.lead.lo, j.lead.hi⟩ 1 5000 = z := ⟨_, rfl⟩
    rw [hz1] at he
    have H1 := Lib.hid hz1
    clear hz1
    subst he
    cases z1 with
    | false =>
      go_wp2_with fail
      go_ret
      exact ⟨ret_bool (Eq.symm (by rw [HD.out, H0.out, H1.out]; simp)), HB.out⟩
    | true =>
      skip
      have x4 := HK.out.cell 4
      have x5 := HK.out.cell 5
      go_wp2_with fail
      clear x4 x5
      refine (within_any _ _ _ _ _).mono ?_
      rintro e W1 ⟨he, hb1⟩
      replace HK := Lib.hid (HK.out.below hb1 HK.out.lt)
      replace HB := Lib.hid (HB.out.trans (hb1.mono HB.out.size))
      clear hb1
      obtain ⟨z1, hz1⟩ : ∃ z, withinB ⟨j.side.lo, j.side.hi⟩ (-500) 500 = z := ⟨_, rfl⟩
      rw [hz1] at he
      have H2 := Lib.hid hz1
      clear hz1
      subst he
      cases z1 with
      | false =>
        go_wp2_with fail
        go_ret
        exact ⟨ret_bool (Eq.symm (by rw [HD.out, H0.out, H1.out, H2.out]; simp)), HB.out⟩
      | true =>
        skip
        have x6 := HK.out.cell 6
        have x7 := HK.out.cell 7
        go_wp2_with fail
        clear x6 x7
        refine (within_any _ _ _ _ _).mono ?_
        rintro e W1 ⟨he, hb1⟩
        replace HK := Lib.hid (HK.out.below hb1 HK.out.lt)
        replace HB := Lib.hid (HB.out.trans (hb1.mono HB.out.size))
        clear hb1
        obtain ⟨z1, hz1⟩ : ∃ z, withinB ⟨j.height.lo, j.height.hi⟩ (-500) 500 = z := ⟨_, rfl⟩
        rw [hz1] at he
        have H3 := Lib.hid hz1
        clear hz1
        subst he
        cases z1 with
        | false =>
          go_wp2_with fail
          go_ret
          exact ⟨ret_bool (Eq.symm (by rw [HD.out, H0.out, H1.out, H2.out, H3.out]; simp)), HB.out⟩
        | true =>
          skip
          have x8 := HK.out.cell 8
          go_wp2_with fail
          clear x8
          refine (isFrom_any _ _ _ _).mono ?_
          rintro e W1 ⟨he, rfl⟩
          skip
          obtain ⟨z1, hz1⟩ : ∃ z, fromB j.play 0 500 = z := ⟨_, rfl⟩
          rw [hz1] at he
          have H4 := Lib.hid hz1
          clear hz1
          subst he
          cases z1 with
          | false =>
            go_wp2_with fail
            go_ret
            exact ⟨ret_bool (Eq.symm (by rw [HD.out, H0.out, H1.out, H2.out, H3.out, H4.out]; simp)), HB.out⟩
          | true =>
            skip
            have x9 := HK.out.cell 9
            go_wp2_with fail
            clear x9
            refine (isFrom_any _ _ _ _).mono ?_
            rintro e W1 ⟨rfl, rfl⟩
            go_wp2_with fail
            go_ret
            exact ⟨ret_bool (by rw [HD.out, H0.out, H1.out, H2.out, H3.out, H4.out]; simp), HB.out⟩

/-- A slice of slats in memory. -/
def SlatsAt (w : World) (b off : Nat) (l : List Slat) : Prop := ∀ i (h : i < l.length), w.cell? ⟨b, off + i * 8, none⟩ = some (.int .i64 l[i].thick.lo) ∧ w.cell? ⟨b, off + i * 8 + 1, none⟩ = some (.int .i64 l[i].thick.hi) ∧ w.cell? ⟨b, off + i * 8 + 2, none⟩ = some (.int .i64 l[i].depth.lo) ∧ w.cell? ⟨b, off + i * 8 + 3, none⟩ = some (.int .i64 l[i].depth.hi) ∧ w.cell? ⟨b, off + i * 8 + 4, none⟩ = some (.int .i64 l[i].shift.lo) ∧ w.cell? ⟨b, off + i * 8 + 5, none⟩ = some (.int .i64 l[i].shift.hi) ∧ w.cell? ⟨b, off + i * 8 + 6, none⟩ = some (.int .i64 l[i].pitch.lo) ∧ w.cell? ⟨b, off + i * 8 + 7, none⟩ = some (.int .i64 l[i].pitch.hi)
def SlatSl (w : World) (B : Nat) (A : Option Addr) (l : List Slat) : Prop := l ≠ [] → ∃ b off, A = some ⟨b, off, none⟩ ∧ b < B ∧ SlatsAt w b off l
theorem SlatsAt.below {w w' : World} {b off B : Nat} {l : List Slat} (h : SlatsAt w b off l) (hb : Below B w w') (hlt : b < B) : SlatsAt w' b off l := fun i hi => by
  obtain ⟨h0, h1, h2, h3, h4, h5, h6, h7⟩ := h i hi
  have q : ∀ o, w'.cell? ⟨b, o, none⟩ = w.cell? ⟨b, o, none⟩ := fun o => hb.cell (p := ⟨b, o, none⟩) hlt
  exact ⟨(q _).trans h0, (q _).trans h1, (q _).trans h2, (q _).trans h3, (q _).trans h4, (q _).trans h5, (q _).trans h6, (q _).trans h7⟩
theorem SlatSl.below {w w' : World} {B : Nat} {A : Option Addr} {l : List Slat} (h : SlatSl w B A l) (hb : Below B w w') : SlatSl w' B A l := fun hne => by
  obtain ⟨b, off, e, hlt, hs⟩ := h hne
  exact ⟨b, off, e, hlt, hs.below hb hlt⟩
theorem SlatSl.more {w : World} {B B' : Nat} {A : Option Addr} {l : List Slat} (h : SlatSl w B A l) (hB : B ≤ B') : SlatSl w B' A l := fun hne => by
  obtain ⟨b, off, e, hlt, hs⟩ := h hne
  exact ⟨b, off, e, by omega, hs⟩
theorem SlatSl.on {w w' : World} {B : Nat} {A : Option Addr} {l : List Slat} (h : SlatSl w B A l) (hb : Below w.heap.size w w') (hB : B ≤ w.heap.size) : SlatSl w' w'.heap.size A l := (h.below (hb.mono hB)).more (Nat.le_trans hB hb.size)
set_option maxRecDepth 100000 in
set_option maxHeartbeats 2000000 in
theorem validSlats_any (w : World) (A : Option Addr) (c : Nat) (l : List Slat) (hl : l.length ≤ 9223372036854775807) (hA : SlatSl w w.heap.size A l) :
    Calls Try.prog 62 #[.slice A l.length c] w (Ret (.bool (l.all slatOk)) w) := by
  have HS := Lib.hid hA
  clear hA
  have hl' : (l.length : Int) ≤ 9223372036854775807 := by omega
  have hl0 : (0 : Int) ≤ l.length := by omega
  go_enter Try.func62, Try.ntmps62
  go_wp2_with fail
  go_loopw [7] (fun i wr => ∃ k : Nat, k ≤ l.length ∧ i = .int .i64 k ∧ Hid ((l.take k).all slatOk = true) ∧ Hid (Below w.heap.size w wr)) (fun i _ => l.length - (intOf i).toNat)
  case atStart => exact ⟨0, by omega, rfl, Lib.hid (by simp), Lib.hid (Below.refl _ _)⟩
  case round =>
    obtain ⟨k, hk, rfl, HA, HB⟩ := hrel
    by_cases hlt : k < l.length
    · obtain ⟨b, off, rfl, hb, hs⟩ := HS.out (by intro e; rw [e] at hlt; simp at hlt)
      obtain ⟨c0, c1, c2, c3, c4, c5, c6, c7⟩ := hs k hlt
      clear hs
      rw [← HB.out.cell (p := ⟨b, _, none⟩) hb] at c0 c1 c2 c3 c4 c5 c6 c7
      have hbz : b < wr.heap.size := by have := HB.out.size; omega
      have hsz := HB.out.size
      have HN : Hid (slatOk l[k] = false → l.all slatOk = false) := Lib.hid fun h => all_no hlt h
      have HY : Hid (slatOk l[k] = true → (l.take (k + 1)).all slatOk = true) := Lib.hid fun h => by rw [all_snoc hlt, HA.out, h]; rfl
      have HD : Hid (slatOk l[k] = (withinB ⟨l[k].thick.lo, l[k].thick.hi⟩ 1 10000 && withinB ⟨l[k].depth.lo, l[k].depth.hi⟩ 0 l[k].thick.lo && withinB ⟨l[k].shift.lo, l[k].shift.hi⟩ (-500) 500 && withinB ⟨l[k].pitch.lo, l[k].pitch.hi⟩ (-50) 50)) := Lib.hid rfl
      generalize l[k] = s at *
      clear HA
      have HK := Lib.hid (Blk.new wr 37 #[.int .i64 s.thick.lo, .int .i64 s.thick.hi, .int .i64 s.depth.lo, .int .i64 s.depth.hi, .int .i64 s.shift.lo, .int .i64 s.shift.hi, .int .i64 s.pitch.lo, .int .i64 s.pitch.hi])
      have hb0 := HB.out.alloc hsz (.cells #[.int .i64 s.thick.lo, .int .i64 s.thick.hi, .int .i64 s.depth.lo, .int .i64 s.depth.hi, .int .i64 s.shift.lo, .int .i64 s.shift.hi, .int .i64 s.pitch.lo, .int .i64 s.pitch.hi] 37)
      go_wp2_with fail
      clear HB
      have HB := Lib.hid hb0
      clear hb0 c0 c1 c2 c3 c4 c5 c6 c7 hbz hsz
      generalize World.alloc wr _ = V at HB HK ⊢
      refine (within_any _ _ _ _ _).mono ?_
      rintro e W1 ⟨he, hb1⟩
      replace HK := Lib.hid (HK.out.below hb1 HK.out.lt)
      replace HB := Lib.hid (HB.out.trans (hb1.mono HB.out.size))
      clear hb1
      obtain ⟨z1, hz1⟩ : ∃ z, withinB ⟨s.thick.lo, s.thick.hi⟩ 1 10000 = z := ⟨_, rfl⟩
      rw [hz1] at he
      have H0 := Lib.hid hz1
      clear hz1
      subst he
      cases z1 with
      | false =>
        go_wp2_with fail
        go_ret
        exact ⟨ret_bool (HN.out (by rw [HD.out, H0.out]; simp)).symm, HB.out⟩
      | true =>
        skip
        have x0 := HK.out.cell 0
        have x2 := HK.out.cell 2
        have x3 := HK.out.cell 3
        go_wp2_with fail
        clear x0 x2 x3
        refine (within_any _ _ _ _ _).mono ?_
        rintro e W1 ⟨he, hb1⟩
        replace HK := Lib.hid (HK.out.below hb1 HK.out.lt)
        replace HB := Lib.hid (HB.out.trans (hb1.mono HB.out.size))
        clear hb1
        obtain ⟨z1, hz1⟩ : ∃ z, withinB ⟨s.depth.lo, s.depth.hi⟩ 0 s.thick.lo = z := ⟨_, rfl⟩
        rw [hz1] at he
        have H1 := Lib.hid hz1
        clear hz1
        subst he
        cases z1 with
        | false =>
          go_wp2_with fail
          go_ret
          exact ⟨ret_bool (HN.out (by rw [HD.out, H0.out, H1.out]; simp)).symm, HB.out⟩
        | true =>
          skip
          have x4 := HK.out.cell 4
          have x5 := HK.out.cell 5
          go_wp2_with fail
          clear x4 x5
          refine (within_any _ _ _ _ _).mono ?_
          rintro e W1 ⟨he, hb1⟩
          replace HK := Lib.hid (HK.out.below hb1 HK.out.lt)
          replace HB := Lib.hid (HB.out.trans (hb1.mono HB.out.size))
          clear hb1
          obtain ⟨z1, hz1⟩ : ∃ z, withinB ⟨s.shift.lo, s.shift.hi⟩ (-500) 500 = z := ⟨_, rfl⟩
          rw [hz1] at he
          have H2 := Lib.hid hz1
          clear hz1
          subst he
          cases z1 with
          | false =>
            go_wp2_with fail
            go_ret
            exact ⟨ret_bool (HN.out (by rw [HD.out, H0.out, H1.out, H2.out]; simp)).symm, HB.out⟩
          | true =>
            skip
            have x6 := HK.out.cell 6
            have x7 := HK.out.cell 7
            go_wp2_with fail
            clear x6 x7
            refine (within_any _ _ _ _ _).mono ?_
            rintro e W1 ⟨he, hb1⟩
            replace HK := Lib.hid (HK.out.below hb1 HK.out.lt)
            replace HB := Lib.hid (HB.out.trans (hb1.mono HB.out.size))
            clear hb1
            obtain ⟨z1, hz1⟩ : ∃ z, withinB ⟨s.pitch.lo, s.pitch.hi⟩ (-50) 50 = z := ⟨_, rfl⟩
            rw [hz1] at he
            have H3 := Lib.hid hz1
            clear hz1
            subst he
            cases z1 with
            | false =>
              go_wp2_with fail
              go_ret
              exact ⟨ret_bool (HN.out (by rw [HD.out, H0.out, H1.out, H2.out, H3.out]; simp)).symm, HB.out⟩
            | true =>
              skip
              replace HY := Lib.hid (HY.out (by rw [HD.out, H0.out, H1.out, H2.out, H3.out]; rfl))
              go_wp2_with fail
              go_roundw
              case rel => exact ⟨k + 1, by omega, by go_num, HY, HB⟩
              case measure => simp [intOf]; omega
    · obtain rfl : k = l.length := by omega
      have HE : Hid (l.all slatOk = true) := Lib.hid (by have := HA.out; rwa [List.take_length] at this)
      clear hlt hk HA
      go_wp2_with fail
      go_ret
      exact ⟨ret_bool HE.out.symm, HB.out⟩
theorem lims_no {l : List Int} {k : Nat} (h : k < l.length) (hf : limAt l k = false) : limsOk l = false := by
  unfold limsOk
  cases hx : (List.range l.length).all (limAt l) with
  | false => rfl
  | true => rw [List.all_eq_true.1 hx k (List.mem_range.2 h)] at hf; cases hf
theorem lims_yes {l : List Int} (h : ∀ i, i < l.length → limAt l i = true) : limsOk l = true := by
  unfold limsOk
  rw [List.all_eq_true]
  exact fun i hi => h i (List.mem_range.1 hi)
set_option maxRecDepth 100000 in
set_option maxHeartbeats 2000000 in
theorem validLimits_any (w : World) (A : Option Addr) (c : Nat) (l : List Int) (hl : l.length ≤ 9223372036854775807) (hA : IntSl w w.heap.size A l) :
    Calls Try.prog 63 #[.slice A l.length c] w (Ret (.bool (limsOk l)) w) := by
  have HS := Lib.hid hA
  clear hA
  have hl' : (l.length : Int) ≤ 9223372036854775807 := by omega
  have hl0 : (0 : Int) ≤ l.length := by omega
  go_enter Try.func63, Try.ntmps63
  go_wp2_with fail
  go_loopw [7] (fun i wr => ∃ k : Nat, k ≤ l.length ∧ i = .int .i64 k ∧ Hid (∀ i, i < k → limAt l i = true) ∧ Hid (Below w.heap.size w wr)) (fun i _ => l.length - (intOf i).toNat)
  case atStart => exact ⟨0, by omega, rfl, Lib.hid (fun i h => absurd h (Nat.not_lt_zero i)), Lib.hid (Below.refl _ _)⟩
  case round =>
    obtain ⟨k, hk, rfl, HA, HB⟩ := hrel
    by_cases hlt : k < l.length
    · obtain ⟨b, off, rfl, hb, hs⟩ := HS.out (by intro e; rw [e] at hlt; simp at hlt)
      have c0 := hs k hlt
      rw [← HB.out.cell (p := ⟨b, _, none⟩) hb] at c0
      have hbz : b < wr.heap.size := by have := HB.out.size; omega
      have hsz := HB.out.size
      have HN : Hid (limAt l k = false → limsOk l = false) := Lib.hid fun h => lims_no hlt h
      have HY : Hid (limAt l k = true → ∀ i, i < k + 1 → limAt l i = true) := Lib.hid fun h i hi => by
        rcases Nat.lt_or_ge i k with h9 | h9
        · exact HA.out i h9
        · obtain rfl : i = k := by omega
          exact h
      have hgk : l.getD k 0 = l[k] := by simp [hlt]
      rcases Nat.eq_zero_or_pos k with h0 | h0
      · have HD : Hid (limAt l k = fromB l[k] 0 1000) := Lib.hid (by unfold limAt; rw [hgk, decide_eq_true h0]; simp)
        have hk0 : k = 0 := h0
        clear hgk
        generalize l[k] = d at *
        clear HA hs
        subst hk0
        rw [Nat.add_zero] at c0
        go_wp2_with fail
        clear c0
        refine (isFrom_any _ _ _ _).mono ?_
        rintro e W1 ⟨he, rfl⟩
        obtain ⟨z1, hz1⟩ : ∃ z, fromB d 0 1000 = z := ⟨_, rfl⟩
        rw [hz1] at he
        have H0 := Lib.hid hz1
        clear hz1
        subst he
        cases z1 with
        | false =>
          go_wp2_with fail
          go_ret
          exact ⟨ret_bool (HN.out (by rw [HD.out, H0.out])).symm, HB.out⟩
        | true =>
          replace HY := Lib.hid (HY.out (by rw [HD.out, H0.out]))
          clear HN HD H0
          go_wp2_with fail
          go_roundw
          case rel => exact ⟨1, by omega, by go_num, HY, HB⟩
          case measure => simp [intOf]; omega
      · obtain ⟨m, rfl⟩ : ∃ m, k = m + 1 := ⟨k - 1, by omega⟩
        have hm : m < l.length := by omega
        have c1 := hs m hm
        rw [← HB.out.cell (p := ⟨b, _, none⟩) hb] at c1
        have hgm : l.getD m 0 = l[m] := by simp [hm]
        have HD : Hid (limAt l (m + 1) = (fromB l[m + 1] 0 1000 && decide (l[m] < l[m + 1]))) := Lib.hid (by unfold limAt; rw [hgk, Nat.add_sub_cancel, hgm]; simp)
        clear hgk hgm
        generalize l[m + 1] = d at *
        generalize l[m] = d0 at *
        clear HA hs h0
        go_wp2_with fail
        clear c0
        refine (isFrom_any _ _ _ _).mono ?_
        rintro e W1 ⟨he, rfl⟩
        obtain ⟨z1, hz1⟩ : ∃ z, fromB d 0 1000 = z := ⟨_, rfl⟩
        rw [hz1] at he
        have H0 := Lib.hid hz1
        clear hz1
        subst he
        cases z1 with
        | false =>
          go_wp2_with fail
          go_ret
          exact ⟨ret_bool (HN.out (by rw [HD.out, H0.out]; rfl)).symm, HB.out⟩
        | true =>
          have em : ((m : Int) + 1 - 1).toNat = m := by omega
          have w1 : IntKind.i64.wrap (m : Int) = m := IntWalk.i64_in _ ⟨by omega, by omega⟩
          by_cases hd : d0 < d
          · replace HY := Lib.hid (HY.out (by rw [HD.out, H0.out, decide_eq_true hd]; rfl))
            have hdd : ¬ d ≤ d0 := by omega
            clear HN HD H0
            go_wp2_with fail
            go_roundw
            case rel => exact ⟨m + 1 + 1, by omega, by go_num, HY, HB⟩
            case measure => simp [intOf]; omega
          · have HN2 := Lib.hid (HN.out (by rw [HD.out, H0.out, decide_eq_false hd]; rfl))
            have hdd : d ≤ d0 := by omega
            clear HN HD H0 HY
            go_wp2_with fail
            go_ret
            exact ⟨ret_bool HN2.out.symm, HB.out⟩
    · obtain rfl : k = l.length := by omega
      have HE : Hid (limsOk l = true) := Lib.hid (lims_yes HA.out)
      clear hlt hk HA
      go_wp2_with fail
      go_ret
      exact ⟨ret_bool HE.out.symm, HB.out⟩
set_option maxRecDepth 100000 in
set_option maxHeartbeats 2000000 in
theorem slErr_any (w : World) (A B C : Option Addr) (ca cb cc : Nat) (j : Jig) (lower upper : List Slat) (lims : List Int) (o : Bool) (h1 : lower.length ≤ 9223372036854775807) (h2 : upper.length ≤ 9223372036854775807) (h3 : lims.length ≤ 9223372036854775807) (hA : SlatSl w w.heap.size A lower) (hB : SlatSl w w.heap.size B upper) (hC : IntSl w w.heap.size C lims) :
    Calls Try.prog 36 #[.agg #[.int .i64 j.glue.lo, .int .i64 j.glue.hi, .int .i64 j.lead.lo, .int .i64 j.lead.hi, .int .i64 j.side.lo, .int .i64 j.side.hi, .int .i64 j.height.lo, .int .i64 j.height.hi, .int .i64 j.play, .int .i64 j.grooves], .slice A lower.length ca, .slice B upper.length cb, .slice C lims.length cc, .bool o] w (Ret (.int .i64 (slErr j lower upper lims o)) w) := by
  have hb0 : Below w.heap.size w (w.alloc (.cells #[.int .i64 j.glue.lo, .int .i64 j.glue.hi, .int .i64 j.lead.lo, .int .i64 j.lead.hi, .int .i64 j.side.lo, .int .i64 j.side.hi, .int .i64 j.height.lo, .int .i64 j.height.hi, .int .i64 j.play, .int .i64 j.grooves] 25)) := (Below.refl _ _).alloc (Nat.le_refl _) _
  have HVA : Hid (∀ W, Below w.heap.size w W → Calls Try.prog 62 #[.slice A lower.length ca] W (Ret (.bool (lower.all slatOk)) W)) := Lib.hid fun W hW => validSlats_any W A ca lower h1 (hA.on hW (Nat.le_refl _))
  have HVB : Hid (∀ W, Below w.heap.size w W → Calls Try.prog 62 #[.slice B upper.length cb] W (Ret (.bool (upper.all slatOk)) W)) := Lib.hid fun W hW => validSlats_any W B cb upper h2 (hB.on hW (Nat.le_refl _))
  have HVC : Hid (∀ W, Below w.heap.size w W → Calls Try.prog 63 #[.slice C lims.length cc] W (Ret (.bool (limsOk lims)) W)) := Lib.hid fun W hW => validLimits_any W C cc lims h3 (hC.on hW (Nat.le_refl _))
  have HB := Lib.hid hb0
  have HD : Hid (slErr j lower upper lims o = if (jigOk j && lower.all slatOk && upper.all slatOk) = false then 1 else if 7 < lower.length ∨ 7 < upper.length ∨ 8 < lims.length then 3 else if (limsOk lims && o) = false then 2 else 0) := Lib.hid rfl
  generalize lower.all slatOk = va at HVA HD
  generalize upper.all slatOk = vb at HVB HD
  generalize limsOk lims = vc at HVC HD
  generalize slErr j lower upper lims o = er at HD ⊢
  have h10 : (0 : Int) ≤ lower.length := by omega
  have h20 : (0 : Int) ≤ upper.length := by omega
  have h30 : (0 : Int) ≤ lims.length := by omega
  have h11 : (lower.length : Int) ≤ 9223372036854775807 := by omega
  have h21 : (upper.length : Int) ≤ 9223372036854775807 := by omega
  have h31 : (lims.length : Int) ≤ 9223372036854775807 := by omega
  clear hA hB hC hb0 h1 h2 h3
  go_enter Try.func36, Try.ntmps36
  go_wp2_with fail
  refine (validJig_any _ _).mono ?_
  rintro e W1 ⟨he, hb1⟩
  replace HB := Lib.hid (HB.out.trans (hb1.mono HB.out.size))
  clear hb1
  generalize jigOk j = vj at HD he
  subst he
  cases vj with
  | false =>
    go_wp2_with fail
    go_ret
    exact ⟨ret_int (by rw [HD.out]; rfl), HB.out⟩
  | true =>
    go_wp2_with fail
    refine (HVA.out _ HB.out).mono ?_
    rintro e W2 ⟨rfl, hb1⟩
    replace HB := Lib.hid (HB.out.trans (hb1.mono HB.out.size))
    clear hb1
    cases va with
    | false =>
      go_wp2_with fail
      go_ret
      exact ⟨ret_int (by rw [HD.out]; rfl), HB.out⟩
    | true =>
      go_wp2_with fail
      refine (HVB.out _ HB.out).mono ?_
      rintro e W3 ⟨rfl, hb1⟩
      replace HB := Lib.hid (HB.out.trans (hb1.mono HB.out.size))
      clear hb1
      cases vb with
      | false =>
        go_wp2_with fail
        go_ret
        exact ⟨ret_int (by rw [HD.out]; rfl), HB.out⟩
      | true =>
        by_cases g1 : 7 < lower.length
        · have g1' : (7 : Int) < lower.length := by omega
          have HE := Lib.hid (show er = 3 by rw [HD.out, if_neg (by simp), if_pos (by omega)])
          clear g1 HD
          go_wp2_with fail
          go_ret
          exact ⟨ret_int HE.out.symm, HB.out⟩
        · have g1' : ¬ (7 : Int) < lower.length := by omega
          by_cases g2 : 7 < upper.length
          · have g2' : (7 : Int) < upper.length := by omega
            have HE := Lib.hid (show er = 3 by rw [HD.out, if_neg (by simp), if_pos (by omega)])
            clear g1 g2 HD
            go_wp2_with fail
            go_ret
            exact ⟨ret_int HE.out.symm, HB.out⟩
          · have g2' : ¬ (7 : Int) < upper.length := by omega
            by_cases g3 : 8 < lims.length
            · have g3' : (8 : Int) < lims.length := by omega
              have HE := Lib.hid (show er = 3 by rw [HD.out, if_neg (by simp), if_pos (by omega)])
              clear g1 g2 g3 HD
              go_wp2_with fail
              go_ret
              exact ⟨ret_int HE.out.symm, HB.out⟩
            · have g3' : ¬ (8 : Int) < lims.length := by omega
              have HE := Lib.hid (show er = if (vc && o) = false then 2 else 0 by rw [HD.out, if_neg (by simp), if_neg (by omega)])
              clear g1 g2 g3 HD
              go_wp2_with fail
              refine (HVC.out _ HB.out).mono ?_
              rintro e W4 ⟨rfl, hb1⟩
              replace HB := Lib.hid (HB.out.trans (hb1.mono HB.out.size))
              clear hb1
              cases vc <;> cases o
              all_goals
                go_wp2_with fail
                go_ret
                exact ⟨ret_int (by rw [HE.out]; rfl), HB.out⟩
end Go.Proofs.Ytfpfafijockfnaa
