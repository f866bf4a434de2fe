/- The law SlatTrue: the walk. -/
import Derived.Test.YtaafmfhpoimjhaaZp
import Derived.Test.YtaafmfhpoimjhaaYn
namespace Go.Proofs.Ytaafmfhpoimjhaa
open Go.RowKit Go.Shelf

/-- What lies in the boxes of the law. -/
structure TnB (w : World) (j : Jig) (a b : Slat) (W : World) : Prop where
  hb : Below w.heap.size w W
  k4 : Blk W w.heap.size 25 #[.int .i64 j.glue.lo, .int .i64 j.glue.hi, .int .i64 j.lead.lo, .int .i64 j.lead.hi, .int .i64 j.side.lo, .int .i64 j.side.hi, .int .i64 j.height.lo, .int .i64 j.height.hi, .int .i64 j.play, .int .i64 j.grooves]
  k5 : Blk W (w.heap.size + 1) 37 #[.int .i64 a.thick.lo, .int .i64 a.thick.hi, .int .i64 a.depth.lo, .int .i64 a.depth.hi, .int .i64 a.shift.lo, .int .i64 a.shift.hi, .int .i64 a.pitch.lo, .int .i64 a.pitch.hi]
  k6 : Blk W (w.heap.size + 1 + 1) 37 #[.int .i64 b.thick.lo, .int .i64 b.thick.hi, .int .i64 b.depth.lo, .int .i64 b.depth.hi, .int .i64 b.shift.lo, .int .i64 b.shift.hi, .int .i64 b.pitch.lo, .int .i64 b.pitch.hi]
section
variable {w : World} {j : Jig} {a b : Slat} {W W' : World}
theorem TnB.low (h : TnB w j a b W) {B : Nat} (hb : Below B W W') (hB : w.heap.size + 1 + 1 < B) : TnB w j a b W' := ⟨h.hb.trans (hb.mono (by omega)), h.k4.below hb (by omega), h.k5.below hb (by omega), h.k6.below hb (by omega)⟩
theorem TnB.call (h : TnB w j a b W) (hb : Below W.heap.size W W') : TnB w j a b W' := h.low hb h.k6.lt
theorem TnB.start (w : World) (j : Jig) (a b : Slat) : TnB w j a b (((w.alloc (.cells #[.int .i64 j.glue.lo, .int .i64 j.glue.hi, .int .i64 j.lead.lo, .int .i64 j.lead.hi, .int .i64 j.side.lo, .int .i64 j.side.hi, .int .i64 j.height.lo, .int .i64 j.height.hi, .int .i64 j.play, .int .i64 j.grooves] 25)).alloc (.cells #[.int .i64 a.thick.lo, .int .i64 a.thick.hi, .int .i64 a.depth.lo, .int .i64 a.depth.hi, .int .i64 a.shift.lo, .int .i64 a.shift.hi, .int .i64 a.pitch.lo, .int .i64 a.pitch.hi] 37)).alloc (.cells #[.int .i64 b.thick.lo, .int .i64 b.thick.hi, .int .i64 b.depth.lo, .int .i64 b.depth.hi, .int .i64 b.shift.lo, .int .i64 b.shift.hi, .int .i64 b.pitch.lo, .int .i64 b.pitch.hi] 37)) := ⟨by repeat (first | exact Below.refl _ _ | assumption | refine Below.drew ?_ | refine Below.alloc ?_ (by first | omega | (simp only [World.size_alloc]; omega) | simp) _ | refine Below.setCell ?_ (by first | omega | (simp only [World.size_alloc]; omega) | simp) _), ((Blk.new _ _ _).alloc _).alloc _, (blk5 _ _ (by simp) rfl).alloc _, blk5 _ _ (by simp) rfl⟩
end
theorem meas_lt {N k : Nat} (h : k < N) : N - (intOf (.int .i64 ((k : Int) + 1))).toNat < N - (intOf (.int .i64 (k : Int))).toNat := by
  simp [intOf]; omega
set_option maxRecDepth 100000 in
set_option maxHeartbeats 16000000 in
theorem true05_any (w : World) (C Y : Option Addr) (cx cy : Nat) (j : Jig) (a b : Slat) (x ys : List Int) (hx : x.length ≤ 9223372036854775807) (hy : ys.length ≤ 9223372036854775807) (hC : IntSl w w.heap.size C x) (hY : U16Sl w w.heap.size Y ys) (hyb : ∀ y ∈ ys, 0 ≤ y ∧ y ≤ 65535) :
    Calls Try.prog 5 #[.agg #[.int .i64 j.glue.lo, .int .i64 j.glue.hi, .int .i64 j.lead.lo, .int .i64 j.lead.hi, .int .i64 j.side.lo, .int .i64 j.side.hi, .int .i64 j.height.lo, .int .i64 j.height.hi, .int .i64 j.play, .int .i64 j.grooves], .agg #[.int .i64 a.thick.lo, .int .i64 a.thick.hi, .int .i64 a.depth.lo, .int .i64 a.depth.hi, .int .i64 a.shift.lo, .int .i64 a.shift.hi, .int .i64 a.pitch.lo, .int .i64 a.pitch.hi], .agg #[.int .i64 b.thick.lo, .int .i64 b.thick.hi, .int .i64 b.depth.lo, .int .i64 b.depth.hi, .int .i64 b.shift.lo, .int .i64 b.shift.hi, .int .i64 b.pitch.lo, .int .i64 b.pitch.hi], .slice C x.length cx, .slice Y ys.length cy] w (Ret (.bool true) w) := by
  have HC := Lib.hid hC
  have HY := Lib.hid hY
  have HYB := Lib.hid hyb
  have HYL := Lib.hid hy
  have hx' : (x.length : Int) ≤ 9223372036854775807 := by omega
  have hx0 : (0 : Int) ≤ x.length := by omega
  have hy' : (ys.length : Int) ≤ 9223372036854775807 := by omega
  have hy0 : (0 : Int) ≤ ys.length := by omega
  have HS := Lib.hid (TnB.start w j a b)
  have HXL := Lib.hid hx
  clear hC hx hY hyb hy
  go_enter Try.func5, Try.ntmps5
  go_upto_region 1 with fail
  generalize World.alloc (World.alloc (World.alloc w _) _) _ = V at HS ⊢
  by_cases c2 : 14 < x.length
  · have c2' : (14 : Int) < x.length := by omega
    go_wp2_with fail
    refine (alive05_any _).mono ?_; rintro e w9 ⟨rfl, hb9⟩; have HB := Lib.hid (HS.out.hb.trans (hb9.mono HS.out.hb.size)); clear HS hb9; go_wp2_with fail; go_ret; exact ⟨rfl, HB.out⟩
  · have c2' : ¬ (14 : Int) < x.length := by omega
    by_cases c3 : ys.length = 0
    · have c3' : ((ys.length : Int) == 0) = true := by rw [beq_iff_eq]; omega
      have c3'' : (ys.length : Int) = 0 := by omega
      go_wp2_with fail
      refine (alive05_any _).mono ?_; rintro e w9 ⟨rfl, hb9⟩; have HB := Lib.hid (HS.out.hb.trans (hb9.mono HS.out.hb.size)); clear HS hb9; go_wp2_with fail; go_ret; exact ⟨rfl, HB.out⟩
    · have c3' : ((ys.length : Int) == 0) = false := by rw [beq_eq_false_iff_ne]; omega
      have c3'' : ¬ (ys.length : Int) = 0 := by omega
      have HYN : Hid (ys ≠ []) := Lib.hid fun e => c3 (by rw [e]; rfl)
      have jc0 := HS.out.k4.cell 0
      have jc1 := HS.out.k4.cell 1
      have jc2 := HS.out.k4.cell 2
      have jc3 := HS.out.k4.cell 3
      have jc4 := HS.out.k4.cell 4
      have jc5 := HS.out.k4.cell 5
      have jc6 := HS.out.k4.cell 6
      have jc7 := HS.out.k4.cell 7
      have jc8 := HS.out.k4.cell 8
      have jc9 := HS.out.k4.cell 9
      go_wp2_with fail
      refine (rjig5_any j _).mono ?_
      rintro e W1 ⟨rfl, hb⟩
      replace HS := Lib.hid (HS.out.call hb)
      clear hb
      clear jc0 jc1 jc2 jc3 jc4 jc5 jc6 jc7 jc8 jc9
      cases hjk : jigOk j with
      | false =>
        go_wp2_with fail
        refine (alive05_any _).mono ?_; rintro e w9 ⟨rfl, hb9⟩; have HB := Lib.hid (HS.out.hb.trans (hb9.mono HS.out.hb.size)); clear HS hb9; go_wp2_with fail; go_ret; exact ⟨rfl, HB.out⟩
      | true =>
        have sc0 := HS.out.k5.cell 0
        have sc1 := HS.out.k5.cell 1
        have sc2 := HS.out.k5.cell 2
        have sc3 := HS.out.k5.cell 3
        have sc4 := HS.out.k5.cell 4
        have sc5 := HS.out.k5.cell 5
        have sc6 := HS.out.k5.cell 6
        have sc7 := HS.out.k5.cell 7
        go_wp2_with fail
        refine (rslat5_any a _).mono ?_
        rintro e W2 ⟨rfl, hb⟩
        replace HS := Lib.hid (HS.out.call hb)
        clear hb
        clear sc0 sc1 sc2 sc3 sc4 sc5 sc6 sc7
        cases hak : slatOk a with
        | false =>
          go_wp2_with fail
          refine (alive05_any _).mono ?_; rintro e w9 ⟨rfl, hb9⟩; have HB := Lib.hid (HS.out.hb.trans (hb9.mono HS.out.hb.size)); clear HS hb9; go_wp2_with fail; go_ret; exact ⟨rfl, HB.out⟩
        | true =>
          have sc0 := HS.out.k6.cell 0
          have sc1 := HS.out.k6.cell 1
          have sc2 := HS.out.k6.cell 2
          have sc3 := HS.out.k6.cell 3
          have sc4 := HS.out.k6.cell 4
          have sc5 := HS.out.k6.cell 5
          have sc6 := HS.out.k6.cell 6
          have sc7 := HS.out.k6.cell 7
          go_wp2_with fail
          refine (rslat5_any b _).mono ?_
          rintro e W3 ⟨rfl, hb⟩
          replace HS := Lib.hid (HS.out.call hb)
          clear hb
          clear sc0 sc1 sc2 sc3 sc4 sc5 sc6 sc7
          cases hbk : slatOk b with
          | false =>
            go_wp2_with fail
            refine (alive05_any _).mono ?_; rintro e w9 ⟨rfl, hb9⟩; have HB := Lib.hid (HS.out.hb.trans (hb9.mono HS.out.hb.size)); clear HS hb9; go_wp2_with fail; go_ret; exact ⟨rfl, HB.out⟩
          | true =>
            have HOK := Lib.hid (And.intro hjk (And.intro hak hbk))
            have HI := Lib.hid (And.intro (jigIn_of hjk) (And.intro (slatIn_of hak) (slatIn_of hbk)))
            clear hjk hak hbk
            go_upto_region 4 with fail
            have hb := (Below.refl W3.heap.size W3).alloc (Nat.le_refl _) (.cells #[.slice Y ys.length cy, .int .i64 0] 53)
            have hgd := HS.out.k6.lt
            have HD : Hid (DrS W3.heap.size w.heap.size Y cy ys 0 (W3.alloc (.cells #[.slice Y ys.length cy, .int .i64 0] 53))) := Lib.hid ⟨Blk.new _ _ _, fun hne => by
              obtain ⟨b9, o9, e9, hlt, hs⟩ := HY.out hne
              exact ⟨b9, o9, e9, hlt, hs.below (HS.out.hb.trans (hb.mono HS.out.hb.size)) hlt⟩⟩
            replace HS := Lib.hid (HS.out.call hb)
            clear hb
            generalize World.alloc W3 _ = V3 at HS HD ⊢
            generalize W3.heap.size = gd at *
            have HRL := Lib.hid fun (k : Nat) (s : Slat) (w9 : World) hk hs hS => real5_any gd w.heap.size Y cy ys k s w9 hk hs HYN.out HYL.out HYB.out hS (by omega)
            have HOF1 := Lib.hid fun (k : Nat) (lo hi : Int) (w9 : World) hk h0 h1 h2 hS => of5d_any gd w.heap.size Y cy ys k lo hi w9 hk h0 h1 h2 HYN.out HYL.out HYB.out hS (by omega)
            go_cut [12, 13] (fun s t wx => ∃ g12 g13 : Nat, ∃ xt xd xs xp yt yd yv yp : Int, s = .pointer (some ⟨g12, 0, none⟩) ∧ t = .pointer (some ⟨g13, 0, none⟩) ∧ Hid (TnB w j a b wx) ∧ Hid (DrS gd w.heap.size Y cy ys (0 + 1 + 1 + 1 + 1 + 1 + 1 + 1 + 1) wx) ∧ Hid (Blk wx g12 55 #[.int .i64 xt, .int .i64 xd, .int .i64 xs, .int .i64 xp]) ∧ Hid (Blk wx g13 55 #[.int .i64 yt, .int .i64 yd, .int .i64 yv, .int .i64 yp]) ∧ Hid (gd < g12 ∧ gd < g13) ∧ Hid (((a.thick.lo ≤ xt ∧ xt ≤ a.thick.hi) ∧ (a.depth.lo ≤ xd ∧ xd ≤ a.depth.hi) ∧ (a.shift.lo ≤ xs ∧ xs ≤ a.shift.hi) ∧ a.pitch.lo ≤ xp ∧ xp ≤ a.pitch.hi) ∧ (b.thick.lo ≤ yt ∧ yt ≤ b.thick.hi) ∧ (b.depth.lo ≤ yd ∧ yd ≤ b.depth.hi) ∧ (b.shift.lo ≤ yv ∧ yv ≤ b.shift.hi) ∧ b.pitch.lo ≤ yp ∧ yp ≤ b.pitch.hi))
            case first => as_aux_lemma =>
              go_wp2_with fail
              replace HS := Lib.hid (HS.out.call (Below.refl _ _).drew)
              replace HD := Lib.hid (HD.out.keep (Below.refl _ _).drew (by have := HD.out.kd.lt; omega))
              refine wp_region_held_drew (S := fun W9 => Blk W9 (w.heap.size + 1) 37 #[.int .i64 a.thick.lo, .int .i64 a.thick.hi, .int .i64 a.depth.lo, .int .i64 a.depth.hi, .int .i64 a.shift.lo, .int .i64 a.shift.hi, .int .i64 a.pitch.lo, .int .i64 a.pitch.hi] ∧ Blk W9 (w.heap.size + 1 + 1) 37 #[.int .i64 b.thick.lo, .int .i64 b.thick.hi, .int .i64 b.depth.lo, .int .i64 b.depth.hi, .int .i64 b.shift.lo, .int .i64 b.shift.hi, .int .i64 b.pitch.lo, .int .i64 b.pitch.hi]) (by kernel_rfl) ⟨HS.out.k5, HS.out.k6⟩ (fun hH0 => ?_)
              generalize World.drew _ = V0 at *
              simp only [List.size_toArray, List.length_cons, List.length_nil, Nat.reduceAdd, Array.replicate_succ, Array.replicate_zero, List.push_toArray, List.nil_append, List.cons_append]
              refine wpAnyH_take (i := 0 ) (v := ?_) rfl (by kernel_rfl) (by kernel_rfl) (by kernel_rfl) (fun _ _ _ h => h) (Or.inl ⟨by rfl, ?_⟩) (by assumption) ?_; rotate_left; (· (intro w0 hSw; clear hSw; go_simp); first | done | with_reducible rfl); (try simp only [Act.put, List.getElem_toArray, List.getElem_cons_zero, List.setIfInBounds_toArray, List.set_cons_zero, List.set_cons_succ])
              refine wpAnyH_take (i := 1) (v := _) rfl (by kernel_rfl) (by kernel_rfl) (by kernel_rfl) (fun _ _ _ h => h) (yieldsIf_load_mid (by rfl) _ _ rfl _ _ rfl [.int .i64 a.thick.lo, .int .i64 a.thick.hi, .int .i64 a.depth.lo, .int .i64 a.depth.hi, .int .i64 a.shift.lo, .int .i64 a.shift.hi, .int .i64 a.pitch.lo, .int .i64 a.pitch.hi] _ (fun w0 h0 => h0.1.range) (by rfl) (by rfl) (by kernel_rfl)) (by assumption) ?_
              (try simp only [Act.put, List.getElem_toArray, List.getElem_cons_succ, List.getElem_cons_zero, List.setIfInBounds_toArray, List.set_cons_zero, List.set_cons_succ])
              refine wpAnyH_take (i := 3 ) (v := ?_) rfl (by kernel_rfl) (by kernel_rfl) (by kernel_rfl) (fun _ _ _ h => h) (Or.inl ⟨by rfl, ?_⟩) (by assumption) ?_; rotate_left; (· (intro w0 hSw; clear hSw; go_simp); first | done | with_reducible rfl); (try simp only [Act.put, List.getElem_toArray, List.getElem_cons_succ, List.getElem_cons_zero, List.setIfInBounds_toArray, List.set_cons_zero, List.set_cons_succ])
              refine wpAnyH_take (i := 4) (v := _) rfl (by kernel_rfl) (by kernel_rfl) (by kernel_rfl) (fun _ _ _ h => h) (yieldsIf_load_mid (by rfl) _ _ rfl _ _ rfl [.int .i64 b.thick.lo, .int .i64 b.thick.hi, .int .i64 b.depth.lo, .int .i64 b.depth.hi, .int .i64 b.shift.lo, .int .i64 b.shift.hi, .int .i64 b.pitch.lo, .int .i64 b.pitch.hi] _ (fun w0 h0 => h0.2.range) (by rfl) (by rfl) (by kernel_rfl)) (by assumption) ?_
              (try simp only [Act.put, List.getElem_toArray, List.getElem_cons_succ, List.getElem_cons_zero, List.setIfInBounds_toArray, List.set_cons_zero, List.set_cons_succ])
              refine wpAnyH_ready (rs := [2, 6, 7]) (by kernel_rfl) (by simp) ?_
              refine AllReadyH.cons (by simp only [List.getElem?_toArray, List.getElem?_cons_succ, List.getElem?_cons_zero]; rfl) (fun K hK => ?_) ?_
              · go_simp
                refine (HRL.out 0 a _ (by omega) HI.out.2.1 HD.out).mono ?_
                rintro e X ⟨xt, xd, xs, xp, rfl, hv, hD, hK, hb⟩
                have HVX := Lib.hid hv
                replace HD := Lib.hid hD
                replace HS := Lib.hid (HS.out.low hb hgd)
                clear hv hD hK hb
                refine hK.out _ _ ⟨HS.out.k5, HS.out.k6⟩ (fun hH1 => ?_)
                clear hK K
                try simp only [List.setIfInBounds_toArray, List.set_cons_zero, List.set_cons_succ]
                refine wpAnyH_ready (rs := [5, 6, 7]) (by kernel_rfl) (by simp) ?_
                refine AllReadyH.cons (by simp only [List.getElem?_toArray, List.getElem?_cons_succ, List.getElem?_cons_zero]; rfl) (fun K hK => ?_) ?_
                · go_simp
                  refine (HRL.out (0 + 1 + 1 + 1 + 1) b _ (by omega) HI.out.2.2 HD.out).mono ?_
                  rintro e X ⟨yt, yd, yv, yp, rfl, hv, hD, hK, hb⟩
                  have HVY := Lib.hid hv
                  replace HD := Lib.hid hD
                  replace HS := Lib.hid (HS.out.low hb hgd)
                  clear hv hD hK hb
                  refine hK.out _ _ ⟨HS.out.k5, HS.out.k6⟩ (fun hH2 => ?_)
                  clear hK K
                  try simp only [List.setIfInBounds_toArray, List.set_cons_zero, List.set_cons_succ]
                  refine wpAnyH_ready (rs := [6, 7]) (by kernel_rfl) (by simp) ?_
                  refine AllReadyH.cons (by simp only [List.getElem?_toArray, List.getElem?_cons_succ, List.getElem?_cons_zero]; rfl) (fun K hK => ?_) ?_
                  · go_simp
                    have hb : Below X.heap.size X (X.alloc (.cells #[.int .i64 0, .int .i64 0, .int .i64 0, .int .i64 0] 55)) := (Below.refl _ _).alloc (Nat.le_refl _) _
                    have K12 := Lib.hid (Blk.new X 55 #[.int .i64 0, .int .i64 0, .int .i64 0, .int .i64 0])
                    have h12 : gd < X.heap.size := HD.out.kd.lt
                    replace HS := Lib.hid (HS.out.call hb)
                    replace HD := Lib.hid (HD.out.keep hb (by omega))
                    clear hb
                    generalize X.heap.size = g12 at *
                    generalize World.alloc X _ = X at *
                    refine hK.out _ _ ⟨HS.out.k5, HS.out.k6⟩ (fun hH3 => ?_)
                    clear hK K
                    try simp only [List.setIfInBounds_toArray, List.set_cons_zero, List.set_cons_succ]
                    refine wpAnyH_ready (rs := [7]) (by kernel_rfl) (by simp) ?_
                    refine AllReadyH.cons (by simp only [List.getElem?_toArray, List.getElem?_cons_succ, List.getElem?_cons_zero]; rfl) (fun K hK => ?_) AllReadyH.nil
                    go_simp
                    have hb : Below X.heap.size X (X.alloc (.cells #[.int .i64 0, .int .i64 0, .int .i64 0, .int .i64 0] 55)) := (Below.refl _ _).alloc (Nat.le_refl _) _
                    have K13 := Lib.hid (Blk.new X 55 #[.int .i64 0, .int .i64 0, .int .i64 0, .int .i64 0])
                    have h13 : gd < X.heap.size := HD.out.kd.lt
                    have hneg13 : g12 ≠ X.heap.size := Nat.ne_of_lt K12.out.lt
                    replace HS := Lib.hid (HS.out.call hb)
                    replace HD := Lib.hid (HD.out.keep hb (by omega))
                    replace K12 := Lib.hid (K12.out.below hb K12.out.lt)
                    clear hb
                    generalize X.heap.size = g13 at *
                    generalize World.alloc X _ = X at *
                    refine hK.out _ _ ⟨HS.out.k5, HS.out.k6⟩ (fun hH4 => ?_)
                    clear hK K
                    try simp only [List.setIfInBounds_toArray, List.set_cons_zero, List.set_cons_succ]
                    refine wpAnyH_ready (rs := [8]) (by kernel_rfl) (by simp) ?_
                    refine AllReadyH.cons (by simp only [List.getElem?_toArray, List.getElem?_cons_succ, List.getElem?_cons_zero]; rfl) (fun K hK => ?_) AllReadyH.nil
                    rw [if_pos (by rfl)]
                    refine wp_store_row 55 (.tmp 12) (.tmp 61) (by rfl) g12 #[.int .i64 xt, .int .i64 xd, .int .i64 xs, .int .i64 xp] (by rfl) (by rfl) 55 _ K12.out (by kernel_rfl) (by rfl) (by kernel_rfl) ?_
                    have hb9 : Below (gd + 1) X (X.setRow g12 #[.int .i64 xt, .int .i64 xd, .int .i64 xs, .int .i64 xp]) := below_setRow (Below.refl _ _) (by omega) _
                    replace HS := Lib.hid (HS.out.low hb9 (by omega))
                    replace HD := Lib.hid (HD.out.low hb9 (by omega) (by omega))
                    replace K12 := Lib.hid (K12.out.row #[.int .i64 xt, .int .i64 xd, .int .i64 xs, .int .i64 xp])
                    replace K13 := Lib.hid (blk_rowfar (r := #[.int .i64 xt, .int .i64 xd, .int .i64 xs, .int .i64 xp]) (show g13 ≠ g12 by omega) K13.out)
                    clear hb9
                    generalize World.setRow X _ _ = X at *
                    refine hK.out _ _ ⟨HS.out.k5, HS.out.k6⟩ (fun hH5 => ?_)
                    clear hK K
                    try simp only [List.setIfInBounds_toArray, List.set_cons_zero, List.set_cons_succ]
                    refine wpAnyH_ready (rs := [9]) (by kernel_rfl) (by simp) ?_
                    refine AllReadyH.cons (by simp only [List.getElem?_toArray, List.getElem?_cons_succ, List.getElem?_cons_zero]; rfl) (fun K hK => ?_) AllReadyH.nil
                    rw [if_pos (by rfl)]
                    refine wp_store_row 55 (.tmp 13) (.tmp 64) (by rfl) g13 #[.int .i64 yt, .int .i64 yd, .int .i64 yv, .int .i64 yp] (by rfl) (by rfl) 55 _ K13.out (by kernel_rfl) (by rfl) (by kernel_rfl) ?_
                    have hb9 : Below (gd + 1) X (X.setRow g13 #[.int .i64 yt, .int .i64 yd, .int .i64 yv, .int .i64 yp]) := below_setRow (Below.refl _ _) (by omega) _
                    replace HS := Lib.hid (HS.out.low hb9 (by omega))
                    replace HD := Lib.hid (HD.out.low hb9 (by omega) (by omega))
                    replace K13 := Lib.hid (K13.out.row #[.int .i64 yt, .int .i64 yd, .int .i64 yv, .int .i64 yp])
                    replace K12 := Lib.hid (blk_rowfar (r := #[.int .i64 yt, .int .i64 yd, .int .i64 yv, .int .i64 yp]) (show g12 ≠ g13 by omega) K12.out)
                    clear hb9
                    generalize World.setRow X _ _ = X at *
                    refine hK.out _ _ ⟨HS.out.k5, HS.out.k6⟩ (fun hH6 => ?_)
                    clear hK K
                    try simp only [List.setIfInBounds_toArray, List.set_cons_zero, List.set_cons_succ]
                    refine wpAnyH_done (by kernel_rfl) ?_ _
                    go_wp2_with fail
                    go_meet
                    exact ⟨g12, g13, xt, xd, xs, xp, yt, yd, yv, yp, rfl, rfl, HS, HD, K12, K13, Lib.hid ⟨h12, h13⟩, Lib.hid ⟨HVX.out, HVY.out⟩⟩
                  refine AllReadyH.cons (by simp only [List.getElem?_toArray, List.getElem?_cons_succ, List.getElem?_cons_zero]; rfl) (fun K hK => ?_) ?_
                  · go_simp
                    have hb : Below X.heap.size X (X.alloc (.cells #[.int .i64 0, .int .i64 0, .int .i64 0, .int .i64 0] 55)) := (Below.refl _ _).alloc (Nat.le_refl _) _
                    have K13 := Lib.hid (Blk.new X 55 #[.int .i64 0, .int .i64 0, .int .i64 0, .int .i64 0])
                    have h13 : gd < X.heap.size := HD.out.kd.lt
                    replace HS := Lib.hid (HS.out.call hb)
                    replace HD := Lib.hid (HD.out.keep hb (by omega))
                    clear hb
                    generalize X.heap.size = g13 at *
                    generalize World.alloc X _ = X at *
                    refine hK.out _ _ ⟨HS.out.k5, HS.out.k6⟩ (fun hH7 => ?_)
                    clear hK K
                    try simp only [List.setIfInBounds_toArray, List.set_cons_zero, List.set_cons_succ]
                    refine wpAnyH_ready (rs := [6]) (by kernel_rfl) (by simp) ?_
                    refine AllReadyH.cons (by simp only [List.getElem?_toArray, List.getElem?_cons_succ, List.getElem?_cons_zero]; rfl) (fun K hK => ?_) AllReadyH.nil
                    go_simp
                    have hb : Below X.heap.size X (X.alloc (.cells #[.int .i64 0, .int .i64 0, .int .i64 0, .int .i64 0] 55)) := (Below.refl _ _).alloc (Nat.le_refl _) _
                    have K12 := Lib.hid (Blk.new X 55 #[.int .i64 0, .int .i64 0, .int .i64 0, .int .i64 0])
                    have h12 : gd < X.heap.size := HD.out.kd.lt
                    have hneg12 : g13 ≠ X.heap.size := Nat.ne_of_lt K13.out.lt
                    replace HS := Lib.hid (HS.out.call hb)
                    replace HD := Lib.hid (HD.out.keep hb (by omega))
                    replace K13 := Lib.hid (K13.out.below hb K13.out.lt)
                    clear hb
                    generalize X.heap.size = g12 at *
                    generalize World.alloc X _ = X at *
                    refine hK.out _ _ ⟨HS.out.k5, HS.out.k6⟩ (fun hH8 => ?_)
                    clear hK K
                    try simp only [List.setIfInBounds_toArray, List.set_cons_zero, List.set_cons_succ]
                    refine wpAnyH_ready (rs := [8]) (by kernel_rfl) (by simp) ?_
                    refine AllReadyH.cons (by simp only [List.getElem?_toArray, List.getElem?_cons_succ, List.getElem?_cons_zero]; rfl) (fun K hK => ?_) AllReadyH.nil
                    rw [if_pos (by rfl)]
                    refine wp_store_row 55 (.tmp 12) (.tmp 61) (by rfl) g12 #[.int .i64 xt, .int .i64 xd, .int .i64 xs, .int .i64 xp] (by rfl) (by rfl) 55 _ K12.out (by kernel_rfl) (by rfl) (by kernel_rfl) ?_
                    have hb9 : Below (gd + 1) X (X.setRow g12 #[.int .i64 xt, .int .i64 xd, .int .i64 xs, .int .i64 xp]) := below_setRow (Below.refl _ _) (by omega) _
                    replace HS := Lib.hid (HS.out.low hb9 (by omega))
                    replace HD := Lib.hid (HD.out.low hb9 (by omega) (by omega))
                    replace K12 := Lib.hid (K12.out.row #[.int .i64 xt, .int .i64 xd, .int .i64 xs, .int .i64 xp])
                    replace K13 := Lib.hid (blk_rowfar (r := #[.int .i64 xt, .int .i64 xd, .int .i64 xs, .int .i64 xp]) (show g13 ≠ g12 by omega) K13.out)
                    clear hb9
                    generalize World.setRow X _ _ = X at *
                    refine hK.out _ _ ⟨HS.out.k5, HS.out.k6⟩ (fun hH9 => ?_)
                    clear hK K
                    try simp only [List.setIfInBounds_toArray, List.set_cons_zero, List.set_cons_succ]
                    refine wpAnyH_ready (rs := [9]) (by kernel_rfl) (by simp) ?_
                    refine AllReadyH.cons (by simp only [List.getElem?_toArray, List.getElem?_cons_succ, List.getElem?_cons_zero]; rfl) (fun K hK => ?_) AllReadyH.nil
                    rw [if_pos (by rfl)]
                    refine wp_store_row 55 (.tmp 13) (.tmp 64) (by rfl) g13 #[.int .i64 yt, .int .i64 yd, .int .i64 yv, .int .i64 yp] (by rfl) (by rfl) 55 _ K13.out (by kernel_rfl) (by rfl) (by kernel_rfl) ?_
                    have hb9 : Below (gd + 1) X (X.setRow g13 #[.int .i64 yt, .int .i64 yd, .int .i64 yv, .int .i64 yp]) := below_setRow (Below.refl _ _) (by omega) _
                    replace HS := Lib.hid (HS.out.low hb9 (by omega))
                    replace HD := Lib.hid (HD.out.low hb9 (by omega) (by omega))
                    replace K13 := Lib.hid (K13.out.row #[.int .i64 yt, .int .i64 yd, .int .i64 yv, .int .i64 yp])
                    replace K12 := Lib.hid (blk_rowfar (r := #[.int .i64 yt, .int .i64 yd, .int .i64 yv, .int .i64 yp]) (show g12 ≠ g13 by omega) K12.out)
                    clear hb9
                    generalize World.setRow X _ _ = X at *
                    refine hK.out _ _ ⟨HS.out.k5, HS.out.k6⟩ (fun hH10 => ?_)
                    clear hK K
                    try simp only [List.setIfInBounds_toArray, List.set_cons_zero, List.set_cons_succ]
                    refine wpAnyH_done (by kernel_rfl) ?_ _
                    go_wp2_with fail
                    go_meet
                    exact ⟨g12, g13, xt, xd, xs, xp, yt, yd, yv, yp, rfl, rfl, HS, HD, K12, K13, Lib.hid ⟨h12, h13⟩, Lib.hid ⟨HVX.out, HVY.out⟩⟩
                  exact AllReadyH.nil
                refine AllReadyH.cons (by simp only [List.getElem?_toArray, List.getElem?_cons_succ, List.getElem?_cons_zero]; rfl) (fun K hK => ?_) ?_
                · go_simp
                  have hb : Below X.heap.size X (X.alloc (.cells #[.int .i64 0, .int .i64 0, .int .i64 0, .int .i64 0] 55)) := (Below.refl _ _).alloc (Nat.le_refl _) _
                  have K12 := Lib.hid (Blk.new X 55 #[.int .i64 0, .int .i64 0, .int .i64 0, .int .i64 0])
                  have h12 : gd < X.heap.size := HD.out.kd.lt
                  replace HS := Lib.hid (HS.out.call hb)
                  replace HD := Lib.hid (HD.out.keep hb (by omega))
                  clear hb
                  generalize X.heap.size = g12 at *
                  generalize World.alloc X _ = X at *
                  refine hK.out _ _ ⟨HS.out.k5, HS.out.k6⟩ (fun hH11 => ?_)
                  clear hK K
                  try simp only [List.setIfInBounds_toArray, List.set_cons_zero, List.set_cons_succ]
                  refine wpAnyH_ready (rs := [5, 7]) (by kernel_rfl) (by simp) ?_
                  refine AllReadyH.cons (by simp only [List.getElem?_toArray, List.getElem?_cons_succ, List.getElem?_cons_zero]; rfl) (fun K hK => ?_) ?_
                  · go_simp
                    refine (HRL.out (0 + 1 + 1 + 1 + 1) b _ (by omega) HI.out.2.2 HD.out).mono ?_
                    rintro e X ⟨yt, yd, yv, yp, rfl, hv, hD, hK, hb⟩
                    have HVY := Lib.hid hv
                    replace HD := Lib.hid hD
                    replace HS := Lib.hid (HS.out.low hb hgd)
                    replace K12 := Lib.hid (K12.out.keep1 hK (by omega))
                    clear hv hD hK hb
                    refine hK.out _ _ ⟨HS.out.k5, HS.out.k6⟩ (fun hH12 => ?_)
                    clear hK K
                    try simp only [List.setIfInBounds_toArray, List.set_cons_zero, List.set_cons_succ]
                    refine wpAnyH_ready (rs := [7]) (by kernel_rfl) (by simp) ?_
                    refine AllReadyH.cons (by simp only [List.getElem?_toArray, List.getElem?_cons_succ, List.getElem?_cons_zero]; rfl) (fun K hK => ?_) AllReadyH.nil
                    go_simp
                    have hb : Below X.heap.size X (X.alloc (.cells #[.int .i64 0, .int .i64 0, .int .i64 0, .int .i64 0] 55)) := (Below.refl _ _).alloc (Nat.le_refl _) _
                    have K13 := Lib.hid (Blk.new X 55 #[.int .i64 0, .int .i64 0, .int .i64 0, .int .i64 0])
                    have h13 : gd < X.heap.size := HD.out.kd.lt
                    have hneg13 : g12 ≠ X.heap.size := Nat.ne_of_lt K12.out.lt
                    replace HS := Lib.hid (HS.out.call hb)
                    replace HD := Lib.hid (HD.out.keep hb (by omega))
                    replace K12 := Lib.hid (K12.out.below hb K12.out.lt)
                    clear hb
                    generalize X.heap.size = g13 at *
                    generalize World.alloc X _ = X at *
                    refine hK.out _ _ ⟨HS.out.k5, HS.out.k6⟩ (fun hH13 => ?_)
                    clear hK K
                    try simp only [List.setIfInBounds_toArray, List.set_cons_zero, List.set_cons_succ]
                    refine wpAnyH_ready (rs := [8]) (by kernel_rfl) (by simp) ?_
                    refine AllReadyH.cons (by simp only [List.getElem?_toArray, List.getElem?_cons_succ, List.getElem?_cons_zero]; rfl) (fun K hK => ?_) AllReadyH.nil
                    rw [if_pos (by rfl)]
                    refine wp_store_row 55 (.tmp 12) (.tmp 61) (by rfl) g12 #[.int .i64 xt, .int .i64 xd, .int .i64 xs, .int .i64 xp] (by rfl) (by rfl) 55 _ K12.out (by kernel_rfl) (by rfl) (by kernel_rfl) ?_
                    have hb9 : Below (gd + 1) X (X.setRow g12 #[.int .i64 xt, .int .i64 xd, .int .i64 xs, .int .i64 xp]) := below_setRow (Below.refl _ _) (by omega) _
                    replace HS := Lib.hid (HS.out.low hb9 (by omega))
                    replace HD := Lib.hid (HD.out.low hb9 (by omega) (by omega))
                    replace K12 := Lib.hid (K12.out.row #[.int .i64 xt, .int .i64 xd, .int .i64 xs, .int .i64 xp])
                    replace K13 := Lib.hid (blk_rowfar (r := #[.int .i64 xt, .int .i64 xd, .int .i64 xs, .int .i64 xp]) (show g13 ≠ g12 by omega) K13.out)
                    clear hb9
                    generalize World.setRow X _ _ = X at *
                    refine hK.out _ _ ⟨HS.out.k5, HS.out.k6⟩ (fun hH14 => ?_)
                    clear hK K
                    try simp only [List.setIfInBounds_toArray, List.set_cons_zero, List.set_cons_succ]
                    refine wpAnyH_ready (rs := [9]) (by kernel_rfl) (by simp) ?_
                    refine AllReadyH.cons (by simp only [List.getElem?_toArray, List.getElem?_cons_succ, List.getElem?_cons_zero]; rfl) (fun K hK => ?_) AllReadyH.nil
                    rw [if_pos (by rfl)]
                    refine wp_store_row 55 (.tmp 13) (.tmp 64) (by rfl) g13 #[.int .i64 yt, .int .i64 yd, .int .i64 yv, .int .i64 yp] (by rfl) (by rfl) 55 _ K13.out (by kernel_rfl) (by rfl) (by kernel_rfl) ?_
                    have hb9 : Below (gd + 1) X (X.setRow g13 #[.int .i64 yt, .int .i64 yd, .int .i64 yv, .int .i64 yp]) := below_setRow (Below.refl _ _) (by omega) _
                    replace HS := Lib.hid (HS.out.low hb9 (by omega))
                    replace HD := Lib.hid (HD.out.low hb9 (by omega) (by omega))
                    replace K13 := Lib.hid (K13.out.row #[.int .i64 yt, .int .i64 yd, .int .i64 yv, .int .i64 yp])
                    replace K12 := Lib.hid (blk_rowfar (r := #[.int .i64 yt, .int .i64 yd, .int .i64 yv, .int .i64 yp]) (show g12 ≠ g13 by omega) K12.out)
                    clear hb9
                    generalize World.setRow X _ _ = X at *
                    refine hK.out _ _ ⟨HS.out.k5, HS.out.k6⟩ (fun hH15 => ?_)
                    clear hK K
                    try simp only [List.setIfInBounds_toArray, List.set_cons_zero, List.set_cons_succ]
                    refine wpAnyH_done (by kernel_rfl) ?_ _
                    go_wp2_with fail
                    go_meet
                    exact ⟨g12, g13, xt, xd, xs, xp, yt, yd, yv, yp, rfl, rfl, HS, HD, K12, K13, Lib.hid ⟨h12, h13⟩, Lib.hid ⟨HVX.out, HVY.out⟩⟩
                  refine AllReadyH.cons (by simp only [List.getElem?_toArray, List.getElem?_cons_succ, List.getElem?_cons_zero]; rfl) (fun K hK => ?_) ?_
                  · go_simp
                    have hb : Below X.heap.size X (X.alloc (.cells #[.int .i64 0, .int .i64 0, .int .i64 0, .int .i64 0] 55)) := (Below.refl _ _).alloc (Nat.le_refl _) _
                    have K13 := Lib.hid (Blk.new X 55 #[.int .i64 0, .int .i64 0, .int .i64 0, .int .i64 0])
                    have h13 : gd < X.heap.size := HD.out.kd.lt
                    have hneg13 : g12 ≠ X.heap.size := Nat.ne_of_lt K12.out.lt
                    replace HS := Lib.hid (HS.out.call hb)
                    replace HD := Lib.hid (HD.out.keep hb (by omega))
                    replace K12 := Lib.hid (K12.out.below hb K12.out.lt)
                    clear hb
                    generalize X.heap.size = g13 at *
                    generalize World.alloc X _ = X at *
                    refine hK.out _ _ ⟨HS.out.k5, HS.out.k6⟩ (fun hH16 => ?_)
                    clear hK K
                    try simp only [List.setIfInBounds_toArray, List.set_cons_zero, List.set_cons_succ]
                    refine wpAnyH_ready (rs := [5]) (by kernel_rfl) (by simp) ?_
                    refine AllReadyH.cons (by simp only [List.getElem?_toArray, List.getElem?_cons_succ, List.getElem?_cons_zero]; rfl) (fun K hK => ?_) AllReadyH.nil
                    go_simp
                    refine (HRL.out (0 + 1 + 1 + 1 + 1) b _ (by omega) HI.out.2.2 HD.out).mono ?_
                    rintro e X ⟨yt, yd, yv, yp, rfl, hv, hD, hK, hb⟩
                    have HVY := Lib.hid hv
                    replace HD := Lib.hid hD
                    replace HS := Lib.hid (HS.out.low hb hgd)
                    replace K12 := Lib.hid (K12.out.keep1 hK (by omega))
                    replace K13 := Lib.hid (K13.out.keep1 hK (by omega))
                    clear hv hD hK hb
                    refine hK.out _ _ ⟨HS.out.k5, HS.out.k6⟩ (fun hH17 => ?_)
                    clear hK K
                    try simp only [List.setIfInBounds_toArray, List.set_cons_zero, List.set_cons_succ]
                    refine wpAnyH_ready (rs := [8]) (by kernel_rfl) (by simp) ?_
                    refine AllReadyH.cons (by simp only [List.getElem?_toArray, List.getElem?_cons_succ, List.getElem?_cons_zero]; rfl) (fun K hK => ?_) AllReadyH.nil
                    rw [if_pos (by rfl)]
                    refine wp_store_row 55 (.tmp 12) (.tmp 61) (by rfl) g12 #[.int .i64 xt, .int .i64 xd, .int .i64 xs, .int .i64 xp] (by rfl) (by rfl) 55 _ K12.out (by kernel_rfl) (by rfl) (by kernel_rfl) ?_
                    have hb9 : Below (gd + 1) X (X.setRow g12 #[.int .i64 xt, .int .i64 xd, .int .i64 xs, .int .i64 xp]) := below_setRow (Below.refl _ _) (by omega) _
                    replace HS := Lib.hid (HS.out.low hb9 (by omega))
                    replace HD := Lib.hid (HD.out.low hb9 (by omega) (by omega))
                    replace K12 := Lib.hid (K12.out.row #[.int .i64 xt, .int .i64 xd, .int .i64 xs, .int .i64 xp])
                    replace K13 := Lib.hid (blk_rowfar (r := #[.int .i64 xt, .int .i64 xd, .int .i64 xs, .int .i64 xp]) (show g13 ≠ g12 by omega) K13.out)
                    clear hb9
                    generalize World.setRow X _ _ = X at *
                    refine hK.out _ _ ⟨HS.out.k5, HS.out.k6⟩ (fun hH18 => ?_)
                    clear hK K
                    try simp only [List.setIfInBounds_toArray, List.set_cons_zero, List.set_cons_succ]
                    refine wpAnyH_ready (rs := [9]) (by kernel_rfl) (by simp) ?_
                    refine AllReadyH.cons (by simp only [List.getElem?_toArray, List.getElem?_cons_succ, List.getElem?_cons_zero]; rfl) (fun K hK => ?_) AllReadyH.nil
                    rw [if_pos (by rfl)]
                    refine wp_store_row 55 (.tmp 13) (.tmp 64) (by rfl) g13 #[.int .i64 yt, .int .i64 yd, .int .i64 yv, .int .i64 yp] (by rfl) (by rfl) 55 _ K13.out (by kernel_rfl) (by rfl) (by kernel_rfl) ?_
                    have hb9 : Below (gd + 1) X (X.setRow g13 #[.int .i64 yt, .int .i64 yd, .int .i64 yv, .int .i64 yp]) := below_setRow (Below.refl _ _) (by omega) _
                    replace HS := Lib.hid (HS.out.low hb9 (by omega))
                    replace HD := Lib.hid (HD.out.low hb9 (by omega) (by omega))
                    replace K13 := Lib.hid (K13.out.row #[.int .i64 yt, .int .i64 yd, .int .i64 yv, .int .i64 yp])
                    replace K12 := Lib.hid (blk_rowfar (r := #[.int .i64 yt, .int .i64 yd, .int .i64 yv, .int .i64 yp]) (show g12 ≠ g13 by omega) K12.out)
                    clear hb9
                    generalize World.setRow X _ _ = X at *
                    refine hK.out _ _ ⟨HS.out.k5, HS.out.k6⟩ (fun hH19 => ?_)
                    clear hK K
                    try simp only [List.setIfInBounds_toArray, List.set_cons_zero, List.set_cons_succ]
                    refine wpAnyH_done (by kernel_rfl) ?_ _
                    go_wp2_with fail
                    go_meet
                    exact ⟨g12, g13, xt, xd, xs, xp, yt, yd, yv, yp, rfl, rfl, HS, HD, K12, K13, Lib.hid ⟨h12, h13⟩, Lib.hid ⟨HVX.out, HVY.out⟩⟩
                  exact AllReadyH.nil
                refine AllReadyH.cons (by simp only [List.getElem?_toArray, List.getElem?_cons_succ, List.getElem?_cons_zero]; rfl) (fun K hK => ?_) ?_
                · go_simp
                  have hb : Below X.heap.size X (X.alloc (.cells #[.int .i64 0, .int .i64 0, .int .i64 0, .int .i64 0] 55)) := (Below.refl _ _).alloc (Nat.le_refl _) _
                  have K13 := Lib.hid (Blk.new X 55 #[.int .i64 0, .int .i64 0, .int .i64 0, .int .i64 0])
                  have h13 : gd < X.heap.size := HD.out.kd.lt
                  replace HS := Lib.hid (HS.out.call hb)
                  replace HD := Lib.hid (HD.out.keep hb (by omega))
                  clear hb
                  generalize X.heap.size = g13 at *
                  generalize World.alloc X _ = X at *
                  refine hK.out _ _ ⟨HS.out.k5, HS.out.k6⟩ (fun hH20 => ?_)
                  clear hK K
                  try simp only [List.setIfInBounds_toArray, List.set_cons_zero, List.set_cons_succ]
                  refine wpAnyH_ready (rs := [5, 6]) (by kernel_rfl) (by simp) ?_
                  refine AllReadyH.cons (by simp only [List.getElem?_toArray, List.getElem?_cons_succ, List.getElem?_cons_zero]; rfl) (fun K hK => ?_) ?_
                  · go_simp
                    refine (HRL.out (0 + 1 + 1 + 1 + 1) b _ (by omega) HI.out.2.2 HD.out).mono ?_
                    rintro e X ⟨yt, yd, yv, yp, rfl, hv, hD, hK, hb⟩
                    have HVY := Lib.hid hv
                    replace HD := Lib.hid hD
                    replace HS := Lib.hid (HS.out.low hb hgd)
                    replace K13 := Lib.hid (K13.out.keep1 hK (by omega))
                    clear hv hD hK hb
                    refine hK.out _ _ ⟨HS.out.k5, HS.out.k6⟩ (fun hH21 => ?_)
                    clear hK K
                    try simp only [List.setIfInBounds_toArray, List.set_cons_zero, List.set_cons_succ]
                    refine wpAnyH_ready (rs := [6]) (by kernel_rfl) (by simp) ?_
                    refine AllReadyH.cons (by simp only [List.getElem?_toArray, List.getElem?_cons_succ, List.getElem?_cons_zero]; rfl) (fun K hK => ?_) AllReadyH.nil
                    go_simp
                    have hb : Below X.heap.size X (X.alloc (.cells #[.int .i64 0, .int .i64 0, .int .i64 0, .int .i64 0] 55)) := (Below.refl _ _).alloc (Nat.le_refl _) _
                    have K12 := Lib.hid (Blk.new X 55 #[.int .i64 0, .int .i64 0, .int .i64 0, .int .i64 0])
                    have h12 : gd < X.heap.size := HD.out.kd.lt
                    have hneg12 : g13 ≠ X.heap.size := Nat.ne_of_lt K13.out.lt
                    replace HS := Lib.hid (HS.out.call hb)
                    replace HD := Lib.hid (HD.out.keep hb (by omega))
                    replace K13 := Lib.hid (K13.out.below hb K13.out.lt)
                    clear hb
                    generalize X.heap.size = g12 at *
                    generalize World.alloc X _ = X at *
                    refine hK.out _ _ ⟨HS.out.k5, HS.out.k6⟩ (fun hH22 => ?_)
                    clear hK K
                    try simp only [List.setIfInBounds_toArray, List.set_cons_zero, List.set_cons_succ]
                    refine wpAnyH_ready (rs := [8]) (by kernel_rfl) (by simp) ?_
                    refine AllReadyH.cons (by simp only [List.getElem?_toArray, List.getElem?_cons_succ, List.getElem?_cons_zero]; rfl) (fun K hK => ?_) AllReadyH.nil
                    rw [if_pos (by rfl)]
                    refine wp_store_row 55 (.tmp 12) (.tmp 61) (by rfl) g12 #[.int .i64 xt, .int .i64 xd, .int .i64 xs, .int .i64 xp] (by rfl) (by rfl) 55 _ K12.out (by kernel_rfl) (by rfl) (by kernel_rfl) ?_
                    have hb9 : Below (gd + 1) X (X.setRow g12 #[.int .i64 xt, .int .i64 xd, .int .i64 xs, .int .i64 xp]) := below_setRow (Below.refl _ _) (by omega) _
                    replace HS := Lib.hid (HS.out.low hb9 (by omega))
                    replace HD := Lib.hid (HD.out.low hb9 (by omega) (by omega))
                    replace K12 := Lib.hid (K12.out.row #[.int .i64 xt, .int .i64 xd, .int .i64 xs, .int .i64 xp])
                    replace K13 := Lib.hid (blk_rowfar (r := #[.int .i64 xt, .int .i64 xd, .int .i64 xs, .int .i64 xp]) (show g13 ≠ g12 by omega) K13.out)
                    clear hb9
                    generalize World.setRow X _ _ = X at *
                    refine hK.out _ _ ⟨HS.out.k5, HS.out.k6⟩ (fun hH23 => ?_)
                    clear hK K
                    try simp only [List.setIfInBounds_toArray, List.set_cons_zero, List.set_cons_succ]
                    refine wpAnyH_ready (rs := [9]) (by kernel_rfl) (by simp) ?_
                    refine AllReadyH.cons (by simp only [List.getElem?_toArray, List.getElem?_cons_succ, List.getElem?_cons_zero]; rfl) (fun K hK => ?_) AllReadyH.nil
                    rw [if_pos (by rfl)]
                    refine wp_store_row 55 (.tmp 13) (.tmp 64) (by rfl) g13 #[.int .i64 yt, .int .i64 yd, .int .i64 yv, .int .i64 yp] (by rfl) (by rfl) 55 _ K13.out (by kernel_rfl) (by rfl) (by kernel_rfl) ?_
                    have hb9 : Below (gd + 1) X (X.setRow g13 #[.int .i64 yt, .int .i64 yd, .int .i64 yv, .int .i64 yp]) := below_setRow (Below.refl _ _) (by omega) _
                    replace HS := Lib.hid (HS.out.low hb9 (by omega))
                    replace HD := Lib.hid (HD.out.low hb9 (by omega) (by omega))
                    replace K13 := Lib.hid (K13.out.row #[.int .i64 yt, .int .i64 yd, .int .i64 yv, .int .i64 yp])
                    replace K12 := Lib.hid (blk_rowfar (r := #[.int .i64 yt, .int .i64 yd, .int .i64 yv, .int .i64 yp]) (show g12 ≠ g13 by omega) K12.out)
                    clear hb9
                    generalize World.setRow X _ _ = X at *
                    refine hK.out _ _ ⟨HS.out.k5, HS.out.k6⟩ (fun hH24 => ?_)
                    clear hK K
                    try simp only [List.setIfInBounds_toArray, List.set_cons_zero, List.set_cons_succ]
                    refine wpAnyH_done (by kernel_rfl) ?_ _
                    go_wp2_with fail
                    go_meet
                    exact ⟨g12, g13, xt, xd, xs, xp, yt, yd, yv, yp, rfl, rfl, HS, HD, K12, K13, Lib.hid ⟨h12, h13⟩, Lib.hid ⟨HVX.out, HVY.out⟩⟩
                  refine AllReadyH.cons (by simp only [List.getElem?_toArray, List.getElem?_cons_succ, List.getElem?_cons_zero]; rfl) (fun K hK => ?_) ?_
                  · go_simp
                    have hb : Below X.heap.size X (X.alloc (.cells #[.int .i64 0, .int .i64 0, .int .i64 0, .int .i64 0] 55)) := (Below.refl _ _).alloc (Nat.le_refl _) _
                    have K12 := Lib.hid (Blk.new X 55 #[.int .i64 0, .int .i64 0, .int .i64 0, .int .i64 0])
                    have h12 : gd < X.heap.size := HD.out.kd.lt
                    have hneg12 : g13 ≠ X.heap.size := Nat.ne_of_lt K13.out.lt
                    replace HS := Lib.hid (HS.out.call hb)
                    replace HD := Lib.hid (HD.out.keep hb (by omega))
                    replace K13 := Lib.hid (K13.out.below hb K13.out.lt)
                    clear hb
                    generalize X.heap.size = g12 at *
                    generalize World.alloc X _ = X at *
                    refine hK.out _ _ ⟨HS.out.k5, HS.out.k6⟩ (fun hH25 => ?_)
                    clear hK K
                    try simp only [List.setIfInBounds_toArray, List.set_cons_zero, List.set_cons_succ]
                    refine wpAnyH_ready (rs := [5]) (by kernel_rfl) (by simp) ?_
                    refine AllReadyH.cons (by simp only [List.getElem?_toArray, List.getElem?_cons_succ, List.getElem?_cons_zero]; rfl) (fun K hK => ?_) AllReadyH.nil
                    go_simp
                    refine (HRL.out (0 + 1 + 1 + 1 + 1) b _ (by omega) HI.out.2.2 HD.out).mono ?_
                    rintro e X ⟨yt, yd, yv, yp, rfl, hv, hD, hK, hb⟩
                    have HVY := Lib.hid hv
                    replace HD := Lib.hid hD
                    replace HS := Lib.hid (HS.out.low hb hgd)
                    replace K12 := Lib.hid (K12.out.keep1 hK (by omega))
                    replace K13 := Lib.hid (K13.out.keep1 hK (by omega))
                    clear hv hD hK hb
                    refine hK.out _ _ ⟨HS.out.k5, HS.out.k6⟩ (fun hH26 => ?_)
                    clear hK K
                    try simp only [List.setIfInBounds_toArray, List.set_cons_zero, List.set_cons_succ]
                    refine wpAnyH_ready (rs := [8]) (by kernel_rfl) (by simp) ?_
                    refine AllReadyH.cons (by simp only [List.getElem?_toArray, List.getElem?_cons_succ, List.getElem?_cons_zero]; rfl) (fun K hK => ?_) AllReadyH.nil
                    rw [if_pos (by rfl)]
                    refine wp_store_row 55 (.tmp 12) (.tmp 61) (by rfl) g12 #[.int .i64 xt, .int .i64 xd, .int .i64 xs, .int .i64 xp] (by rfl) (by rfl) 55 _ K12.out (by kernel_rfl) (by rfl) (by kernel_rfl) ?_
                    have hb9 : Below (gd + 1) X (X.setRow g12 #[.int .i64 xt, .int .i64 xd, .int .i64 xs, .int .i64 xp]) := below_setRow (Below.refl _ _) (by omega) _
                    replace HS := Lib.hid (HS.out.low hb9 (by omega))
                    replace HD := Lib.hid (HD.out.low hb9 (by omega) (by omega))
                    replace K12 := Lib.hid (K12.out.row #[.int .i64 xt, .int .i64 xd, .int .i64 xs, .int .i64 xp])
                    replace K13 := Lib.hid (blk_rowfar (r := #[.int .i64 xt, .int .i64 xd, .int .i64 xs, .int .i64 xp]) (show g13 ≠ g12 by omega) K13.out)
                    clear hb9
                    generalize World.setRow X _ _ = X at *
                    refine hK.out _ _ ⟨HS.out.k5, HS.out.k6⟩ (fun hH27 => ?_)
                    clear hK K
                    try simp only [List.setIfInBounds_toArray, List.set_cons_zero, List.set_cons_succ]
                    refine wpAnyH_ready (rs := [9]) (by kernel_rfl) (by simp) ?_
                    refine AllReadyH.cons (by simp only [List.getElem?_toArray, List.getElem?_cons_succ, List.getElem?_cons_zero]; rfl) (fun K hK => ?_) AllReadyH.nil
                    rw [if_pos (by rfl)]
                    refine wp_store_row 55 (.tmp 13) (.tmp 64) (by rfl) g13 #[.int .i64 yt, .int .i64 yd, .int .i64 yv, .int .i64 yp] (by rfl) (by rfl) 55 _ K13.out (by kernel_rfl) (by rfl) (by kernel_rfl) ?_
                    have hb9 : Below (gd + 1) X (X.setRow g13 #[.int .i64 yt, .int .i64 yd, .int .i64 yv, .int .i64 yp]) := below_setRow (Below.refl _ _) (by omega) _
                    replace HS := Lib.hid (HS.out.low hb9 (by omega))
                    replace HD := Lib.hid (HD.out.low hb9 (by omega) (by omega))
                    replace K13 := Lib.hid (K13.out.row #[.int .i64 yt, .int .i64 yd, .int .i64 yv, .int .i64 yp])
                    replace K12 := Lib.hid (blk_rowfar (r := #[.int .i64 yt, .int .i64 yd, .int .i64 yv, .int .i64 yp]) (show g12 ≠ g13 by omega) K12.out)
                    clear hb9
                    generalize World.setRow X _ _ = X at *
                    refine hK.out _ _ ⟨HS.out.k5, HS.out.k6⟩ (fun hH28 => ?_)
                    clear hK K
                    try simp only [List.setIfInBounds_toArray, List.set_cons_zero, List.set_cons_succ]
                    refine wpAnyH_done (by kernel_rfl) ?_ _
                    go_wp2_with fail
                    go_meet
                    exact ⟨g12, g13, xt, xd, xs, xp, yt, yd, yv, yp, rfl, rfl, HS, HD, K12, K13, Lib.hid ⟨h12, h13⟩, Lib.hid ⟨HVX.out, HVY.out⟩⟩
                  exact AllReadyH.nil
                exact AllReadyH.nil
              refine AllReadyH.cons (by simp only [List.getElem?_toArray, List.getElem?_cons_succ, List.getElem?_cons_zero]; rfl) (fun K hK => ?_) ?_
              · go_simp
                have hb : Below V0.heap.size V0 (V0.alloc (.cells #[.int .i64 0, .int .i64 0, .int .i64 0, .int .i64 0] 55)) := (Below.refl _ _).alloc (Nat.le_refl _) _
                have K12 := Lib.hid (Blk.new V0 55 #[.int .i64 0, .int .i64 0, .int .i64 0, .int .i64 0])
                have h12 : gd < V0.heap.size := HD.out.kd.lt
                replace HS := Lib.hid (HS.out.call hb)
                replace HD := Lib.hid (HD.out.keep hb (by omega))
                clear hb
                generalize V0.heap.size = g12 at *
                generalize World.alloc V0 _ = X at *
                refine hK.out _ _ ⟨HS.out.k5, HS.out.k6⟩ (fun hH29 => ?_)
                clear hK K
                try simp only [List.setIfInBounds_toArray, List.set_cons_zero, List.set_cons_succ]
                refine wpAnyH_ready (rs := [2, 7]) (by kernel_rfl) (by simp) ?_
                refine AllReadyH.cons (by simp only [List.getElem?_toArray, List.getElem?_cons_succ, List.getElem?_cons_zero]; rfl) (fun K hK => ?_) ?_
                · go_simp
                  refine (HRL.out 0 a _ (by omega) HI.out.2.1 HD.out).mono ?_
                  rintro e X ⟨xt, xd, xs, xp, rfl, hv, hD, hK, hb⟩
                  have HVX := Lib.hid hv
                  replace HD := Lib.hid hD
                  replace HS := Lib.hid (HS.out.low hb hgd)
                  replace K12 := Lib.hid (K12.out.keep1 hK (by omega))
                  clear hv hD hK hb
                  refine hK.out _ _ ⟨HS.out.k5, HS.out.k6⟩ (fun hH30 => ?_)
                  clear hK K
                  try simp only [List.setIfInBounds_toArray, List.set_cons_zero, List.set_cons_succ]
                  refine wpAnyH_ready (rs := [5, 7]) (by kernel_rfl) (by simp) ?_
                  refine AllReadyH.cons (by simp only [List.getElem?_toArray, List.getElem?_cons_succ, List.getElem?_cons_zero]; rfl) (fun K hK => ?_) ?_
                  · go_simp
                    refine (HRL.out (0 + 1 + 1 + 1 + 1) b _ (by omega) HI.out.2.2 HD.out).mono ?_
                    rintro e X ⟨yt, yd, yv, yp, rfl, hv, hD, hK, hb⟩
                    have HVY := Lib.hid hv
                    replace HD := Lib.hid hD
                    replace HS := Lib.hid (HS.out.low hb hgd)
                    replace K12 := Lib.hid (K12.out.keep1 hK (by omega))
                    clear hv hD hK hb
                    refine hK.out _ _ ⟨HS.out.k5, HS.out.k6⟩ (fun hH31 => ?_)
                    clear hK K
                    try simp only [List.setIfInBounds_toArray, List.set_cons_zero, List.set_cons_succ]
                    refine wpAnyH_ready (rs := [7]) (by kernel_rfl) (by simp) ?_
                    refine AllReadyH.cons (by simp only [List.getElem?_toArray, List.getElem?_cons_succ, List.getElem?_cons_zero]; rfl) (fun K hK => ?_) AllReadyH.nil
                    go_simp
                    have hb : Below X.heap.size X (X.alloc (.cells #[.int .i64 0, .int .i64 0, .int .i64 0, .int .i64 0] 55)) := (Below.refl _ _).alloc (Nat.le_refl _) _
                    have K13 := Lib.hid (Blk.new X 55 #[.int .i64 0, .int .i64 0, .int .i64 0, .int .i64 0])
                    have h13 : gd < X.heap.size := HD.out.kd.lt
                    have hneg13 : g12 ≠ X.heap.size := Nat.ne_of_lt K12.out.lt
                    replace HS := Lib.hid (HS.out.call hb)
                    replace HD := Lib.hid (HD.out.keep hb (by omega))
                    replace K12 := Lib.hid (K12.out.below hb K12.out.lt)
                    clear hb
                    generalize X.heap.size = g13 at *
                    generalize World.alloc X _ = X at *
                    refine hK.out _ _ ⟨HS.out.k5, HS.out.k6⟩ (fun hH32 => ?_)
                    clear hK K
                    try simp only [List.setIfInBounds_toArray, List.set_cons_zero, List.set_cons_succ]
                    refine wpAnyH_ready (rs := [8]) (by kernel_rfl) (by simp) ?_
                    refine AllReadyH.cons (by simp only [List.getElem?_toArray, List.getElem?_cons_succ, List.getElem?_cons_zero]; rfl) (fun K hK => ?_) AllReadyH.nil
                    rw [if_pos (by rfl)]
                    refine wp_store_row 55 (.tmp 12) (.tmp 61) (by rfl) g12 #[.int .i64 xt, .int .i64 xd, .int .i64 xs, .int .i64 xp] (by rfl) (by rfl) 55 _ K12.out (by kernel_rfl) (by rfl) (by kernel_rfl) ?_
                    have hb9 : Below (gd + 1) X (X.setRow g12 #[.int .i64 xt, .int .i64 xd, .int .i64 xs, .int .i64 xp]) := below_setRow (Below.refl _ _) (by omega) _
                    replace HS := Lib.hid (HS.out.low hb9 (by omega))
                    replace HD := Lib.hid (HD.out.low hb9 (by omega) (by omega))
                    replace K12 := Lib.hid (K12.out.row #[.int .i64 xt, .int .i64 xd, .int .i64 xs, .int .i64 xp])
                    replace K13 := Lib.hid (blk_rowfar (r := #[.int .i64 xt, .int .i64 xd, .int .i64 xs, .int .i64 xp]) (show g13 ≠ g12 by omega) K13.out)
                    clear hb9
                    generalize World.setRow X _ _ = X at *
                    refine hK.out _ _ ⟨HS.out.k5, HS.out.k6⟩ (fun hH33 => ?_)
                    clear hK K
                    try simp only [List.setIfInBounds_toArray, List.set_cons_zero, List.set_cons_succ]
                    refine wpAnyH_ready (rs := [9]) (by kernel_rfl) (by simp) ?_
                    refine AllReadyH.cons (by simp only [List.getElem?_toArray, List.getElem?_cons_succ, List.getElem?_cons_zero]; rfl) (fun K hK => ?_) AllReadyH.nil
                    rw [if_pos (by rfl)]
                    refine wp_store_row 55 (.tmp 13) (.tmp 64) (by rfl) g13 #[.int .i64 yt, .int .i64 yd, .int .i64 yv, .int .i64 yp] (by rfl) (by rfl) 55 _ K13.out (by kernel_rfl) (by rfl) (by kernel_rfl) ?_
                    have hb9 : Below (gd + 1) X (X.setRow g13 #[.int .i64 yt, .int .i64 yd, .int .i64 yv, .int .i64 yp]) := below_setRow (Below.refl _ _) (by omega) _
                    replace HS := Lib.hid (HS.out.low hb9 (by omega))
                    replace HD := Lib.hid (HD.out.low hb9 (by omega) (by omega))
                    replace K13 := Lib.hid (K13.out.row #[.int .i64 yt, .int .i64 yd, .int .i64 yv, .int .i64 yp])
                    replace K12 := Lib.hid (blk_rowfar (r := #[.int .i64 yt, .int .i64 yd, .int .i64 yv, .int .i64 yp]) (show g12 ≠ g13 by omega) K12.out)
                    clear hb9
                    generalize World.setRow X _ _ = X at *
                    refine hK.out _ _ ⟨HS.out.k5, HS.out.k6⟩ (fun hH34 => ?_)
                    clear hK K
                    try simp only [List.setIfInBounds_toArray, List.set_cons_zero, List.set_cons_succ]
                    refine wpAnyH_done (by kernel_rfl) ?_ _
                    go_wp2_with fail
                    go_meet
                    exact ⟨g12, g13, xt, xd, xs, xp, yt, yd, yv, yp, rfl, rfl, HS, HD, K12, K13, Lib.hid ⟨h12, h13⟩, Lib.hid ⟨HVX.out, HVY.out⟩⟩
                  refine AllReadyH.cons (by simp only [List.getElem?_toArray, List.getElem?_cons_succ, List.getElem?_cons_zero]; rfl) (fun K hK => ?_) ?_
                  · go_simp
                    have hb : Below X.heap.size X (X.alloc (.cells #[.int .i64 0, .int .i64 0, .int .i64 0, .int .i64 0] 55)) := (Below.refl _ _).alloc (Nat.le_refl _) _
                    have K13 := Lib.hid (Blk.new X 55 #[.int .i64 0, .int .i64 0, .int .i64 0, .int .i64 0])
                    have h13 : gd < X.heap.size := HD.out.kd.lt
                    have hneg13 : g12 ≠ X.heap.size := Nat.ne_of_lt K12.out.lt
                    replace HS := Lib.hid (HS.out.call hb)
                    replace HD := Lib.hid (HD.out.keep hb (by omega))
                    replace K12 := Lib.hid (K12.out.below hb K12.out.lt)
                    clear hb
                    generalize X.heap.size = g13 at *
                    generalize World.alloc X _ = X at *
                    refine hK.out _ _ ⟨HS.out.k5, HS.out.k6⟩ (fun hH35 => ?_)
                    clear hK K
                    try simp only [List.setIfInBounds_toArray, List.set_cons_zero, List.set_cons_succ]
                    refine wpAnyH_ready (rs := [5]) (by kernel_rfl) (by simp) ?_
                    refine AllReadyH.cons (by simp only [List.getElem?_toArray, List.getElem?_cons_succ, List.getElem?_cons_zero]; rfl) (fun K hK => ?_) AllReadyH.nil
                    go_simp
                    refine (HRL.out (0 + 1 + 1 + 1 + 1) b _ (by omega) HI.out.2.2 HD.out).mono ?_
                    rintro e X ⟨yt, yd, yv, yp, rfl, hv, hD, hK, hb⟩
                    have HVY := Lib.hid hv
                    replace HD := Lib.hid hD
                    replace HS := Lib.hid (HS.out.low hb hgd)
                    replace K12 := Lib.hid (K12.out.keep1 hK (by omega))
                    replace K13 := Lib.hid (K13.out.keep1 hK (by omega))
                    clear hv hD hK hb
                    refine hK.out _ _ ⟨HS.out.k5, HS.out.k6⟩ (fun hH36 => ?_)
                    clear hK K
                    try simp only [List.setIfInBounds_toArray, List.set_cons_zero, List.set_cons_succ]
                    refine wpAnyH_ready (rs := [8]) (by kernel_rfl) (by simp) ?_
                    refine AllReadyH.cons (by simp only [List.getElem?_toArray, List.getElem?_cons_succ, List.getElem?_cons_zero]; rfl) (fun K hK => ?_) AllReadyH.nil
                    rw [if_pos (by rfl)]
                    refine wp_store_row 55 (.tmp 12) (.tmp 61) (by rfl) g12 #[.int .i64 xt, .int .i64 xd, .int .i64 xs, .int .i64 xp] (by rfl) (by rfl) 55 _ K12.out (by kernel_rfl) (by rfl) (by kernel_rfl) ?_
                    have hb9 : Below (gd + 1) X (X.setRow g12 #[.int .i64 xt, .int .i64 xd, .int .i64 xs, .int .i64 xp]) := below_setRow (Below.refl _ _) (by omega) _
                    replace HS := Lib.hid (HS.out.low hb9 (by omega))
                    replace HD := Lib.hid (HD.out.low hb9 (by omega) (by omega))
                    replace K12 := Lib.hid (K12.out.row #[.int .i64 xt, .int .i64 xd, .int .i64 xs, .int .i64 xp])
                    replace K13 := Lib.hid (blk_rowfar (r := #[.int .i64 xt, .int .i64 xd, .int .i64 xs, .int .i64 xp]) (show g13 ≠ g12 by omega) K13.out)
                    clear hb9
                    generalize World.setRow X _ _ = X at *
                    refine hK.out _ _ ⟨HS.out.k5, HS.out.k6⟩ (fun hH37 => ?_)
                    clear hK K
                    try simp only [List.setIfInBounds_toArray, List.set_cons_zero, List.set_cons_succ]
                    refine wpAnyH_ready (rs := [9]) (by kernel_rfl) (by simp) ?_
                    refine AllReadyH.cons (by simp only [List.getElem?_toArray, List.getElem?_cons_succ, List.getElem?_cons_zero]; rfl) (fun K hK => ?_) AllReadyH.nil
                    rw [if_pos (by rfl)]
                    refine wp_store_row 55 (.tmp 13) (.tmp 64) (by rfl) g13 #[.int .i64 yt, .int .i64 yd, .int .i64 yv, .int .i64 yp] (by rfl) (by rfl) 55 _ K13.out (by kernel_rfl) (by rfl) (by kernel_rfl) ?_
                    have hb9 : Below (gd + 1) X (X.setRow g13 #[.int .i64 yt, .int .i64 yd, .int .i64 yv, .int .i64 yp]) := below_setRow (Below.refl _ _) (by omega) _
                    replace HS := Lib.hid (HS.out.low hb9 (by omega))
                    replace HD := Lib.hid (HD.out.low hb9 (by omega) (by omega))
                    replace K13 := Lib.hid (K13.out.row #[.int .i64 yt, .int .i64 yd, .int .i64 yv, .int .i64 yp])
                    replace K12 := Lib.hid (blk_rowfar (r := #[.int .i64 yt, .int .i64 yd, .int .i64 yv, .int .i64 yp]) (show g12 ≠ g13 by omega) K12.out)
                    clear hb9
                    generalize World.setRow X _ _ = X at *
                    refine hK.out _ _ ⟨HS.out.k5, HS.out.k6⟩ (fun hH38 => ?_)
                    clear hK K
                    try simp only [List.setIfInBounds_toArray, List.set_cons_zero, List.set_cons_succ]
                    refine wpAnyH_done (by kernel_rfl) ?_ _
                    go_wp2_with fail
                    go_meet
                    exact ⟨g12, g13, xt, xd, xs, xp, yt, yd, yv, yp, rfl, rfl, HS, HD, K12, K13, Lib.hid ⟨h12, h13⟩, Lib.hid ⟨HVX.out, HVY.out⟩⟩
                  exact AllReadyH.nil
                refine AllReadyH.cons (by simp only [List.getElem?_toArray, List.getElem?_cons_succ, List.getElem?_cons_zero]; rfl) (fun K hK => ?_) ?_
                · go_simp
                  have hb : Below X.heap.size X (X.alloc (.cells #[.int .i64 0, .int .i64 0, .int .i64 0, .int .i64 0] 55)) := (Below.refl _ _).alloc (Nat.le_refl _) _
                  have K13 := Lib.hid (Blk.new X 55 #[.int .i64 0, .int .i64 0, .int .i64 0, .int .i64 0])
                  have h13 : gd < X.heap.size := HD.out.kd.lt
                  have hneg13 : g12 ≠ X.heap.size := Nat.ne_of_lt K12.out.lt
                  replace HS := Lib.hid (HS.out.call hb)
                  replace HD := Lib.hid (HD.out.keep hb (by omega))
                  replace K12 := Lib.hid (K12.out.below hb K12.out.lt)
                  clear hb
                  generalize X.heap.size = g13 at *
                  generalize World.alloc X _ = X at *
                  refine hK.out _ _ ⟨HS.out.k5, HS.out.k6⟩ (fun hH39 => ?_)
                  clear hK K
                  try simp only [List.setIfInBounds_toArray, List.set_cons_zero, List.set_cons_succ]
                  refine wpAnyH_ready (rs := [2]) (by kernel_rfl) (by simp) ?_
                  refine AllReadyH.cons (by simp only [List.getElem?_toArray, List.getElem?_cons_succ, List.getElem?_cons_zero]; rfl) (fun K hK => ?_) AllReadyH.nil
                  go_simp
                  refine (HRL.out 0 a _ (by omega) HI.out.2.1 HD.out).mono ?_
                  rintro e X ⟨xt, xd, xs, xp, rfl, hv, hD, hK, hb⟩
                  have HVX := Lib.hid hv
                  replace HD := Lib.hid hD
                  replace HS := Lib.hid (HS.out.low hb hgd)
                  replace K12 := Lib.hid (K12.out.keep1 hK (by omega))
                  replace K13 := Lib.hid (K13.out.keep1 hK (by omega))
                  clear hv hD hK hb
                  refine hK.out _ _ ⟨HS.out.k5, HS.out.k6⟩ (fun hH40 => ?_)
                  clear hK K
                  try simp only [List.setIfInBounds_toArray, List.set_cons_zero, List.set_cons_succ]
                  refine wpAnyH_ready (rs := [5]) (by kernel_rfl) (by simp) ?_
                  refine AllReadyH.cons (by simp only [List.getElem?_toArray, List.getElem?_cons_succ, List.getElem?_cons_zero]; rfl) (fun K hK => ?_) AllReadyH.nil
                  go_simp
                  refine (HRL.out (0 + 1 + 1 + 1 + 1) b _ (by omega) HI.out.2.2 HD.out).mono ?_
                  rintro e X ⟨yt, yd, yv, yp, rfl, hv, hD, hK, hb⟩
                  have HVY := Lib.hid hv
                  replace HD := Lib.hid hD
                  replace HS := Lib.hid (HS.out.low hb hgd)
                  replace K12 := Lib.hid (K12.out.keep1 hK (by omega))
                  replace K13 := Lib.hid (K13.out.keep1 hK (by omega))
                  clear hv hD hK hb
                  refine hK.out _ _ ⟨HS.out.k5, HS.out.k6⟩ (fun hH41 => ?_)
                  clear hK K
                  try simp only [List.setIfInBounds_toArray, List.set_cons_zero, List.set_cons_succ]
                  refine wpAnyH_ready (rs := [8]) (by kernel_rfl) (by simp) ?_
                  refine AllReadyH.cons (by simp only [List.getElem?_toArray, List.getElem?_cons_succ, List.getElem?_cons_zero]; rfl) (fun K hK => ?_) AllReadyH.nil
                  rw [if_pos (by rfl)]
                  refine wp_store_row 55 (.tmp 12) (.tmp 61) (by rfl) g12 #[.int .i64 xt, .int .i64 xd, .int .i64 xs, .int .i64 xp] (by rfl) (by rfl) 55 _ K12.out (by kernel_rfl) (by rfl) (by kernel_rfl) ?_
                  have hb9 : Below (gd + 1) X (X.setRow g12 #[.int .i64 xt, .int .i64 xd, .int .i64 xs, .int .i64 xp]) := below_setRow (Below.refl _ _) (by omega) _
                  replace HS := Lib.hid (HS.out.low hb9 (by omega))
                  replace HD := Lib.hid (HD.out.low hb9 (by omega) (by omega))
                  replace K12 := Lib.hid (K12.out.row #[.int .i64 xt, .int .i64 xd, .int .i64 xs, .int .i64 xp])
                  replace K13 := Lib.hid (blk_rowfar (r := #[.int .i64 xt, .int .i64 xd, .int .i64 xs, .int .i64 xp]) (show g13 ≠ g12 by omega) K13.out)
                  clear hb9
                  generalize World.setRow X _ _ = X at *
                  refine hK.out _ _ ⟨HS.out.k5, HS.out.k6⟩ (fun hH42 => ?_)
                  clear hK K
                  try simp only [List.setIfInBounds_toArray, List.set_cons_zero, List.set_cons_succ]
                  refine wpAnyH_ready (rs := [9]) (by kernel_rfl) (by simp) ?_
                  refine AllReadyH.cons (by simp only [List.getElem?_toArray, List.getElem?_cons_succ, List.getElem?_cons_zero]; rfl) (fun K hK => ?_) AllReadyH.nil
                  rw [if_pos (by rfl)]
                  refine wp_store_row 55 (.tmp 13) (.tmp 64) (by rfl) g13 #[.int .i64 yt, .int .i64 yd, .int .i64 yv, .int .i64 yp] (by rfl) (by rfl) 55 _ K13.out (by kernel_rfl) (by rfl) (by kernel_rfl) ?_
                  have hb9 : Below (gd + 1) X (X.setRow g13 #[.int .i64 yt, .int .i64 yd, .int .i64 yv, .int .i64 yp]) := below_setRow (Below.refl _ _) (by omega) _
                  replace HS := Lib.hid (HS.out.low hb9 (by omega))
                  replace HD := Lib.hid (HD.out.low hb9 (by omega) (by omega))
                  replace K13 := Lib.hid (K13.out.row #[.int .i64 yt, .int .i64 yd, .int .i64 yv, .int .i64 yp])
                  replace K12 := Lib.hid (blk_rowfar (r := #[.int .i64 yt, .int .i64 yd, .int .i64 yv, .int .i64 yp]) (show g12 ≠ g13 by omega) K12.out)
                  clear hb9
                  generalize World.setRow X _ _ = X at *
                  refine hK.out _ _ ⟨HS.out.k5, HS.out.k6⟩ (fun hH43 => ?_)
                  clear hK K
                  try simp only [List.setIfInBounds_toArray, List.set_cons_zero, List.set_cons_succ]
                  refine wpAnyH_done (by kernel_rfl) ?_ _
                  go_wp2_with fail
                  go_meet
                  exact ⟨g12, g13, xt, xd, xs, xp, yt, yd, yv, yp, rfl, rfl, HS, HD, K12, K13, Lib.hid ⟨h12, h13⟩, Lib.hid ⟨HVX.out, HVY.out⟩⟩
                exact AllReadyH.nil
              refine AllReadyH.cons (by simp only [List.getElem?_toArray, List.getElem?_cons_succ, List.getElem?_cons_zero]; rfl) (fun K hK => ?_) ?_
              · go_simp
                have hb : Below V0.heap.size V0 (V0.alloc (.cells #[.int .i64 0, .int .i64 0, .int .i64 0, .int .i64 0] 55)) := (Below.refl _ _).alloc (Nat.le_refl _) _
                have K13 := Lib.hid (Blk.new V0 55 #[.int .i64 0, .int .i64 0, .int .i64 0, .int .i64 0])
                have h13 : gd < V0.heap.size := HD.out.kd.lt
                replace HS := Lib.hid (HS.out.call hb)
                replace HD := Lib.hid (HD.out.keep hb (by omega))
                clear hb
                generalize V0.heap.size = g13 at *
                generalize World.alloc V0 _ = X at *
                refine hK.out _ _ ⟨HS.out.k5, HS.out.k6⟩ (fun hH44 => ?_)
                clear hK K
                try simp only [List.setIfInBounds_toArray, List.set_cons_zero, List.set_cons_succ]
                refine wpAnyH_ready (rs := [2, 6]) (by kernel_rfl) (by simp) ?_
                refine AllReadyH.cons (by simp only [List.getElem?_toArray, List.getElem?_cons_succ, List.getElem?_cons_zero]; rfl) (fun K hK => ?_) ?_
                · go_simp
                  refine (HRL.out 0 a _ (by omega) HI.out.2.1 HD.out).mono ?_
                  rintro e X ⟨xt, xd, xs, xp, rfl, hv, hD, hK, hb⟩
                  have HVX := Lib.hid hv
                  replace HD := Lib.hid hD
                  replace HS := Lib.hid (HS.out.low hb hgd)
                  replace K13 := Lib.hid (K13.out.keep1 hK (by omega))
                  clear hv hD hK hb
                  refine hK.out _ _ ⟨HS.out.k5, HS.out.k6⟩ (fun hH45 => ?_)
                  clear hK K
                  try simp only [List.setIfInBounds_toArray, List.set_cons_zero, List.set_cons_succ]
                  refine wpAnyH_ready (rs := [5, 6]) (by kernel_rfl) (by simp) ?_
                  refine AllReadyH.cons (by simp only [List.getElem?_toArray, List.getElem?_cons_succ, List.getElem?_cons_zero]; rfl) (fun K hK => ?_) ?_
                  · go_simp
                    refine (HRL.out (0 + 1 + 1 + 1 + 1) b _ (by omega) HI.out.2.2 HD.out).mono ?_
                    rintro e X ⟨yt, yd, yv, yp, rfl, hv, hD, hK, hb⟩
                    have HVY := Lib.hid hv
                    replace HD := Lib.hid hD
                    replace HS := Lib.hid (HS.out.low hb hgd)
                    replace K13 := Lib.hid (K13.out.keep1 hK (by omega))
                    clear hv hD hK hb
                    refine hK.out _ _ ⟨HS.out.k5, HS.out.k6⟩ (fun hH46 => ?_)
                    clear hK K
                    try simp only [List.setIfInBounds_toArray, List.set_cons_zero, List.set_cons_succ]
                    refine wpAnyH_ready (rs := [6]) (by kernel_rfl) (by simp) ?_
                    refine AllReadyH.cons (by simp only [List.getElem?_toArray, List.getElem?_cons_succ, List.getElem?_cons_zero]; rfl) (fun K hK => ?_) AllReadyH.nil
                    go_simp
                    have hb : Below X.heap.size X (X.alloc (.cells #[.int .i64 0, .int .i64 0, .int .i64 0, .int .i64 0] 55)) := (Below.refl _ _).alloc (Nat.le_refl _) _
                    have K12 := Lib.hid (Blk.new X 55 #[.int .i64 0, .int .i64 0, .int .i64 0, .int .i64 0])
                    have h12 : gd < X.heap.size := HD.out.kd.lt
                    have hneg12 : g13 ≠ X.heap.size := Nat.ne_of_lt K13.out.lt
                    replace HS := Lib.hid (HS.out.call hb)
                    replace HD := Lib.hid (HD.out.keep hb (by omega))
                    replace K13 := Lib.hid (K13.out.below hb K13.out.lt)
                    clear hb
                    generalize X.heap.size = g12 at *
                    generalize World.alloc X _ = X at *
                    refine hK.out _ _ ⟨HS.out.k5, HS.out.k6⟩ (fun hH47 => ?_)
                    clear hK K
                    try simp only [List.setIfInBounds_toArray, List.set_cons_zero, List.set_cons_succ]
                    refine wpAnyH_ready (rs := [8]) (by kernel_rfl) (by simp) ?_
                    refine AllReadyH.cons (by simp only [List.getElem?_toArray, List.getElem?_cons_succ, List.getElem?_cons_zero]; rfl) (fun K hK => ?_) AllReadyH.nil
                    rw [if_pos (by rfl)]
                    refine wp_store_row 55 (.tmp 12) (.tmp 61) (by rfl) g12 #[.int .i64 xt, .int .i64 xd, .int .i64 xs, .int .i64 xp] (by rfl) (by rfl) 55 _ K12.out (by kernel_rfl) (by rfl) (by kernel_rfl) ?_
                    have hb9 : Below (gd + 1) X (X.setRow g12 #[.int .i64 xt, .int .i64 xd, .int .i64 xs, .int .i64 xp]) := below_setRow (Below.refl _ _) (by omega) _
                    replace HS := Lib.hid (HS.out.low hb9 (by omega))
                    replace HD := Lib.hid (HD.out.low hb9 (by omega) (by omega))
                    replace K12 := Lib.hid (K12.out.row #[.int .i64 xt, .int .i64 xd, .int .i64 xs, .int .i64 xp])
                    replace K13 := Lib.hid (blk_rowfar (r := #[.int .i64 xt, .int .i64 xd, .int .i64 xs, .int .i64 xp]) (show g13 ≠ g12 by omega) K13.out)
                    clear hb9
                    generalize World.setRow X _ _ = X at *
                    refine hK.out _ _ ⟨HS.out.k5, HS.out.k6⟩ (fun hH48 => ?_)
                    clear hK K
                    try simp only [List.setIfInBounds_toArray, List.set_cons_zero, List.set_cons_succ]
                    refine wpAnyH_ready (rs := [9]) (by kernel_rfl) (by simp) ?_
                    refine AllReadyH.cons (by simp only [List.getElem?_toArray, List.getElem?_cons_succ, List.getElem?_cons_zero]; rfl) (fun K hK => ?_) AllReadyH.nil
                    rw [if_pos (by rfl)]
                    refine wp_store_row 55 (.tmp 13) (.tmp 64) (by rfl) g13 #[.int .i64 yt, .int .i64 yd, .int .i64 yv, .int .i64 yp] (by rfl) (by rfl) 55 _ K13.out (by kernel_rfl) (by rfl) (by kernel_rfl) ?_
                    have hb9 : Below (gd + 1) X (X.setRow g13 #[.int .i64 yt, .int .i64 yd, .int .i64 yv, .int .i64 yp]) := below_setRow (Below.refl _ _) (by omega) _
                    replace HS := Lib.hid (HS.out.low hb9 (by omega))
                    replace HD := Lib.hid (HD.out.low hb9 (by omega) (by omega))
                    replace K13 := Lib.hid (K13.out.row #[.int .i64 yt, .int .i64 yd, .int .i64 yv, .int .i64 yp])
                    replace K12 := Lib.hid (blk_rowfar (r := #[.int .i64 yt, .int .i64 yd, .int .i64 yv, .int .i64 yp]) (show g12 ≠ g13 by omega) K12.out)
                    clear hb9
                    generalize World.setRow X _ _ = X at *
                    refine hK.out _ _ ⟨HS.out.k5, HS.out.k6⟩ (fun hH49 => ?_)
                    clear hK K
                    try simp only [List.setIfInBounds_toArray, List.set_cons_zero, List.set_cons_succ]
                    refine wpAnyH_done (by kernel_rfl) ?_ _
                    go_wp2_with fail
                    go_meet
                    exact ⟨g12, g13, xt, xd, xs, xp, yt, yd, yv, yp, rfl, rfl, HS, HD, K12, K13, Lib.hid ⟨h12, h13⟩, Lib.hid ⟨HVX.out, HVY.out⟩⟩
                  refine AllReadyH.cons (by simp only [List.getElem?_toArray, List.getElem?_cons_succ, List.getElem?_cons_zero]; rfl) (fun K hK => ?_) ?_
                  · go_simp
                    have hb : Below X.heap.size X (X.alloc (.cells #[.int .i64 0, .int .i64 0, .int .i64 0, .int .i64 0] 55)) := (Below.refl _ _).alloc (Nat.le_refl _) _
                    have K12 := Lib.hid (Blk.new X 55 #[.int .i64 0, .int .i64 0, .int .i64 0, .int .i64 0])
                    have h12 : gd < X.heap.size := HD.out.kd.lt
                    have hneg12 : g13 ≠ X.heap.size := Nat.ne_of_lt K13.out.lt
                    replace HS := Lib.hid (HS.out.call hb)
                    replace HD := Lib.hid (HD.out.keep hb (by omega))
                    replace K13 := Lib.hid (K13.out.below hb K13.out.lt)
                    clear hb
                    generalize X.heap.size = g12 at *
                    generalize World.alloc X _ = X at *
                    refine hK.out _ _ ⟨HS.out.k5, HS.out.k6⟩ (fun hH50 => ?_)
                    clear hK K
                    try simp only [List.setIfInBounds_toArray, List.set_cons_zero, List.set_cons_succ]
                    refine wpAnyH_ready (rs := [5]) (by kernel_rfl) (by simp) ?_
                    refine AllReadyH.cons (by simp only [List.getElem?_toArray, List.getElem?_cons_succ, List.getElem?_cons_zero]; rfl) (fun K hK => ?_) AllReadyH.nil
                    go_simp
                    refine (HRL.out (0 + 1 + 1 + 1 + 1) b _ (by omega) HI.out.2.2 HD.out).mono ?_
                    rintro e X ⟨yt, yd, yv, yp, rfl, hv, hD, hK, hb⟩
                    have HVY := Lib.hid hv
                    replace HD := Lib.hid hD
                    replace HS := Lib.hid (HS.out.low hb hgd)
                    replace K12 := Lib.hid (K12.out.keep1 hK (by omega))
                    replace K13 := Lib.hid (K13.out.keep1 hK (by omega))
                    clear hv hD hK hb
                    refine hK.out _ _ ⟨HS.out.k5, HS.out.k6⟩ (fun hH51 => ?_)
                    clear hK K
                    try simp only [List.setIfInBounds_toArray, List.set_cons_zero, List.set_cons_succ]
                    refine wpAnyH_ready (rs := [8]) (by kernel_rfl) (by simp) ?_
                    refine AllReadyH.cons (by simp only [List.getElem?_toArray, List.getElem?_cons_succ, List.getElem?_cons_zero]; rfl) (fun K hK => ?_) AllReadyH.nil
                    rw [if_pos (by rfl)]
                    refine wp_store_row 55 (.tmp 12) (.tmp 61) (by rfl) g12 #[.int .i64 xt, .int .i64 xd, .int .i64 xs, .int .i64 xp] (by rfl) (by rfl) 55 _ K12.out (by kernel_rfl) (by rfl) (by kernel_rfl) ?_
                    have hb9 : Below (gd + 1) X (X.setRow g12 #[.int .i64 xt, .int .i64 xd, .int .i64 xs, .int .i64 xp]) := below_setRow (Below.refl _ _) (by omega) _
                    replace HS := Lib.hid (HS.out.low hb9 (by omega))
                    replace HD := Lib.hid (HD.out.low hb9 (by omega) (by omega))
                    replace K12 := Lib.hid (K12.out.row #[.int .i64 xt, .int .i64 xd, .int .i64 xs, .int .i64 xp])
                    replace K13 := Lib.hid (blk_rowfar (r := #[.int .i64 xt, .int .i64 xd, .int .i64 xs, .int .i64 xp]) (show g13 ≠ g12 by omega) K13.out)
                    clear hb9
                    generalize World.setRow X _ _ = X at *
                    refine hK.out _ _ ⟨HS.out.k5, HS.out.k6⟩ (fun hH52 => ?_)
                    clear hK K
                    try simp only [List.setIfInBounds_toArray, List.set_cons_zero, List.set_cons_succ]
                    refine wpAnyH_ready (rs := [9]) (by kernel_rfl) (by simp) ?_
                    refine AllReadyH.cons (by simp only [List.getElem?_toArray, List.getElem?_cons_succ, List.getElem?_cons_zero]; rfl) (fun K hK => ?_) AllReadyH.nil
                    rw [if_pos (by rfl)]
                    refine wp_store_row 55 (.tmp 13) (.tmp 64) (by rfl) g13 #[.int .i64 yt, .int .i64 yd, .int .i64 yv, .int .i64 yp] (by rfl) (by rfl) 55 _ K13.out (by kernel_rfl) (by rfl) (by kernel_rfl) ?_
                    have hb9 : Below (gd + 1) X (X.setRow g13 #[.int .i64 yt, .int .i64 yd, .int .i64 yv, .int .i64 yp]) := below_setRow (Below.refl _ _) (by omega) _
                    replace HS := Lib.hid (HS.out.low hb9 (by omega))
                    replace HD := Lib.hid (HD.out.low hb9 (by omega) (by omega))
                    replace K13 := Lib.hid (K13.out.row #[.int .i64 yt, .int .i64 yd, .int .i64 yv, .int .i64 yp])
                    replace K12 := Lib.hid (blk_rowfar (r := #[.int .i64 yt, .int .i64 yd, .int .i64 yv, .int .i64 yp]) (show g12 ≠ g13 by omega) K12.out)
                    clear hb9
                    generalize World.setRow X _ _ = X at *
                    refine hK.out _ _ ⟨HS.out.k5, HS.out.k6⟩ (fun hH53 => ?_)
                    clear hK K
                    try simp only [List.setIfInBounds_toArray, List.set_cons_zero, List.set_cons_succ]
                    refine wpAnyH_done (by kernel_rfl) ?_ _
                    go_wp2_with fail
                    go_meet
                    exact ⟨g12, g13, xt, xd, xs, xp, yt, yd, yv, yp, rfl, rfl, HS, HD, K12, K13, Lib.hid ⟨h12, h13⟩, Lib.hid ⟨HVX.out, HVY.out⟩⟩
                  exact AllReadyH.nil
                refine AllReadyH.cons (by simp only [List.getElem?_toArray, List.getElem?_cons_succ, List.getElem?_cons_zero]; rfl) (fun K hK => ?_) ?_
                · go_simp
                  have hb : Below X.heap.size X (X.alloc (.cells #[.int .i64 0, .int .i64 0, .int .i64 0, .int .i64 0] 55)) := (Below.refl _ _).alloc (Nat.le_refl _) _
                  have K12 := Lib.hid (Blk.new X 55 #[.int .i64 0, .int .i64 0, .int .i64 0, .int .i64 0])
                  have h12 : gd < X.heap.size := HD.out.kd.lt
                  have hneg12 : g13 ≠ X.heap.size := Nat.ne_of_lt K13.out.lt
                  replace HS := Lib.hid (HS.out.call hb)
                  replace HD := Lib.hid (HD.out.keep hb (by omega))
                  replace K13 := Lib.hid (K13.out.below hb K13.out.lt)
                  clear hb
                  generalize X.heap.size = g12 at *
                  generalize World.alloc X _ = X at *
                  refine hK.out _ _ ⟨HS.out.k5, HS.out.k6⟩ (fun hH54 => ?_)
                  clear hK K
                  try simp only [List.setIfInBounds_toArray, List.set_cons_zero, List.set_cons_succ]
                  refine wpAnyH_ready (rs := [2]) (by kernel_rfl) (by simp) ?_
                  refine AllReadyH.cons (by simp only [List.getElem?_toArray, List.getElem?_cons_succ, List.getElem?_cons_zero]; rfl) (fun K hK => ?_) AllReadyH.nil
                  go_simp
                  refine (HRL.out 0 a _ (by omega) HI.out.2.1 HD.out).mono ?_
                  rintro e X ⟨xt, xd, xs, xp, rfl, hv, hD, hK, hb⟩
                  have HVX := Lib.hid hv
                  replace HD := Lib.hid hD
                  replace HS := Lib.hid (HS.out.low hb hgd)
                  replace K12 := Lib.hid (K12.out.keep1 hK (by omega))
                  replace K13 := Lib.hid (K13.out.keep1 hK (by omega))
                  clear hv hD hK hb
                  refine hK.out _ _ ⟨HS.out.k5, HS.out.k6⟩ (fun hH55 => ?_)
                  clear hK K
                  try simp only [List.setIfInBounds_toArray, List.set_cons_zero, List.set_cons_succ]
                  refine wpAnyH_ready (rs := [5]) (by kernel_rfl) (by simp) ?_
                  refine AllReadyH.cons (by simp only [List.getElem?_toArray, List.getElem?_cons_succ, List.getElem?_cons_zero]; rfl) (fun K hK => ?_) AllReadyH.nil
                  go_simp
                  refine (HRL.out (0 + 1 + 1 + 1 + 1) b _ (by omega) HI.out.2.2 HD.out).mono ?_
                  rintro e X ⟨yt, yd, yv, yp, rfl, hv, hD, hK, hb⟩
                  have HVY := Lib.hid hv
                  replace HD := Lib.hid hD
                  replace HS := Lib.hid (HS.out.low hb hgd)
                  replace K12 := Lib.hid (K12.out.keep1 hK (by omega))
                  replace K13 := Lib.hid (K13.out.keep1 hK (by omega))
                  clear hv hD hK hb
                  refine hK.out _ _ ⟨HS.out.k5, HS.out.k6⟩ (fun hH56 => ?_)
                  clear hK K
                  try simp only [List.setIfInBounds_toArray, List.set_cons_zero, List.set_cons_succ]
                  refine wpAnyH_ready (rs := [8]) (by kernel_rfl) (by simp) ?_
                  refine AllReadyH.cons (by simp only [List.getElem?_toArray, List.getElem?_cons_succ, List.getElem?_cons_zero]; rfl) (fun K hK => ?_) AllReadyH.nil
                  rw [if_pos (by rfl)]
                  refine wp_store_row 55 (.tmp 12) (.tmp 61) (by rfl) g12 #[.int .i64 xt, .int .i64 xd, .int .i64 xs, .int .i64 xp] (by rfl) (by rfl) 55 _ K12.out (by kernel_rfl) (by rfl) (by kernel_rfl) ?_
                  have hb9 : Below (gd + 1) X (X.setRow g12 #[.int .i64 xt, .int .i64 xd, .int .i64 xs, .int .i64 xp]) := below_setRow (Below.refl _ _) (by omega) _
                  replace HS := Lib.hid (HS.out.low hb9 (by omega))
                  replace HD := Lib.hid (HD.out.low hb9 (by omega) (by omega))
                  replace K12 := Lib.hid (K12.out.row #[.int .i64 xt, .int .i64 xd, .int .i64 xs, .int .i64 xp])
                  replace K13 := Lib.hid (blk_rowfar (r := #[.int .i64 xt, .int .i64 xd, .int .i64 xs, .int .i64 xp]) (show g13 ≠ g12 by omega) K13.out)
                  clear hb9
                  generalize World.setRow X _ _ = X at *
                  refine hK.out _ _ ⟨HS.out.k5, HS.out.k6⟩ (fun hH57 => ?_)
                  clear hK K
                  try simp only [List.setIfInBounds_toArray, List.set_cons_zero, List.set_cons_succ]
                  refine wpAnyH_ready (rs := [9]) (by kernel_rfl) (by simp) ?_
                  refine AllReadyH.cons (by simp only [List.getElem?_toArray, List.getElem?_cons_succ, List.getElem?_cons_zero]; rfl) (fun K hK => ?_) AllReadyH.nil
                  rw [if_pos (by rfl)]
                  refine wp_store_row 55 (.tmp 13) (.tmp 64) (by rfl) g13 #[.int .i64 yt, .int .i64 yd, .int .i64 yv, .int .i64 yp] (by rfl) (by rfl) 55 _ K13.out (by kernel_rfl) (by rfl) (by kernel_rfl) ?_
                  have hb9 : Below (gd + 1) X (X.setRow g13 #[.int .i64 yt, .int .i64 yd, .int .i64 yv, .int .i64 yp]) := below_setRow (Below.refl _ _) (by omega) _
                  replace HS := Lib.hid (HS.out.low hb9 (by omega))
                  replace HD := Lib.hid (HD.out.low hb9 (by omega) (by omega))
                  replace K13 := Lib.hid (K13.out.row #[.int .i64 yt, .int .i64 yd, .int .i64 yv, .int .i64 yp])
                  replace K12 := Lib.hid (blk_rowfar (r := #[.int .i64 yt, .int .i64 yd, .int .i64 yv, .int .i64 yp]) (show g12 ≠ g13 by omega) K12.out)
                  clear hb9
                  generalize World.setRow X _ _ = X at *
                  refine hK.out _ _ ⟨HS.out.k5, HS.out.k6⟩ (fun hH58 => ?_)
                  clear hK K
                  try simp only [List.setIfInBounds_toArray, List.set_cons_zero, List.set_cons_succ]
                  refine wpAnyH_done (by kernel_rfl) ?_ _
                  go_wp2_with fail
                  go_meet
                  exact ⟨g12, g13, xt, xd, xs, xp, yt, yd, yv, yp, rfl, rfl, HS, HD, K12, K13, Lib.hid ⟨h12, h13⟩, Lib.hid ⟨HVX.out, HVY.out⟩⟩
                exact AllReadyH.nil
              exact AllReadyH.nil
            case rest => as_aux_lemma =>
              obtain ⟨g12, g13, xt, xd, xs, xp, yt, yd, yv, yp, rfl, rfl, HS, HD, K12, K13, HGG, HBD⟩ := hcut
              clear HRL
              go_upto_region 5 with fail
              replace HS := Lib.hid (HS.out.call (Below.refl _ _).drew)
              replace K12 := Lib.hid (K12.out.below (Below.refl _ _).drew K12.out.lt)
              replace K13 := Lib.hid (K13.out.below (Below.refl _ _).drew K13.out.lt)
              replace HD := Lib.hid (HD.out.keep (Below.refl _ _).drew (by have := HD.out.kd.lt; omega))
              obtain ⟨jg0, jg1, jg2, jl0, jl1, jl2, js0, js1, js2, jh0, jh1, jh2, -, -, -, -⟩ := HI.out.1
              obtain ⟨h12, h13⟩ := HGG.out
              refine wp_region_held_drew (S := fun W9 => Blk W9 w.heap.size 25 #[.int .i64 j.glue.lo, .int .i64 j.glue.hi, .int .i64 j.lead.lo, .int .i64 j.lead.hi, .int .i64 j.side.lo, .int .i64 j.side.hi, .int .i64 j.height.lo, .int .i64 j.height.hi, .int .i64 j.play, .int .i64 j.grooves]) (by kernel_rfl) HS.out.k4 (fun hH0 => ?_)
              generalize World.drew _ = V0 at *
              simp only [List.size_toArray, List.length_cons, List.length_nil, Nat.reduceAdd, Array.replicate_succ, Array.replicate_zero, List.push_toArray, List.nil_append, List.cons_append]
              refine wpAnyH_take (i := 0 ) (v := ?_) rfl (by kernel_rfl) (by kernel_rfl) (by kernel_rfl) (fun _ _ _ h => h) (Or.inl ⟨by rfl, ?_⟩) (by assumption) ?_; rotate_left; (· (intro w0 hSw; have a0 := hSw.cell 0; have a1 := hSw.cell 1; have a2 := hSw.cell 2; have a3 := hSw.cell 3; have a4 := hSw.cell 4; have a5 := hSw.cell 5; have a6 := hSw.cell 6; have a7 := hSw.cell 7; clear hSw; go_simp); first | done | with_reducible rfl); (try simp only [Act.put, List.getElem_toArray, List.getElem_cons_zero, List.setIfInBounds_toArray, List.set_cons_zero, List.set_cons_succ])
              refine wpAnyH_take (i := 1 ) (v := ?_) rfl (by kernel_rfl) (by kernel_rfl) (by kernel_rfl) (fun _ _ _ h => h) (Or.inl ⟨by rfl, ?_⟩) (by assumption) ?_; rotate_left; (· (intro w0 hSw; have a0 := hSw.cell 0; have a1 := hSw.cell 1; have a2 := hSw.cell 2; have a3 := hSw.cell 3; have a4 := hSw.cell 4; have a5 := hSw.cell 5; have a6 := hSw.cell 6; have a7 := hSw.cell 7; clear hSw; go_simp); first | done | with_reducible rfl); (try simp only [Act.put, List.getElem_toArray, List.getElem_cons_succ, List.getElem_cons_zero, List.setIfInBounds_toArray, List.set_cons_zero, List.set_cons_succ])
              refine wpAnyH_take (i := 2 ) (v := ?_) rfl (by kernel_rfl) (by kernel_rfl) (by kernel_rfl) (fun _ _ _ h => h) (Or.inl ⟨by rfl, ?_⟩) (by assumption) ?_; rotate_left; (· (intro w0 hSw; have a0 := hSw.cell 0; have a1 := hSw.cell 1; have a2 := hSw.cell 2; have a3 := hSw.cell 3; have a4 := hSw.cell 4; have a5 := hSw.cell 5; have a6 := hSw.cell 6; have a7 := hSw.cell 7; clear hSw; go_simp); first | done | with_reducible rfl); (try simp only [Act.put, List.getElem_toArray, List.getElem_cons_succ, List.getElem_cons_zero, List.setIfInBounds_toArray, List.set_cons_zero, List.set_cons_succ])
              refine wpAnyH_take (i := 4 ) (v := ?_) rfl (by kernel_rfl) (by kernel_rfl) (by kernel_rfl) (fun _ _ _ h => h) (Or.inl ⟨by rfl, ?_⟩) (by assumption) ?_; rotate_left; (· (intro w0 hSw; have a0 := hSw.cell 0; have a1 := hSw.cell 1; have a2 := hSw.cell 2; have a3 := hSw.cell 3; have a4 := hSw.cell 4; have a5 := hSw.cell 5; have a6 := hSw.cell 6; have a7 := hSw.cell 7; clear hSw; go_simp); first | done | with_reducible rfl); (try simp only [Act.put, List.getElem_toArray, List.getElem_cons_succ, List.getElem_cons_zero, List.setIfInBounds_toArray, List.set_cons_zero, List.set_cons_succ])
              refine wpAnyH_take (i := 5 ) (v := ?_) rfl (by kernel_rfl) (by kernel_rfl) (by kernel_rfl) (fun _ _ _ h => h) (Or.inl ⟨by rfl, ?_⟩) (by assumption) ?_; rotate_left; (· (intro w0 hSw; have a0 := hSw.cell 0; have a1 := hSw.cell 1; have a2 := hSw.cell 2; have a3 := hSw.cell 3; have a4 := hSw.cell 4; have a5 := hSw.cell 5; have a6 := hSw.cell 6; have a7 := hSw.cell 7; clear hSw; go_simp); first | done | with_reducible rfl); (try simp only [Act.put, List.getElem_toArray, List.getElem_cons_succ, List.getElem_cons_zero, List.setIfInBounds_toArray, List.set_cons_zero, List.set_cons_succ])
              refine wpAnyH_take (i := 6 ) (v := ?_) rfl (by kernel_rfl) (by kernel_rfl) (by kernel_rfl) (fun _ _ _ h => h) (Or.inl ⟨by rfl, ?_⟩) (by assumption) ?_; rotate_left; (· (intro w0 hSw; have a0 := hSw.cell 0; have a1 := hSw.cell 1; have a2 := hSw.cell 2; have a3 := hSw.cell 3; have a4 := hSw.cell 4; have a5 := hSw.cell 5; have a6 := hSw.cell 6; have a7 := hSw.cell 7; clear hSw; go_simp); first | done | with_reducible rfl); (try simp only [Act.put, List.getElem_toArray, List.getElem_cons_succ, List.getElem_cons_zero, List.setIfInBounds_toArray, List.set_cons_zero, List.set_cons_succ])
              refine wpAnyH_take (i := 8 ) (v := ?_) rfl (by kernel_rfl) (by kernel_rfl) (by kernel_rfl) (fun _ _ _ h => h) (Or.inl ⟨by rfl, ?_⟩) (by assumption) ?_; rotate_left; (· (intro w0 hSw; have a0 := hSw.cell 0; have a1 := hSw.cell 1; have a2 := hSw.cell 2; have a3 := hSw.cell 3; have a4 := hSw.cell 4; have a5 := hSw.cell 5; have a6 := hSw.cell 6; have a7 := hSw.cell 7; clear hSw; go_simp); first | done | with_reducible rfl); (try simp only [Act.put, List.getElem_toArray, List.getElem_cons_succ, List.getElem_cons_zero, List.setIfInBounds_toArray, List.set_cons_zero, List.set_cons_succ])
              refine wpAnyH_take (i := 9 ) (v := ?_) rfl (by kernel_rfl) (by kernel_rfl) (by kernel_rfl) (fun _ _ _ h => h) (Or.inl ⟨by rfl, ?_⟩) (by assumption) ?_; rotate_left; (· (intro w0 hSw; have a0 := hSw.cell 0; have a1 := hSw.cell 1; have a2 := hSw.cell 2; have a3 := hSw.cell 3; have a4 := hSw.cell 4; have a5 := hSw.cell 5; have a6 := hSw.cell 6; have a7 := hSw.cell 7; clear hSw; go_simp); first | done | with_reducible rfl); (try simp only [Act.put, List.getElem_toArray, List.getElem_cons_succ, List.getElem_cons_zero, List.setIfInBounds_toArray, List.set_cons_zero, List.set_cons_succ])
              refine wpAnyH_take (i := 10 ) (v := ?_) rfl (by kernel_rfl) (by kernel_rfl) (by kernel_rfl) (fun _ _ _ h => h) (Or.inl ⟨by rfl, ?_⟩) (by assumption) ?_; rotate_left; (· (intro w0 hSw; have a0 := hSw.cell 0; have a1 := hSw.cell 1; have a2 := hSw.cell 2; have a3 := hSw.cell 3; have a4 := hSw.cell 4; have a5 := hSw.cell 5; have a6 := hSw.cell 6; have a7 := hSw.cell 7; clear hSw; go_simp); first | done | with_reducible rfl); (try simp only [Act.put, List.getElem_toArray, List.getElem_cons_succ, List.getElem_cons_zero, List.setIfInBounds_toArray, List.set_cons_zero, List.set_cons_succ])
              refine wpAnyH_take (i := 12 ) (v := ?_) rfl (by kernel_rfl) (by kernel_rfl) (by kernel_rfl) (fun _ _ _ h => h) (Or.inl ⟨by rfl, ?_⟩) (by assumption) ?_; rotate_left; (· (intro w0 hSw; have a0 := hSw.cell 0; have a1 := hSw.cell 1; have a2 := hSw.cell 2; have a3 := hSw.cell 3; have a4 := hSw.cell 4; have a5 := hSw.cell 5; have a6 := hSw.cell 6; have a7 := hSw.cell 7; clear hSw; go_simp); first | done | with_reducible rfl); (try simp only [Act.put, List.getElem_toArray, List.getElem_cons_succ, List.getElem_cons_zero, List.setIfInBounds_toArray, List.set_cons_zero, List.set_cons_succ])
              refine wpAnyH_take (i := 13 ) (v := ?_) rfl (by kernel_rfl) (by kernel_rfl) (by kernel_rfl) (fun _ _ _ h => h) (Or.inl ⟨by rfl, ?_⟩) (by assumption) ?_; rotate_left; (· (intro w0 hSw; have a0 := hSw.cell 0; have a1 := hSw.cell 1; have a2 := hSw.cell 2; have a3 := hSw.cell 3; have a4 := hSw.cell 4; have a5 := hSw.cell 5; have a6 := hSw.cell 6; have a7 := hSw.cell 7; clear hSw; go_simp); first | done | with_reducible rfl); (try simp only [Act.put, List.getElem_toArray, List.getElem_cons_succ, List.getElem_cons_zero, List.setIfInBounds_toArray, List.set_cons_zero, List.set_cons_succ])
              refine wpAnyH_take (i := 14 ) (v := ?_) rfl (by kernel_rfl) (by kernel_rfl) (by kernel_rfl) (fun _ _ _ h => h) (Or.inl ⟨by rfl, ?_⟩) (by assumption) ?_; rotate_left; (· (intro w0 hSw; have a0 := hSw.cell 0; have a1 := hSw.cell 1; have a2 := hSw.cell 2; have a3 := hSw.cell 3; have a4 := hSw.cell 4; have a5 := hSw.cell 5; have a6 := hSw.cell 6; have a7 := hSw.cell 7; clear hSw; go_simp); first | done | with_reducible rfl); (try simp only [Act.put, List.getElem_toArray, List.getElem_cons_succ, List.getElem_cons_zero, List.setIfInBounds_toArray, List.set_cons_zero, List.set_cons_succ])
              refine wpAnyH_ready (rs := [3]) (by kernel_rfl) (by simp) ?_
              refine AllReadyH.cons (by simp only [List.getElem?_toArray, List.getElem?_cons_succ, List.getElem?_cons_zero]; rfl) (fun K hK => ?_) AllReadyH.nil
              go_simp
              refine (HOF1.out (0 + 1 + 1 + 1 + 1 + 1 + 1 + 1 + 1) j.glue.lo j.glue.hi _ (by omega) (by omega) (by omega) (by omega) HD.out).mono ?_
              rintro e X ⟨gl, rfl, hv, hD, hK, hb⟩
              have HV0 := Lib.hid hv
              replace HD := Lib.hid hD
              replace HS := Lib.hid (HS.out.low hb hgd)
              replace K12 := Lib.hid (K12.out.keep1 hK (by omega))
              replace K13 := Lib.hid (K13.out.keep1 hK (by omega))
              clear hv hD hK hb
              refine hK.out _ _ HS.out.k4 (fun hH1 => ?_)
              clear hK K
              try simp only [List.setIfInBounds_toArray, List.set_cons_zero, List.set_cons_succ]
              refine wpAnyH_ready (rs := [7]) (by kernel_rfl) (by simp) ?_
              refine AllReadyH.cons (by simp only [List.getElem?_toArray, List.getElem?_cons_succ, List.getElem?_cons_zero]; rfl) (fun K hK => ?_) AllReadyH.nil
              go_simp
              refine (HOF1.out (0 + 1 + 1 + 1 + 1 + 1 + 1 + 1 + 1 + 1) j.lead.lo j.lead.hi _ (by omega) (by omega) (by omega) (by omega) HD.out).mono ?_
              rintro e X ⟨ld, rfl, hv, hD, hK, hb⟩
              have HV1 := Lib.hid hv
              replace HD := Lib.hid hD
              replace HS := Lib.hid (HS.out.low hb hgd)
              replace K12 := Lib.hid (K12.out.keep1 hK (by omega))
              replace K13 := Lib.hid (K13.out.keep1 hK (by omega))
              clear hv hD hK hb
              refine hK.out _ _ HS.out.k4 (fun hH2 => ?_)
              clear hK K
              try simp only [List.setIfInBounds_toArray, List.set_cons_zero, List.set_cons_succ]
              refine wpAnyH_ready (rs := [11]) (by kernel_rfl) (by simp) ?_
              refine AllReadyH.cons (by simp only [List.getElem?_toArray, List.getElem?_cons_succ, List.getElem?_cons_zero]; rfl) (fun K hK => ?_) AllReadyH.nil
              go_simp
              refine (HOF1.out (0 + 1 + 1 + 1 + 1 + 1 + 1 + 1 + 1 + 1 + 1) j.side.lo j.side.hi _ (by omega) (by omega) (by omega) (by omega) HD.out).mono ?_
              rintro e X ⟨sd, rfl, hv, hD, hK, hb⟩
              have HV2 := Lib.hid hv
              replace HD := Lib.hid hD
              replace HS := Lib.hid (HS.out.low hb hgd)
              replace K12 := Lib.hid (K12.out.keep1 hK (by omega))
              replace K13 := Lib.hid (K13.out.keep1 hK (by omega))
              clear hv hD hK hb
              refine hK.out _ _ HS.out.k4 (fun hH3 => ?_)
              clear hK K
              try simp only [List.setIfInBounds_toArray, List.set_cons_zero, List.set_cons_succ]
              refine wpAnyH_ready (rs := [15]) (by kernel_rfl) (by simp) ?_
              refine AllReadyH.cons (by simp only [List.getElem?_toArray, List.getElem?_cons_succ, List.getElem?_cons_zero]; rfl) (fun K hK => ?_) AllReadyH.nil
              go_simp
              refine (HOF1.out (0 + 1 + 1 + 1 + 1 + 1 + 1 + 1 + 1 + 1 + 1 + 1) j.height.lo j.height.hi _ (by omega) (by omega) (by omega) (by omega) HD.out).mono ?_
              rintro e X ⟨ht, rfl, hv, hD, hK, hb⟩
              have HV3 := Lib.hid hv
              replace HD := Lib.hid hD
              replace HS := Lib.hid (HS.out.low hb hgd)
              replace K12 := Lib.hid (K12.out.keep1 hK (by omega))
              replace K13 := Lib.hid (K13.out.keep1 hK (by omega))
              clear hv hD hK hb
              refine hK.out _ _ HS.out.k4 (fun hH4 => ?_)
              clear hK K
              try simp only [List.setIfInBounds_toArray, List.set_cons_zero, List.set_cons_succ]
              refine wpAnyH_take (i := 16 ) (v := ?_) rfl (by kernel_rfl) (by kernel_rfl) (by kernel_rfl) (fun _ _ _ h => h) (Or.inl ⟨by rfl, ?_⟩) (by assumption) ?_; rotate_left; (· (intro w0 hSw; have a0 := hSw.cell 0; have a1 := hSw.cell 1; have a2 := hSw.cell 2; have a3 := hSw.cell 3; have a4 := hSw.cell 4; have a5 := hSw.cell 5; have a6 := hSw.cell 6; have a7 := hSw.cell 7; clear hSw; go_simp); first | done | with_reducible rfl); (try simp only [Act.put, List.getElem_toArray, List.getElem_cons_succ, List.getElem_cons_zero, List.setIfInBounds_toArray, List.set_cons_zero, List.set_cons_succ])
              refine wpAnyH_take (i := 17 ) (v := ?_) rfl (by kernel_rfl) (by kernel_rfl) (by kernel_rfl) (fun _ _ _ h => h) (Or.inl ⟨by rfl, ?_⟩) (by assumption) ?_; rotate_left; (· (intro w0 hSw; have a0 := hSw.cell 0; have a1 := hSw.cell 1; have a2 := hSw.cell 2; have a3 := hSw.cell 3; have a4 := hSw.cell 4; have a5 := hSw.cell 5; have a6 := hSw.cell 6; have a7 := hSw.cell 7; clear hSw; go_simp); first | done | with_reducible rfl); (try simp only [Act.put, List.getElem_toArray, List.getElem_cons_succ, List.getElem_cons_zero, List.setIfInBounds_toArray, List.set_cons_zero, List.set_cons_succ])
              refine wpAnyH_take (i := 18 ) (v := ?_) rfl (by kernel_rfl) (by kernel_rfl) (by kernel_rfl) (fun _ _ _ h => h) (Or.inl ⟨by rfl, ?_⟩) (by assumption) ?_; rotate_left; (· (intro w0 hSw; have a0 := hSw.cell 0; have a1 := hSw.cell 1; have a2 := hSw.cell 2; have a3 := hSw.cell 3; have a4 := hSw.cell 4; have a5 := hSw.cell 5; have a6 := hSw.cell 6; have a7 := hSw.cell 7; clear hSw; go_simp); first | done | with_reducible rfl); (try simp only [Act.put, List.getElem_toArray, List.getElem_cons_succ, List.getElem_cons_zero, List.setIfInBounds_toArray, List.set_cons_zero, List.set_cons_succ])
              refine wpAnyH_take (i := 19 ) (v := ?_) rfl (by kernel_rfl) (by kernel_rfl) (by kernel_rfl) (fun _ _ _ h => h) (Or.inl ⟨by rfl, ?_⟩) (by assumption) ?_; rotate_left; (· (intro w0 hSw; have a0 := hSw.cell 0; have a1 := hSw.cell 1; have a2 := hSw.cell 2; have a3 := hSw.cell 3; have a4 := hSw.cell 4; have a5 := hSw.cell 5; have a6 := hSw.cell 6; have a7 := hSw.cell 7; clear hSw; go_simp); first | done | with_reducible rfl); (try simp only [Act.put, List.getElem_toArray, List.getElem_cons_succ, List.getElem_cons_zero, List.setIfInBounds_toArray, List.set_cons_zero, List.set_cons_succ])
              refine wpAnyH_done (by kernel_rfl) ?_ _
              clear jg0 jg1 jg2 jl0 jl1 jl2 js0 js1 js2 jh0 jh1 jh2 HOF1 HD HY HYB HYL HYN
              have HT : Hid (TrueIn j a b xt xd xs xp yt yd yv yp gl ld sd ht) := Lib.hid (by
                obtain ⟨⟨⟨e1, e2⟩, ⟨e3, e4⟩, ⟨e5, e6⟩, e7, e8⟩, ⟨e9, e10⟩, ⟨e11, e12⟩, ⟨e13, e14⟩, e15, e16⟩ := HBD.out
                exact ⟨e1, e2, e3, e4, e5, e6, e7, e8, e9, e10, e11, e12, e13, e14, e15, e16, HV0.out.1, HV0.out.2, HV1.out.1, HV1.out.2, HV2.out.1, HV2.out.2, HV3.out.1, HV3.out.2⟩)
              clear HV0 HV1 HV2 HV3 HBD
              go_upto_region 6 with fail
              go_cut [18] (fun s wx => s = .bool (decide (ld ≤ xd + yd + gl)) ∧ Hid (TnB w j a b wx) ∧ Hid (Blk wx g12 55 #[.int .i64 xt, .int .i64 xd, .int .i64 xs, .int .i64 xp]) ∧ Hid (Blk wx g13 55 #[.int .i64 yt, .int .i64 yd, .int .i64 yv, .int .i64 yp]))
              case first =>
                have x1 := K12.out.cell 1
                have y1 := K13.out.cell 1
                obtain ⟨w1, w2⟩ := sum_wraps HT.out HI.out.1 HI.out.2.1 HI.out.2.2
                by_cases h : ld ≤ xd + yd + gl
                · go_wp2_with fail
                  go_meet
                  exact ⟨by rw [decide_eq_true h], HS, K12, K13⟩
                · go_wp2_with fail
                  go_meet
                  exact ⟨by rw [decide_eq_false (by omega)], HS, K12, K13⟩
              case rest => as_aux_lemma =>
                obtain ⟨rfl, HS, K12, K13⟩ := hcut
                have KJ := Lib.hid HS.out.k4
                have KA := Lib.hid HS.out.k5
                have KB := Lib.hid HS.out.k6
                have HGR : Hid (∀ W, Below w.heap.size w W → Calls Try.prog 23 #[.agg #[.int .i64 j.glue.lo, .int .i64 j.glue.hi, .int .i64 j.lead.lo, .int .i64 j.lead.hi, .int .i64 j.side.lo, .int .i64 j.side.hi, .int .i64 j.height.lo, .int .i64 j.height.hi, .int .i64 j.play, .int .i64 j.grooves], .agg #[.int .i64 a.thick.lo, .int .i64 a.thick.hi, .int .i64 a.depth.lo, .int .i64 a.depth.hi, .int .i64 a.shift.lo, .int .i64 a.shift.hi, .int .i64 a.pitch.lo, .int .i64 a.pitch.hi], .agg #[.int .i64 b.thick.lo, .int .i64 b.thick.hi, .int .i64 b.depth.lo, .int .i64 b.depth.hi, .int .i64 b.shift.lo, .int .i64 b.shift.hi, .int .i64 b.pitch.lo, .int .i64 b.pitch.hi], .slice C x.length cx] W (RetGr (graL j a b x) (graE j a b x) W)) := Lib.hid fun W hW => grades5_any j a b C cx x W HXL.out (HC.out.on hW (Nat.le_refl _))
                obtain ⟨N, hN⟩ := Int.eq_ofNat_of_zero_le (show 0 ≤ j.grooves by have := HI.out.1.n0; omega)
                have HGL : Hid (graE j a b x = 0 → (graL j a b x).length = N) := Lib.hid fun h => (gra_yes hN h).2
                have HGQ : Hid (graE j a b x = 0 → ∀ k : Nat, k < N → (graL j a b x)[k]? = some (gradeOf (leadOf j a b (k : Int)) x)) := Lib.hid fun h k hk => by
                  obtain ⟨h1, h2⟩ := gra_yes hN h
                  have hl : k < (gradesOf j a b x).length := by rw [← h1, h2]; exact hk
                  rw [h1, List.getElem?_eq_getElem hl, gra_at hl]
                have HLI : Hid (graE j a b x = 0 → ∀ y ∈ x, 0 ≤ y ∧ y ≤ 1000) := Lib.hid gra_lims
                have HG0 : Hid (graE j a b x = 0 → closesN j a b = 2) := Lib.hid gra_zero
                have HGN : Hid (graE j a b x ≠ 0 → graL j a b x = []) := Lib.hid gra_no
                have HG6 : Hid (graE j a b x = 6 ↔ ((closesN j a b ≠ 2 ∧ x.length ≤ 8) ∧ rlimB x = true)) := Lib.hid (gra_six HOK.out.1 HOK.out.2.1 HOK.out.2.2)
                have HN := Lib.hid hN
                have HN9 : Hid (1 ≤ N ∧ N ≤ 10) := Lib.hid (by have := HI.out.1.n0; have := HI.out.1.n1; omega)
                clear hN
                generalize graE j a b x = ge at *
                generalize graL j a b x = gr at *
                go_wp2_with (first | (with_reducible refine wpList_load_mid (by with_unfolding_all rfl) 25 _ (by with_unfolding_all rfl) _ _ (by with_unfolding_all rfl) [.int .i64 j.glue.lo, .int .i64 j.glue.hi, .int .i64 j.lead.lo, .int .i64 j.lead.hi, .int .i64 j.side.lo, .int .i64 j.side.hi, .int .i64 j.height.lo, .int .i64 j.height.hi, .int .i64 j.play, .int .i64 j.grooves] _ KJ.out.range (by with_unfolding_all rfl) (by with_unfolding_all rfl) (by kernel_rfl) ?_) | (with_reducible refine wpList_load_mid (by with_unfolding_all rfl) 37 _ (by with_unfolding_all rfl) _ _ (by with_unfolding_all rfl) [.int .i64 a.thick.lo, .int .i64 a.thick.hi, .int .i64 a.depth.lo, .int .i64 a.depth.hi, .int .i64 a.shift.lo, .int .i64 a.shift.hi, .int .i64 a.pitch.lo, .int .i64 a.pitch.hi] _ KA.out.range (by with_unfolding_all rfl) (by with_unfolding_all rfl) (by kernel_rfl) ?_) | (with_reducible refine wpList_load_mid (by with_unfolding_all rfl) 37 _ (by with_unfolding_all rfl) _ _ (by with_unfolding_all rfl) [.int .i64 b.thick.lo, .int .i64 b.thick.hi, .int .i64 b.depth.lo, .int .i64 b.depth.hi, .int .i64 b.shift.lo, .int .i64 b.shift.hi, .int .i64 b.pitch.lo, .int .i64 b.pitch.hi] _ KB.out.range (by with_unfolding_all rfl) (by with_unfolding_all rfl) (by kernel_rfl) ?_))
                refine (HGR.out _ HS.out.hb).mono ?_
                rintro e W4 ⟨A2, c3, rfl, hown, hb⟩
                replace HS := Lib.hid (HS.out.call hb)
                replace K12 := Lib.hid (K12.out.below hb K12.out.lt)
                replace K13 := Lib.hid (K13.out.below hb K13.out.lt)
                have HOW := Lib.hid (show PlanAt W4 (.slice A2 gr.length c3) gr from own_low hown (Nat.zero_le _))
                have hgl : gr.length ≤ 9223372036854775807 := le_of_own hown
                have hgl0 : (0 : Int) ≤ gr.length := by omega
                have hgl1 : (gr.length : Int) ≤ 9223372036854775807 := by omega
                clear hb KJ KA KB HGR hown hgl
                go_upto_region 8 with fail
                have j9 := HS.out.k4.cell 9
                go_wp2_with fail
                clear j9
                obtain ⟨c0, hc0⟩ : ∃ v, decide (ld ≤ xd + yd + gl) = v := ⟨_, rfl⟩
                have HC0 : Hid (c0 = true ↔ ld ≤ xd + yd + gl) := Lib.hid (by rw [← hc0, decide_eq_true_eq])
                rw [hc0]
                clear hc0
                go_loopw [18, 100] (fun s i wr => ∃ k : Nat, ∃ cl : Bool, k ≤ N ∧ i = .int .i64 k ∧ s = .bool cl ∧ Hid (cl = true ↔ (ld ≤ xd + yd + gl ∧ ∀ i : Nat, i < k → xs + (i : Int) * xp - (yv + (i : Int) * yp) ≤ j.play ∧ yv + (i : Int) * yp - (xs + (i : Int) * xp) ≤ j.play)) ∧ Hid (TnB w j a b wr) ∧ Hid (Blk wr g12 55 #[.int .i64 xt, .int .i64 xd, .int .i64 xs, .int .i64 xp]) ∧ Hid (Blk wr g13 55 #[.int .i64 yt, .int .i64 yd, .int .i64 yv, .int .i64 yp]) ∧ Hid (PlanAt wr (.slice A2 gr.length c3) gr)) (fun _ i _ => N - (intOf i).toNat)
                case atStart => exact ⟨0, c0, by omega, rfl, rfl, Lib.hid (by rw [HC0.out]; exact ⟨fun h => ⟨h, fun i hi => absurd hi (Nat.not_lt_zero i)⟩, fun h => h.1⟩), HS, K12, K13, HOW⟩
                case round => as_aux_lemma =>
                  clear HS K12 K13 HOW
                  obtain ⟨k, cl, hk, rfl, rfl, HCL, HS, K12, K13, HOW⟩ := hrel
                  by_cases hlt : k < N
                  · have hkg : (k : Int) < j.grooves := by have := HN.out; omega
                    have hk0 : (0 : Int) ≤ k := by omega
                    have hkb : (k : Int) ≤ 9 := by have := HN9.out; omega
                    obtain ⟨p, hp⟩ : ∃ v, xs + (k : Int) * xp = v := ⟨_, rfl⟩
                    obtain ⟨q, hq⟩ : ∃ v, yv + (k : Int) * yp = v := ⟨_, rfl⟩
                    obtain ⟨u, hu⟩ : ∃ v, p + q - 2 * sd = v := ⟨_, rfl⟩
                    obtain ⟨v, hv⟩ : ∃ v, xt - yt - gl - 2 * xd + ld - 2 * ht = v := ⟨_, rfl⟩
                    have HW := Lib.hid (true_wraps HT.out HI.out.1 HI.out.2.1 HI.out.2.2 hk0 hkb hp hq hu hv)
                    have hU := HT.out.u hk0
                    have hV := HT.out.v
                    rw [hp, hq, hu] at hU
                    rw [hv] at hV
                    obtain ⟨s0, hs0⟩ : ∃ v, (sideS j a b k).lo = v := ⟨_, rfl⟩
                    obtain ⟨s1, hs1⟩ : ∃ v, (sideS j a b k).hi = v := ⟨_, rfl⟩
                    obtain ⟨g0, hg0⟩ : ∃ v, (heightS j a b).lo = v := ⟨_, rfl⟩
                    obtain ⟨g1, hg1⟩ : ∃ v, (heightS j a b).hi = v := ⟨_, rfl⟩
                    have HGT : Hid (gradeOf (leadOf j a b (k : Int)) x ≠ -1 → ∃ m : Nat, ∃ hm : m < x.length, gradeOf (leadOf j a b (k : Int)) x = (m : Int) ∧ u * u + v * v ≤ 4 * x[m] * x[m]) := Lib.hid fun h => graded5 h hU hV
                    have HOF : Hid (∀ W, Calls Try.prog 19 #[.agg #[.int .i64 j.glue.lo, .int .i64 j.glue.hi, .int .i64 j.lead.lo, .int .i64 j.lead.hi, .int .i64 j.side.lo, .int .i64 j.side.hi, .int .i64 j.height.lo, .int .i64 j.height.hi, .int .i64 j.play, .int .i64 j.grooves], .agg #[.int .i64 a.thick.lo, .int .i64 a.thick.hi, .int .i64 a.depth.lo, .int .i64 a.depth.hi, .int .i64 a.shift.lo, .int .i64 a.shift.hi, .int .i64 a.pitch.lo, .int .i64 a.pitch.hi], .agg #[.int .i64 b.thick.lo, .int .i64 b.thick.hi, .int .i64 b.depth.lo, .int .i64 b.depth.hi, .int .i64 b.shift.lo, .int .i64 b.shift.hi, .int .i64 b.pitch.lo, .int .i64 b.pitch.hi], .int .i64 (k : Int)] W (Ret (.tuple #[.agg #[.int .i64 s0, .int .i64 s1], .agg #[.int .i64 g0, .int .i64 g1], .int .i64 0]) W)) := Lib.hid fun W => by
                      have h9 := off5_any j a b (k : Int) W
                      have e9 : offE j a b k = 0 := told_ok HOK.out.1 HOK.out.2.1 HOK.out.2.2 _ (fromB_iff.2 ⟨hk0, by omega⟩)
                      rw [show offS j a b k = sideS j a b k from if_pos e9, show offH j a b k = heightS j a b from if_pos e9, e9, hs0, hs1, hg0, hg1] at h9
                      exact h9
                    rw [hs0, hs1] at hU
                    rw [hg0, hg1] at hV
                    have HUV := Lib.hid (And.intro hU hV)
                    have HGE := Lib.hid (grade_ge (leadOf j a b (k : Int)) x)
                    have HGK : Hid (ge = 0 → gr[k]? = some (gradeOf (leadOf j a b (k : Int)) x)) := Lib.hid fun h => HGQ.out h k hlt
                    obtain ⟨gk, hgk⟩ : ∃ v, gradeOf (leadOf j a b (k : Int)) x = v := ⟨_, rfl⟩
                    rw [hgk] at HGT HGE HGK
                    have HPQ := Lib.hid (And.intro hp hq)
                    clear hU hV hs0 hs1 hg0 hg1 hgk hp hq hu hv
                    go_upto_region 11 with fail
                    obtain ⟨⟨w1, w2, w3, w4⟩, ⟨w5, w6⟩, ⟨w7, w8, w9⟩, ⟨w10, w11, w12, w13, w14, w15, w16⟩, hu3, hv3⟩ := HW.out
                    replace HS := Lib.hid (HS.out.call (Below.refl _ _).drew)
                    replace K12 := Lib.hid (K12.out.below (Below.refl _ _).drew K12.out.lt)
                    replace K13 := Lib.hid (K13.out.below (Below.refl _ _).drew K13.out.lt)
                    replace HOW := Lib.hid (HOW.out.below (Below.refl _ _).drew)
                    refine wp_region_held_drew (S := fun W9 => Blk W9 g12 55 #[.int .i64 xt, .int .i64 xd, .int .i64 xs, .int .i64 xp] ∧ Blk W9 g13 55 #[.int .i64 yt, .int .i64 yd, .int .i64 yv, .int .i64 yp]) (by kernel_rfl) ⟨K12.out, K13.out⟩ (fun hH0 => ?_)
                    generalize World.drew _ = V0 at *
                    simp only [List.size_toArray, List.length_cons, List.length_nil, Nat.reduceAdd, Array.replicate_succ, Array.replicate_zero, List.push_toArray, List.nil_append, List.cons_append]
                    refine wpAnyH_take (i := 0 ) (v := ?_) rfl (by kernel_rfl) (by kernel_rfl) (by kernel_rfl) (fun _ _ _ h => h) (Or.inl ⟨by rfl, ?_⟩) (by assumption) ?_; rotate_left; (· (intro w0 hSw; have a0 := hSw.1.cell 0; have b0 := hSw.2.cell 0; have a1 := hSw.1.cell 1; have b1 := hSw.2.cell 1; have a2 := hSw.1.cell 2; have b2 := hSw.2.cell 2; have a3 := hSw.1.cell 3; have b3 := hSw.2.cell 3; clear hSw; go_simp); first | done | with_reducible rfl); (try simp only [Act.put, List.getElem_toArray, List.getElem_cons_zero, List.setIfInBounds_toArray, List.set_cons_zero, List.set_cons_succ])
                    refine wpAnyH_take (i := 1 ) (v := ?_) rfl (by kernel_rfl) (by kernel_rfl) (by kernel_rfl) (fun _ _ _ h => h) (Or.inl ⟨by rfl, ?_⟩) (by assumption) ?_; rotate_left; (· (intro w0 hSw; have a0 := hSw.1.cell 0; have b0 := hSw.2.cell 0; have a1 := hSw.1.cell 1; have b1 := hSw.2.cell 1; have a2 := hSw.1.cell 2; have b2 := hSw.2.cell 2; have a3 := hSw.1.cell 3; have b3 := hSw.2.cell 3; clear hSw; go_simp); first | done | with_reducible rfl); (try simp only [Act.put, List.getElem_toArray, List.getElem_cons_succ, List.getElem_cons_zero, List.setIfInBounds_toArray, List.set_cons_zero, List.set_cons_succ])
                    refine wpAnyH_take (i := 2 ) (v := ?_) rfl (by kernel_rfl) (by kernel_rfl) (by kernel_rfl) (fun _ _ _ h => h) (Or.inl ⟨by rfl, ?_⟩) (by assumption) ?_; rotate_left; (· (intro w0 hSw; have a0 := hSw.1.cell 0; have b0 := hSw.2.cell 0; have a1 := hSw.1.cell 1; have b1 := hSw.2.cell 1; have a2 := hSw.1.cell 2; have b2 := hSw.2.cell 2; have a3 := hSw.1.cell 3; have b3 := hSw.2.cell 3; clear hSw; go_simp); first | done | with_reducible rfl); (try simp only [Act.put, List.getElem_toArray, List.getElem_cons_succ, List.getElem_cons_zero, List.setIfInBounds_toArray, List.set_cons_zero, List.set_cons_succ])
                    refine wpAnyH_take (i := 3 ) (v := ?_) rfl (by kernel_rfl) (by kernel_rfl) (by kernel_rfl) (fun _ _ _ h => h) (Or.inl ⟨by rfl, ?_⟩) (by assumption) ?_; rotate_left; (· (intro w0 hSw; have a0 := hSw.1.cell 0; have b0 := hSw.2.cell 0; have a1 := hSw.1.cell 1; have b1 := hSw.2.cell 1; have a2 := hSw.1.cell 2; have b2 := hSw.2.cell 2; have a3 := hSw.1.cell 3; have b3 := hSw.2.cell 3; clear hSw; go_simp); first | done | with_reducible rfl); (try simp only [Act.put, List.getElem_toArray, List.getElem_cons_succ, List.getElem_cons_zero, List.setIfInBounds_toArray, List.set_cons_zero, List.set_cons_succ])
                    refine wpAnyH_take (i := 4 ) (v := ?_) rfl (by kernel_rfl) (by kernel_rfl) (by kernel_rfl) (fun _ _ _ h => h) (Or.inl ⟨by rfl, ?_⟩) (by assumption) ?_; rotate_left; (· (intro w0 hSw; have a0 := hSw.1.cell 0; have b0 := hSw.2.cell 0; have a1 := hSw.1.cell 1; have b1 := hSw.2.cell 1; have a2 := hSw.1.cell 2; have b2 := hSw.2.cell 2; have a3 := hSw.1.cell 3; have b3 := hSw.2.cell 3; clear hSw; go_simp); first | done | with_reducible rfl); (try simp only [Act.put, List.getElem_toArray, List.getElem_cons_succ, List.getElem_cons_zero, List.setIfInBounds_toArray, List.set_cons_zero, List.set_cons_succ])
                    refine wpAnyH_take (i := 5 ) (v := ?_) rfl (by kernel_rfl) (by kernel_rfl) (by kernel_rfl) (fun _ _ _ h => h) (Or.inl ⟨by rfl, ?_⟩) (by assumption) ?_; rotate_left; (· (intro w0 hSw; have a0 := hSw.1.cell 0; have b0 := hSw.2.cell 0; have a1 := hSw.1.cell 1; have b1 := hSw.2.cell 1; have a2 := hSw.1.cell 2; have b2 := hSw.2.cell 2; have a3 := hSw.1.cell 3; have b3 := hSw.2.cell 3; clear hSw; go_simp); first | done | with_reducible rfl); (try simp only [Act.put, List.getElem_toArray, List.getElem_cons_succ, List.getElem_cons_zero, List.setIfInBounds_toArray, List.set_cons_zero, List.set_cons_succ])
                    refine wpAnyH_take (i := 6 ) (v := ?_) rfl (by kernel_rfl) (by kernel_rfl) (by kernel_rfl) (fun _ _ _ h => h) (Or.inl ⟨by rfl, ?_⟩) (by assumption) ?_; rotate_left; (· (intro w0 hSw; have a0 := hSw.1.cell 0; have b0 := hSw.2.cell 0; have a1 := hSw.1.cell 1; have b1 := hSw.2.cell 1; have a2 := hSw.1.cell 2; have b2 := hSw.2.cell 2; have a3 := hSw.1.cell 3; have b3 := hSw.2.cell 3; clear hSw; go_simp); first | done | with_reducible rfl); (try simp only [Act.put, List.getElem_toArray, List.getElem_cons_succ, List.getElem_cons_zero, List.setIfInBounds_toArray, List.set_cons_zero, List.set_cons_succ])
                    refine wpAnyH_take (i := 7 ) (v := ?_) rfl (by kernel_rfl) (by kernel_rfl) (by kernel_rfl) (fun _ _ _ h => h) (Or.inl ⟨by rfl, ?_⟩) (by assumption) ?_; rotate_left; (· (intro w0 hSw; have a0 := hSw.1.cell 0; have b0 := hSw.2.cell 0; have a1 := hSw.1.cell 1; have b1 := hSw.2.cell 1; have a2 := hSw.1.cell 2; have b2 := hSw.2.cell 2; have a3 := hSw.1.cell 3; have b3 := hSw.2.cell 3; clear hSw; go_simp); first | done | with_reducible rfl); (try simp only [Act.put, List.getElem_toArray, List.getElem_cons_succ, List.getElem_cons_zero, List.setIfInBounds_toArray, List.set_cons_zero, List.set_cons_succ])
                    refine wpAnyH_take (i := 8 ) (v := ?_) rfl (by kernel_rfl) (by kernel_rfl) (by kernel_rfl) (fun _ _ _ h => h) (Or.inl ⟨by rfl, ?_⟩) (by assumption) ?_; rotate_left; (· (intro w0 hSw; have a0 := hSw.1.cell 0; have b0 := hSw.2.cell 0; have a1 := hSw.1.cell 1; have b1 := hSw.2.cell 1; have a2 := hSw.1.cell 2; have b2 := hSw.2.cell 2; have a3 := hSw.1.cell 3; have b3 := hSw.2.cell 3; clear hSw; go_simp); first | done | with_reducible rfl); (try simp only [Act.put, List.getElem_toArray, List.getElem_cons_succ, List.getElem_cons_zero, List.setIfInBounds_toArray, List.set_cons_zero, List.set_cons_succ])
                    refine wpAnyH_take (i := 9 ) (v := ?_) rfl (by kernel_rfl) (by kernel_rfl) (by kernel_rfl) (fun _ _ _ h => h) (Or.inl ⟨by rfl, ?_⟩) (by assumption) ?_; rotate_left; (· (intro w0 hSw; have a0 := hSw.1.cell 0; have b0 := hSw.2.cell 0; have a1 := hSw.1.cell 1; have b1 := hSw.2.cell 1; have a2 := hSw.1.cell 2; have b2 := hSw.2.cell 2; have a3 := hSw.1.cell 3; have b3 := hSw.2.cell 3; clear hSw; go_simp); first | done | with_reducible rfl); (try simp only [Act.put, List.getElem_toArray, List.getElem_cons_succ, List.getElem_cons_zero, List.setIfInBounds_toArray, List.set_cons_zero, List.set_cons_succ])
                    refine wpAnyH_take (i := 10 ) (v := ?_) rfl (by kernel_rfl) (by kernel_rfl) (by kernel_rfl) (fun _ _ _ h => h) (Or.inl ⟨by rfl, ?_⟩) (by assumption) ?_; rotate_left; (· (intro w0 hSw; have a0 := hSw.1.cell 0; have b0 := hSw.2.cell 0; have a1 := hSw.1.cell 1; have b1 := hSw.2.cell 1; have a2 := hSw.1.cell 2; have b2 := hSw.2.cell 2; have a3 := hSw.1.cell 3; have b3 := hSw.2.cell 3; clear hSw; go_simp); first | done | with_reducible rfl); (try simp only [Act.put, List.getElem_toArray, List.getElem_cons_succ, List.getElem_cons_zero, List.setIfInBounds_toArray, List.set_cons_zero, List.set_cons_succ])
                    refine wpAnyH_take (i := 11 ) (v := ?_) rfl (by kernel_rfl) (by kernel_rfl) (by kernel_rfl) (fun _ _ _ h => h) (Or.inl ⟨by rfl, ?_⟩) (by assumption) ?_; rotate_left; (· (intro w0 hSw; have a0 := hSw.1.cell 0; have b0 := hSw.2.cell 0; have a1 := hSw.1.cell 1; have b1 := hSw.2.cell 1; have a2 := hSw.1.cell 2; have b2 := hSw.2.cell 2; have a3 := hSw.1.cell 3; have b3 := hSw.2.cell 3; clear hSw; go_simp); first | done | with_reducible rfl); (try simp only [Act.put, List.getElem_toArray, List.getElem_cons_succ, List.getElem_cons_zero, List.setIfInBounds_toArray, List.set_cons_zero, List.set_cons_succ])
                    refine wpAnyH_take (i := 12 ) (v := ?_) rfl (by kernel_rfl) (by kernel_rfl) (by kernel_rfl) (fun _ _ _ h => h) (Or.inl ⟨by rfl, ?_⟩) (by assumption) ?_; rotate_left; (· (intro w0 hSw; have a0 := hSw.1.cell 0; have b0 := hSw.2.cell 0; have a1 := hSw.1.cell 1; have b1 := hSw.2.cell 1; have a2 := hSw.1.cell 2; have b2 := hSw.2.cell 2; have a3 := hSw.1.cell 3; have b3 := hSw.2.cell 3; clear hSw; go_simp); first | done | with_reducible rfl); (try simp only [Act.put, List.getElem_toArray, List.getElem_cons_succ, List.getElem_cons_zero, List.setIfInBounds_toArray, List.set_cons_zero, List.set_cons_succ])
                    refine wpAnyH_take (i := 13 ) (v := ?_) rfl (by kernel_rfl) (by kernel_rfl) (by kernel_rfl) (fun _ _ _ h => h) (Or.inl ⟨by rfl, ?_⟩) (by assumption) ?_; rotate_left; (· (intro w0 hSw; have a0 := hSw.1.cell 0; have b0 := hSw.2.cell 0; have a1 := hSw.1.cell 1; have b1 := hSw.2.cell 1; have a2 := hSw.1.cell 2; have b2 := hSw.2.cell 2; have a3 := hSw.1.cell 3; have b3 := hSw.2.cell 3; clear hSw; go_simp); first | done | with_reducible rfl); (try simp only [Act.put, List.getElem_toArray, List.getElem_cons_succ, List.getElem_cons_zero, List.setIfInBounds_toArray, List.set_cons_zero, List.set_cons_succ])
                    refine wpAnyH_take (i := 14 ) (v := ?_) rfl (by kernel_rfl) (by kernel_rfl) (by kernel_rfl) (fun _ _ _ h => h) (Or.inl ⟨by rfl, ?_⟩) (by assumption) ?_; rotate_left; (· (intro w0 hSw; have a0 := hSw.1.cell 0; have b0 := hSw.2.cell 0; have a1 := hSw.1.cell 1; have b1 := hSw.2.cell 1; have a2 := hSw.1.cell 2; have b2 := hSw.2.cell 2; have a3 := hSw.1.cell 3; have b3 := hSw.2.cell 3; clear hSw; go_simp); first | done | with_reducible rfl); (try simp only [Act.put, List.getElem_toArray, List.getElem_cons_succ, List.getElem_cons_zero, List.setIfInBounds_toArray, List.set_cons_zero, List.set_cons_succ])
                    refine wpAnyH_take (i := 15 ) (v := ?_) rfl (by kernel_rfl) (by kernel_rfl) (by kernel_rfl) (fun _ _ _ h => h) (Or.inl ⟨by rfl, ?_⟩) (by assumption) ?_; rotate_left; (· (intro w0 hSw; have a0 := hSw.1.cell 0; have b0 := hSw.2.cell 0; have a1 := hSw.1.cell 1; have b1 := hSw.2.cell 1; have a2 := hSw.1.cell 2; have b2 := hSw.2.cell 2; have a3 := hSw.1.cell 3; have b3 := hSw.2.cell 3; clear hSw; go_simp); first | done | with_reducible rfl); (try simp only [Act.put, List.getElem_toArray, List.getElem_cons_succ, List.getElem_cons_zero, List.setIfInBounds_toArray, List.set_cons_zero, List.set_cons_succ])
                    refine wpAnyH_done (by kernel_rfl) ?_ _
                    go_upto_region 12 with fail
                    obtain ⟨cl2, hcl2⟩ : ∃ v, (cl && (decide (p - q ≤ j.play) && decide (q - p ≤ j.play))) = v := ⟨_, rfl⟩
                    have HCL2 : Hid (cl2 = true ↔ (ld ≤ xd + yd + gl ∧ ∀ i : Nat, i < k + 1 → xs + (i : Int) * xp - (yv + (i : Int) * yp) ≤ j.play ∧ yv + (i : Int) * yp - (xs + (i : Int) * xp) ≤ j.play)) := Lib.hid (by
                      rw [← hcl2, Bool.and_eq_true, Bool.and_eq_true, decide_eq_true_eq, decide_eq_true_eq, HCL.out]
                      constructor
                      · rintro ⟨⟨h1, h2⟩, h3⟩
                        refine ⟨h1, fun i hi => ?_⟩
                        rcases Nat.lt_or_ge i k with h9 | h9
                        · exact h2 i h9
                        · obtain rfl : i = k := by omega
                          rw [HPQ.out.1, HPQ.out.2]
                          exact h3
                      · rintro ⟨h1, h2⟩
                        have h3 := h2 k (Nat.lt_succ_self k)
                        rw [HPQ.out.1, HPQ.out.2] at h3
                        exact ⟨⟨h1, fun i hi => h2 i (Nat.lt_succ_of_lt hi)⟩, h3⟩)
                    have HC2 := Lib.hid hcl2
                    clear hcl2
                    go_cut [18] from 117 to 133 (fun s wx => s = .bool cl2 ∧ Hid (TnB w j a b wx) ∧ Hid (Blk wx g12 55 #[.int .i64 xt, .int .i64 xd, .int .i64 xs, .int .i64 xp]) ∧ Hid (Blk wx g13 55 #[.int .i64 yt, .int .i64 yd, .int .i64 yv, .int .i64 yp]) ∧ Hid (PlanAt wx (.slice A2 gr.length c3) gr))
                    case first =>
                      have j8 := HS.out.k4.cell 8
                      cases cl with
                      | false =>
                        go_wp2_with fail
                        go_meet
                        exact ⟨by rw [← HC2.out]; rfl, HS, K12, K13, HOW⟩
                      | true =>
                        by_cases h1 : p - q ≤ j.play
                        · by_cases h2 : q - p ≤ j.play
                          · go_wp2_with fail
                            go_meet
                            exact ⟨by rw [← HC2.out, decide_eq_true h1, decide_eq_true h2]; rfl, HS, K12, K13, HOW⟩
                          · go_wp2_with fail
                            go_meet
                            exact ⟨by rw [← HC2.out, decide_eq_true h1, decide_eq_false (show ¬ q - p ≤ j.play by omega)]; rfl, HS, K12, K13, HOW⟩
                        · go_wp2_with fail
                          go_meet
                          exact ⟨by rw [← HC2.out, decide_eq_false (show ¬ p - q ≤ j.play by omega)]; rfl, HS, K12, K13, HOW⟩
                    case rest => as_aux_lemma =>
                      obtain ⟨rfl, HS, K12, K13, HOW⟩ := hcut
                      clear HC2 HCL w1 w2 w3 w4 w5 w6
                      go_upto_region 13 with fail
                      replace HS := Lib.hid (HS.out.call (Below.refl _ _).drew)
                      replace K12 := Lib.hid (K12.out.below (Below.refl _ _).drew K12.out.lt)
                      replace K13 := Lib.hid (K13.out.below (Below.refl _ _).drew K13.out.lt)
                      replace HOW := Lib.hid (HOW.out.below (Below.refl _ _).drew)
                      refine wp_region_held_drew (S := fun W9 => Blk W9 g12 55 #[.int .i64 xt, .int .i64 xd, .int .i64 xs, .int .i64 xp] ∧ Blk W9 g13 55 #[.int .i64 yt, .int .i64 yd, .int .i64 yv, .int .i64 yp]) (by kernel_rfl) ⟨K12.out, K13.out⟩ (fun hH0 => ?_)
                      generalize World.drew _ = V0 at *
                      simp only [List.size_toArray, List.length_cons, List.length_nil, Nat.reduceAdd, Array.replicate_succ, Array.replicate_zero, List.push_toArray, List.nil_append, List.cons_append]
                      refine wpAnyH_take (i := 0 ) (v := ?_) rfl (by kernel_rfl) (by kernel_rfl) (by kernel_rfl) (fun _ _ _ h => h) (Or.inl ⟨by rfl, ?_⟩) (by assumption) ?_; rotate_left; (· (intro w0 hSw; have a0 := hSw.1.cell 0; have b0 := hSw.2.cell 0; have a1 := hSw.1.cell 1; have b1 := hSw.2.cell 1; have a2 := hSw.1.cell 2; have b2 := hSw.2.cell 2; have a3 := hSw.1.cell 3; have b3 := hSw.2.cell 3; clear hSw; go_simp); first | done | with_reducible rfl); (try simp only [Act.put, List.getElem_toArray, List.getElem_cons_zero, List.setIfInBounds_toArray, List.set_cons_zero, List.set_cons_succ])
                      refine wpAnyH_take (i := 1 ) (v := ?_) rfl (by kernel_rfl) (by kernel_rfl) (by kernel_rfl) (fun _ _ _ h => h) (Or.inl ⟨by rfl, ?_⟩) (by assumption) ?_; rotate_left; (· (intro w0 hSw; have a0 := hSw.1.cell 0; have b0 := hSw.2.cell 0; have a1 := hSw.1.cell 1; have b1 := hSw.2.cell 1; have a2 := hSw.1.cell 2; have b2 := hSw.2.cell 2; have a3 := hSw.1.cell 3; have b3 := hSw.2.cell 3; clear hSw; go_simp); first | done | with_reducible rfl); (try simp only [Act.put, List.getElem_toArray, List.getElem_cons_succ, List.getElem_cons_zero, List.setIfInBounds_toArray, List.set_cons_zero, List.set_cons_succ])
                      refine wpAnyH_take (i := 2 ) (v := ?_) rfl (by kernel_rfl) (by kernel_rfl) (by kernel_rfl) (fun _ _ _ h => h) (Or.inl ⟨by rfl, ?_⟩) (by assumption) ?_; rotate_left; (· (intro w0 hSw; have a0 := hSw.1.cell 0; have b0 := hSw.2.cell 0; have a1 := hSw.1.cell 1; have b1 := hSw.2.cell 1; have a2 := hSw.1.cell 2; have b2 := hSw.2.cell 2; have a3 := hSw.1.cell 3; have b3 := hSw.2.cell 3; clear hSw; go_simp); first | done | with_reducible rfl); (try simp only [Act.put, List.getElem_toArray, List.getElem_cons_succ, List.getElem_cons_zero, List.setIfInBounds_toArray, List.set_cons_zero, List.set_cons_succ])
                      refine wpAnyH_take (i := 3 ) (v := ?_) rfl (by kernel_rfl) (by kernel_rfl) (by kernel_rfl) (fun _ _ _ h => h) (Or.inl ⟨by rfl, ?_⟩) (by assumption) ?_; rotate_left; (· (intro w0 hSw; have a0 := hSw.1.cell 0; have b0 := hSw.2.cell 0; have a1 := hSw.1.cell 1; have b1 := hSw.2.cell 1; have a2 := hSw.1.cell 2; have b2 := hSw.2.cell 2; have a3 := hSw.1.cell 3; have b3 := hSw.2.cell 3; clear hSw; go_simp); first | done | with_reducible rfl); (try simp only [Act.put, List.getElem_toArray, List.getElem_cons_succ, List.getElem_cons_zero, List.setIfInBounds_toArray, List.set_cons_zero, List.set_cons_succ])
                      refine wpAnyH_take (i := 4 ) (v := ?_) rfl (by kernel_rfl) (by kernel_rfl) (by kernel_rfl) (fun _ _ _ h => h) (Or.inl ⟨by rfl, ?_⟩) (by assumption) ?_; rotate_left; (· (intro w0 hSw; have a0 := hSw.1.cell 0; have b0 := hSw.2.cell 0; have a1 := hSw.1.cell 1; have b1 := hSw.2.cell 1; have a2 := hSw.1.cell 2; have b2 := hSw.2.cell 2; have a3 := hSw.1.cell 3; have b3 := hSw.2.cell 3; clear hSw; go_simp); first | done | with_reducible rfl); (try simp only [Act.put, List.getElem_toArray, List.getElem_cons_succ, List.getElem_cons_zero, List.setIfInBounds_toArray, List.set_cons_zero, List.set_cons_succ])
                      refine wpAnyH_take (i := 5 ) (v := ?_) rfl (by kernel_rfl) (by kernel_rfl) (by kernel_rfl) (fun _ _ _ h => h) (Or.inl ⟨by rfl, ?_⟩) (by assumption) ?_; rotate_left; (· (intro w0 hSw; have a0 := hSw.1.cell 0; have b0 := hSw.2.cell 0; have a1 := hSw.1.cell 1; have b1 := hSw.2.cell 1; have a2 := hSw.1.cell 2; have b2 := hSw.2.cell 2; have a3 := hSw.1.cell 3; have b3 := hSw.2.cell 3; clear hSw; go_simp); first | done | with_reducible rfl); (try simp only [Act.put, List.getElem_toArray, List.getElem_cons_succ, List.getElem_cons_zero, List.setIfInBounds_toArray, List.set_cons_zero, List.set_cons_succ])
                      refine wpAnyH_take (i := 6 ) (v := ?_) rfl (by kernel_rfl) (by kernel_rfl) (by kernel_rfl) (fun _ _ _ h => h) (Or.inl ⟨by rfl, ?_⟩) (by assumption) ?_; rotate_left; (· (intro w0 hSw; have a0 := hSw.1.cell 0; have b0 := hSw.2.cell 0; have a1 := hSw.1.cell 1; have b1 := hSw.2.cell 1; have a2 := hSw.1.cell 2; have b2 := hSw.2.cell 2; have a3 := hSw.1.cell 3; have b3 := hSw.2.cell 3; clear hSw; go_simp); first | done | with_reducible rfl); (try simp only [Act.put, List.getElem_toArray, List.getElem_cons_succ, List.getElem_cons_zero, List.setIfInBounds_toArray, List.set_cons_zero, List.set_cons_succ])
                      refine wpAnyH_take (i := 7 ) (v := ?_) rfl (by kernel_rfl) (by kernel_rfl) (by kernel_rfl) (fun _ _ _ h => h) (Or.inl ⟨by rfl, ?_⟩) (by assumption) ?_; rotate_left; (· (intro w0 hSw; have a0 := hSw.1.cell 0; have b0 := hSw.2.cell 0; have a1 := hSw.1.cell 1; have b1 := hSw.2.cell 1; have a2 := hSw.1.cell 2; have b2 := hSw.2.cell 2; have a3 := hSw.1.cell 3; have b3 := hSw.2.cell 3; clear hSw; go_simp); first | done | with_reducible rfl); (try simp only [Act.put, List.getElem_toArray, List.getElem_cons_succ, List.getElem_cons_zero, List.setIfInBounds_toArray, List.set_cons_zero, List.set_cons_succ])
                      refine wpAnyH_take (i := 8 ) (v := ?_) rfl (by kernel_rfl) (by kernel_rfl) (by kernel_rfl) (fun _ _ _ h => h) (Or.inl ⟨by rfl, ?_⟩) (by assumption) ?_; rotate_left; (· (intro w0 hSw; have a0 := hSw.1.cell 0; have b0 := hSw.2.cell 0; have a1 := hSw.1.cell 1; have b1 := hSw.2.cell 1; have a2 := hSw.1.cell 2; have b2 := hSw.2.cell 2; have a3 := hSw.1.cell 3; have b3 := hSw.2.cell 3; clear hSw; go_simp); first | done | with_reducible rfl); (try simp only [Act.put, List.getElem_toArray, List.getElem_cons_succ, List.getElem_cons_zero, List.setIfInBounds_toArray, List.set_cons_zero, List.set_cons_succ])
                      refine wpAnyH_take (i := 9 ) (v := ?_) rfl (by kernel_rfl) (by kernel_rfl) (by kernel_rfl) (fun _ _ _ h => h) (Or.inl ⟨by rfl, ?_⟩) (by assumption) ?_; rotate_left; (· (intro w0 hSw; have a0 := hSw.1.cell 0; have b0 := hSw.2.cell 0; have a1 := hSw.1.cell 1; have b1 := hSw.2.cell 1; have a2 := hSw.1.cell 2; have b2 := hSw.2.cell 2; have a3 := hSw.1.cell 3; have b3 := hSw.2.cell 3; clear hSw; go_simp); first | done | with_reducible rfl); (try simp only [Act.put, List.getElem_toArray, List.getElem_cons_succ, List.getElem_cons_zero, List.setIfInBounds_toArray, List.set_cons_zero, List.set_cons_succ])
                      refine wpAnyH_take (i := 10 ) (v := ?_) rfl (by kernel_rfl) (by kernel_rfl) (by kernel_rfl) (fun _ _ _ h => h) (Or.inl ⟨by rfl, ?_⟩) (by assumption) ?_; rotate_left; (· (intro w0 hSw; have a0 := hSw.1.cell 0; have b0 := hSw.2.cell 0; have a1 := hSw.1.cell 1; have b1 := hSw.2.cell 1; have a2 := hSw.1.cell 2; have b2 := hSw.2.cell 2; have a3 := hSw.1.cell 3; have b3 := hSw.2.cell 3; clear hSw; go_simp); first | done | with_reducible rfl); (try simp only [Act.put, List.getElem_toArray, List.getElem_cons_succ, List.getElem_cons_zero, List.setIfInBounds_toArray, List.set_cons_zero, List.set_cons_succ])
                      refine wpAnyH_take (i := 11 ) (v := ?_) rfl (by kernel_rfl) (by kernel_rfl) (by kernel_rfl) (fun _ _ _ h => h) (Or.inl ⟨by rfl, ?_⟩) (by assumption) ?_; rotate_left; (· (intro w0 hSw; have a0 := hSw.1.cell 0; have b0 := hSw.2.cell 0; have a1 := hSw.1.cell 1; have b1 := hSw.2.cell 1; have a2 := hSw.1.cell 2; have b2 := hSw.2.cell 2; have a3 := hSw.1.cell 3; have b3 := hSw.2.cell 3; clear hSw; go_simp); first | done | with_reducible rfl); (try simp only [Act.put, List.getElem_toArray, List.getElem_cons_succ, List.getElem_cons_zero, List.setIfInBounds_toArray, List.set_cons_zero, List.set_cons_succ])
                      refine wpAnyH_take (i := 12 ) (v := ?_) rfl (by kernel_rfl) (by kernel_rfl) (by kernel_rfl) (fun _ _ _ h => h) (Or.inl ⟨by rfl, ?_⟩) (by assumption) ?_; rotate_left; (· (intro w0 hSw; have a0 := hSw.1.cell 0; have b0 := hSw.2.cell 0; have a1 := hSw.1.cell 1; have b1 := hSw.2.cell 1; have a2 := hSw.1.cell 2; have b2 := hSw.2.cell 2; have a3 := hSw.1.cell 3; have b3 := hSw.2.cell 3; clear hSw; go_simp); first | done | with_reducible rfl); (try simp only [Act.put, List.getElem_toArray, List.getElem_cons_succ, List.getElem_cons_zero, List.setIfInBounds_toArray, List.set_cons_zero, List.set_cons_succ])
                      refine wpAnyH_take (i := 13 ) (v := ?_) rfl (by kernel_rfl) (by kernel_rfl) (by kernel_rfl) (fun _ _ _ h => h) (Or.inl ⟨by rfl, ?_⟩) (by assumption) ?_; rotate_left; (· (intro w0 hSw; have a0 := hSw.1.cell 0; have b0 := hSw.2.cell 0; have a1 := hSw.1.cell 1; have b1 := hSw.2.cell 1; have a2 := hSw.1.cell 2; have b2 := hSw.2.cell 2; have a3 := hSw.1.cell 3; have b3 := hSw.2.cell 3; clear hSw; go_simp); first | done | with_reducible rfl); (try simp only [Act.put, List.getElem_toArray, List.getElem_cons_succ, List.getElem_cons_zero, List.setIfInBounds_toArray, List.set_cons_zero, List.set_cons_succ])
                      refine wpAnyH_take (i := 14 ) (v := ?_) rfl (by kernel_rfl) (by kernel_rfl) (by kernel_rfl) (fun _ _ _ h => h) (Or.inl ⟨by rfl, ?_⟩) (by assumption) ?_; rotate_left; (· (intro w0 hSw; have a0 := hSw.1.cell 0; have b0 := hSw.2.cell 0; have a1 := hSw.1.cell 1; have b1 := hSw.2.cell 1; have a2 := hSw.1.cell 2; have b2 := hSw.2.cell 2; have a3 := hSw.1.cell 3; have b3 := hSw.2.cell 3; clear hSw; go_simp); first | done | with_reducible rfl); (try simp only [Act.put, List.getElem_toArray, List.getElem_cons_succ, List.getElem_cons_zero, List.setIfInBounds_toArray, List.set_cons_zero, List.set_cons_succ])
                      refine wpAnyH_take (i := 15 ) (v := ?_) rfl (by kernel_rfl) (by kernel_rfl) (by kernel_rfl) (fun _ _ _ h => h) (Or.inl ⟨by rfl, ?_⟩) (by assumption) ?_; rotate_left; (· (intro w0 hSw; have a0 := hSw.1.cell 0; have b0 := hSw.2.cell 0; have a1 := hSw.1.cell 1; have b1 := hSw.2.cell 1; have a2 := hSw.1.cell 2; have b2 := hSw.2.cell 2; have a3 := hSw.1.cell 3; have b3 := hSw.2.cell 3; clear hSw; go_simp); first | done | with_reducible rfl); (try simp only [Act.put, List.getElem_toArray, List.getElem_cons_succ, List.getElem_cons_zero, List.setIfInBounds_toArray, List.set_cons_zero, List.set_cons_succ])
                      refine wpAnyH_take (i := 16 ) (v := ?_) rfl (by kernel_rfl) (by kernel_rfl) (by kernel_rfl) (fun _ _ _ h => h) (Or.inl ⟨by rfl, ?_⟩) (by assumption) ?_; rotate_left; (· (intro w0 hSw; have a0 := hSw.1.cell 0; have b0 := hSw.2.cell 0; have a1 := hSw.1.cell 1; have b1 := hSw.2.cell 1; have a2 := hSw.1.cell 2; have b2 := hSw.2.cell 2; have a3 := hSw.1.cell 3; have b3 := hSw.2.cell 3; clear hSw; go_simp); first | done | with_reducible rfl); (try simp only [Act.put, List.getElem_toArray, List.getElem_cons_succ, List.getElem_cons_zero, List.setIfInBounds_toArray, List.set_cons_zero, List.set_cons_succ])
                      refine wpAnyH_take (i := 17 ) (v := ?_) rfl (by kernel_rfl) (by kernel_rfl) (by kernel_rfl) (fun _ _ _ h => h) (Or.inl ⟨by rfl, ?_⟩) (by assumption) ?_; rotate_left; (· (intro w0 hSw; have a0 := hSw.1.cell 0; have b0 := hSw.2.cell 0; have a1 := hSw.1.cell 1; have b1 := hSw.2.cell 1; have a2 := hSw.1.cell 2; have b2 := hSw.2.cell 2; have a3 := hSw.1.cell 3; have b3 := hSw.2.cell 3; clear hSw; go_simp); first | done | with_reducible rfl); (try simp only [Act.put, List.getElem_toArray, List.getElem_cons_succ, List.getElem_cons_zero, List.setIfInBounds_toArray, List.set_cons_zero, List.set_cons_succ])
                      refine wpAnyH_take (i := 18 ) (v := ?_) rfl (by kernel_rfl) (by kernel_rfl) (by kernel_rfl) (fun _ _ _ h => h) (Or.inl ⟨by rfl, ?_⟩) (by assumption) ?_; rotate_left; (· (intro w0 hSw; have a0 := hSw.1.cell 0; have b0 := hSw.2.cell 0; have a1 := hSw.1.cell 1; have b1 := hSw.2.cell 1; have a2 := hSw.1.cell 2; have b2 := hSw.2.cell 2; have a3 := hSw.1.cell 3; have b3 := hSw.2.cell 3; clear hSw; go_simp); first | done | with_reducible rfl); (try simp only [Act.put, List.getElem_toArray, List.getElem_cons_succ, List.getElem_cons_zero, List.setIfInBounds_toArray, List.set_cons_zero, List.set_cons_succ])
                      refine wpAnyH_take (i := 19 ) (v := ?_) rfl (by kernel_rfl) (by kernel_rfl) (by kernel_rfl) (fun _ _ _ h => h) (Or.inl ⟨by rfl, ?_⟩) (by assumption) ?_; rotate_left; (· (intro w0 hSw; have a0 := hSw.1.cell 0; have b0 := hSw.2.cell 0; have a1 := hSw.1.cell 1; have b1 := hSw.2.cell 1; have a2 := hSw.1.cell 2; have b2 := hSw.2.cell 2; have a3 := hSw.1.cell 3; have b3 := hSw.2.cell 3; clear hSw; go_simp); first | done | with_reducible rfl); (try simp only [Act.put, List.getElem_toArray, List.getElem_cons_succ, List.getElem_cons_zero, List.setIfInBounds_toArray, List.set_cons_zero, List.set_cons_succ])
                      refine wpAnyH_take (i := 20 ) (v := ?_) rfl (by kernel_rfl) (by kernel_rfl) (by kernel_rfl) (fun _ _ _ h => h) (Or.inl ⟨by rfl, ?_⟩) (by assumption) ?_; rotate_left; (· (intro w0 hSw; have a0 := hSw.1.cell 0; have b0 := hSw.2.cell 0; have a1 := hSw.1.cell 1; have b1 := hSw.2.cell 1; have a2 := hSw.1.cell 2; have b2 := hSw.2.cell 2; have a3 := hSw.1.cell 3; have b3 := hSw.2.cell 3; clear hSw; go_simp); first | done | with_reducible rfl); (try simp only [Act.put, List.getElem_toArray, List.getElem_cons_succ, List.getElem_cons_zero, List.setIfInBounds_toArray, List.set_cons_zero, List.set_cons_succ])
                      refine wpAnyH_take (i := 21 ) (v := ?_) rfl (by kernel_rfl) (by kernel_rfl) (by kernel_rfl) (fun _ _ _ h => h) (Or.inl ⟨by rfl, ?_⟩) (by assumption) ?_; rotate_left; (· (intro w0 hSw; have a0 := hSw.1.cell 0; have b0 := hSw.2.cell 0; have a1 := hSw.1.cell 1; have b1 := hSw.2.cell 1; have a2 := hSw.1.cell 2; have b2 := hSw.2.cell 2; have a3 := hSw.1.cell 3; have b3 := hSw.2.cell 3; clear hSw; go_simp); first | done | with_reducible rfl); (try simp only [Act.put, List.getElem_toArray, List.getElem_cons_succ, List.getElem_cons_zero, List.setIfInBounds_toArray, List.set_cons_zero, List.set_cons_succ])
                      refine wpAnyH_take (i := 22 ) (v := ?_) rfl (by kernel_rfl) (by kernel_rfl) (by kernel_rfl) (fun _ _ _ h => h) (Or.inl ⟨by rfl, ?_⟩) (by assumption) ?_; rotate_left; (· (intro w0 hSw; have a0 := hSw.1.cell 0; have b0 := hSw.2.cell 0; have a1 := hSw.1.cell 1; have b1 := hSw.2.cell 1; have a2 := hSw.1.cell 2; have b2 := hSw.2.cell 2; have a3 := hSw.1.cell 3; have b3 := hSw.2.cell 3; clear hSw; go_simp); first | done | with_reducible rfl); (try simp only [Act.put, List.getElem_toArray, List.getElem_cons_succ, List.getElem_cons_zero, List.setIfInBounds_toArray, List.set_cons_zero, List.set_cons_succ])
                      refine wpAnyH_take (i := 23 ) (v := ?_) rfl (by kernel_rfl) (by kernel_rfl) (by kernel_rfl) (fun _ _ _ h => h) (Or.inl ⟨by rfl, ?_⟩) (by assumption) ?_; rotate_left; (· (intro w0 hSw; have a0 := hSw.1.cell 0; have b0 := hSw.2.cell 0; have a1 := hSw.1.cell 1; have b1 := hSw.2.cell 1; have a2 := hSw.1.cell 2; have b2 := hSw.2.cell 2; have a3 := hSw.1.cell 3; have b3 := hSw.2.cell 3; clear hSw; go_simp); first | done | with_reducible rfl); (try simp only [Act.put, List.getElem_toArray, List.getElem_cons_succ, List.getElem_cons_zero, List.setIfInBounds_toArray, List.set_cons_zero, List.set_cons_succ])
                      refine wpAnyH_done (by kernel_rfl) ?_ _
                      clear w7 w8 w9 w10 w11 w12 w13 w14 w15 w16
                      have KJ := Lib.hid HS.out.k4
                      have KA := Lib.hid HS.out.k5
                      have KB := Lib.hid HS.out.k6
                      go_wp2_with (first | (with_reducible refine wpList_load_mid (by with_unfolding_all rfl) 25 _ (by with_unfolding_all rfl) _ _ (by with_unfolding_all rfl) [.int .i64 j.glue.lo, .int .i64 j.glue.hi, .int .i64 j.lead.lo, .int .i64 j.lead.hi, .int .i64 j.side.lo, .int .i64 j.side.hi, .int .i64 j.height.lo, .int .i64 j.height.hi, .int .i64 j.play, .int .i64 j.grooves] _ KJ.out.range (by with_unfolding_all rfl) (by with_unfolding_all rfl) (by kernel_rfl) ?_) | (with_reducible refine wpList_load_mid (by with_unfolding_all rfl) 37 _ (by with_unfolding_all rfl) _ _ (by with_unfolding_all rfl) [.int .i64 a.thick.lo, .int .i64 a.thick.hi, .int .i64 a.depth.lo, .int .i64 a.depth.hi, .int .i64 a.shift.lo, .int .i64 a.shift.hi, .int .i64 a.pitch.lo, .int .i64 a.pitch.hi] _ KA.out.range (by with_unfolding_all rfl) (by with_unfolding_all rfl) (by kernel_rfl) ?_) | (with_reducible refine wpList_load_mid (by with_unfolding_all rfl) 37 _ (by with_unfolding_all rfl) _ _ (by with_unfolding_all rfl) [.int .i64 b.thick.lo, .int .i64 b.thick.hi, .int .i64 b.depth.lo, .int .i64 b.depth.hi, .int .i64 b.shift.lo, .int .i64 b.shift.hi, .int .i64 b.pitch.lo, .int .i64 b.pitch.hi] _ KB.out.range (by with_unfolding_all rfl) (by with_unfolding_all rfl) (by kernel_rfl) ?_))
                      refine (HOF.out _).mono ?_
                      rintro e W9 ⟨rfl, hb⟩
                      replace HS := Lib.hid (HS.out.call hb)
                      replace K12 := Lib.hid (K12.out.below hb K12.out.lt)
                      replace K13 := Lib.hid (K13.out.below hb K13.out.lt)
                      replace HOW := Lib.hid (HOW.out.below hb)
                      clear hb KJ KA KB HOF
                      have hb : Below W9.heap.size W9 ((W9.alloc (.cells #[.int .i64 s0, .int .i64 s1] 23)).alloc (.cells #[.int .i64 g0, .int .i64 g1] 23)) := by repeat (first | exact Below.refl _ _ | assumption | refine Below.drew ?_ | refine Below.alloc ?_ (by first | omega | (simp only [World.size_alloc]; omega) | simp) _ | refine Below.setCell ?_ (by first | omega | (simp only [World.size_alloc]; omega) | simp) _)
                      replace HS := Lib.hid (HS.out.call hb)
                      replace K12 := Lib.hid (K12.out.below hb K12.out.lt)
                      replace K13 := Lib.hid (K13.out.below hb K13.out.lt)
                      replace HOW := Lib.hid (HOW.out.below hb)
                      have K14 : Hid (Blk ((W9.alloc (.cells #[.int .i64 s0, .int .i64 s1] 23)).alloc (.cells #[.int .i64 g0, .int .i64 g1] 23)) W9.heap.size 23 #[.int .i64 s0, .int .i64 s1]) := Lib.hid ((Blk.new _ _ _).alloc _)
                      have K15 : Hid (Blk ((W9.alloc (.cells #[.int .i64 s0, .int .i64 s1] 23)).alloc (.cells #[.int .i64 g0, .int .i64 g1] 23)) (W9.heap.size + 1) 23 #[.int .i64 g0, .int .i64 g1]) := Lib.hid (blk5 _ _ (by simp) rfl)
                      clear hb
                      go_upto_region 15 with fail
                      generalize World.alloc (World.alloc W9 _) _ = V9 at HS K12 K13 HOW K14 K15 ⊢
                      generalize W9.heap.size = q14 at K14 K15 ⊢
                      have a0 := K14.out.cell 0
                      have a1 := K14.out.cell 1
                      have b0 := K15.out.cell 0
                      have b1 := K15.out.cell 1
                      have ho1 : ¬ u < s0 := Int.not_lt.2 HUV.out.1.1
                      have ho2 : ¬ s1 < u := Int.not_lt.2 HUV.out.1.2
                      have ho3 : ¬ v < g0 := Int.not_lt.2 HUV.out.2.1
                      have ho4 : ¬ g1 < v := Int.not_lt.2 HUV.out.2.2
                      go_upto_region 17 with fail
                      clear a0 a1 b0 b1 ho1 ho2 ho3 ho4 K14 K15 HUV
                      by_cases hge : ge = 0
                      · have hge' : (ge == 0) = true := by rw [beq_iff_eq]; exact hge
                        have hgl := HGL.out hge
                        have hgk := HGK.out hge
                        have hkl : k < gr.length := by omega
                        have hkl' : (k : Int) < gr.length := by omega
                        have hll : ((gr.length : Int) == j.grooves) = true := by rw [beq_iff_eq, hgl, HN.out]
                        have hll' : (gr.length : Int) = j.grooves := by rw [hgl, HN.out]
                        obtain ⟨g9, cap9, he9, hg9, hat9⟩ := plan_cells HOW.out (by intro e; rw [e] at hkl; simp at hkl)
                        have hA2 : A2 = some ⟨g9, 0, none⟩ := by cases he9; rfl
                        have hc9 := hat9 k (.int .i64 gk) (by simp [intsV, hgk])
                        have hc9' : V9.cell? ⟨g9, k, none⟩ = some (.int .i64 gk) := by simpa [Addr.add_mid] using hc9
                        have ho1 : ¬ gk < -1 := by have := HGE.out; omega
                        have ho2 : ¬ (x.length : Int) ≤ gk := by have := HGE.out; omega
                        have j9 := HS.out.k4.cell 9
                        have HLX := Lib.hid (HLI.out hge)
                        have HC9 := Lib.hid hc9'
                        clear hgk hgl hkl he9 hat9 hc9 hge
                        go_upto_region 20 with fail
                        clear hll hll' ho1 ho2 j9
                        go_upto_region 21 with fail
                        clear hc9'
                        by_cases hno : gk = -1
                        · have hno' : (gk == -1) = true := by rw [beq_iff_eq]; exact hno
                          subst hno
                          clear HGT HGE HGK
                          replace HS := Lib.hid (HS.out.call (Below.refl _ _).drew)
                          replace K12 := Lib.hid (K12.out.below (Below.refl _ _).drew K12.out.lt)
                          replace K13 := Lib.hid (K13.out.below (Below.refl _ _).drew K13.out.lt)
                          replace HOW := Lib.hid (HOW.out.below (Below.refl _ _).drew)
                          refine wp_region_held_drew (S := fun W9 => Blk W9 g12 55 #[.int .i64 xt, .int .i64 xd, .int .i64 xs, .int .i64 xp]) (by kernel_rfl) K12.out (fun hH0 => ?_)
                          generalize World.drew _ = V0 at *
                          simp only [List.size_toArray, List.length_cons, List.length_nil, Nat.reduceAdd, Array.replicate_succ, Array.replicate_zero, List.push_toArray, List.nil_append, List.cons_append]
                          refine wpAnyH_take (i := 0 ) (v := ?_) rfl (by kernel_rfl) (by kernel_rfl) (by kernel_rfl) (fun _ _ _ h => h) (Or.inl ⟨by rfl, ?_⟩) (by assumption) ?_; rotate_left; (· (intro w0 hSw; clear hSw; go_simp); first | done | with_reducible rfl); (try simp only [Act.put, List.getElem_toArray, List.getElem_cons_zero, List.setIfInBounds_toArray, List.set_cons_zero, List.set_cons_succ])
                          refine wpAnyH_take (i := 1 ) (v := ?_) rfl (by kernel_rfl) (by kernel_rfl) (by kernel_rfl) (fun _ _ _ h => h) (Or.inl ⟨by rfl, ?_⟩) (by assumption) ?_; rotate_left; (· (intro w0 hSw; clear hSw; go_simp); first | done | with_reducible rfl); (try simp only [Act.put, List.getElem_toArray, List.getElem_cons_succ, List.getElem_cons_zero, List.setIfInBounds_toArray, List.set_cons_zero, List.set_cons_succ])
                          refine wpAnyH_take (i := 2 ) (v := ?_) rfl (by kernel_rfl) (by kernel_rfl) (by kernel_rfl) (fun _ _ _ h => h) (Or.inl ⟨by rfl, ?_⟩) (by assumption) ?_; rotate_left; (· (intro w0 hSw; clear hSw; go_simp); first | done | with_reducible rfl); (try simp only [Act.put, List.getElem_toArray, List.getElem_cons_succ, List.getElem_cons_zero, List.setIfInBounds_toArray, List.set_cons_zero, List.set_cons_succ])
                          refine wpAnyH_take (i := 3) (v := undef) rfl (by kernel_rfl) (by kernel_rfl) (by kernel_rfl) (fun _ _ _ h => h) (Or.inr ⟨by rfl, rfl⟩) (by assumption) ?_; (try simp only [Act.put, List.getElem_toArray, List.getElem_cons_succ, List.getElem_cons_zero, List.setIfInBounds_toArray, List.set_cons_zero, List.set_cons_succ])
                          refine wpAnyH_take (i := 4) (v := undef) rfl (by kernel_rfl) (by kernel_rfl) (by kernel_rfl) (fun _ _ _ h => h) (Or.inr ⟨by rfl, rfl⟩) (by assumption) ?_; (try simp only [Act.put, List.getElem_toArray, List.getElem_cons_succ, List.getElem_cons_zero, List.setIfInBounds_toArray, List.set_cons_zero, List.set_cons_succ])
                          refine wpAnyH_take (i := 5) (v := undef) rfl (by kernel_rfl) (by kernel_rfl) (by kernel_rfl) (fun _ _ _ h => h) (Or.inr ⟨by rfl, rfl⟩) (by assumption) ?_; (try simp only [Act.put, List.getElem_toArray, List.getElem_cons_succ, List.getElem_cons_zero, List.setIfInBounds_toArray, List.set_cons_zero, List.set_cons_succ])
                          refine wpAnyH_take (i := 6) (v := undef) rfl (by kernel_rfl) (by kernel_rfl) (by kernel_rfl) (fun _ _ _ h => h) (Or.inr ⟨by rfl, rfl⟩) (by assumption) ?_; (try simp only [Act.put, List.getElem_toArray, List.getElem_cons_succ, List.getElem_cons_zero, List.setIfInBounds_toArray, List.set_cons_zero, List.set_cons_succ])
                          refine wpAnyH_take (i := 7) (v := undef) rfl (by kernel_rfl) (by kernel_rfl) (by kernel_rfl) (fun _ _ _ h => h) (Or.inr ⟨by rfl, rfl⟩) (by assumption) ?_; (try simp only [Act.put, List.getElem_toArray, List.getElem_cons_succ, List.getElem_cons_zero, List.setIfInBounds_toArray, List.set_cons_zero, List.set_cons_succ])
                          refine wpAnyH_take (i := 8) (v := undef) rfl (by kernel_rfl) (by kernel_rfl) (by kernel_rfl) (fun _ _ _ h => h) (Or.inr ⟨by rfl, rfl⟩) (by assumption) ?_; (try simp only [Act.put, List.getElem_toArray, List.getElem_cons_succ, List.getElem_cons_zero, List.setIfInBounds_toArray, List.set_cons_zero, List.set_cons_succ])
                          refine wpAnyH_take (i := 9) (v := undef) rfl (by kernel_rfl) (by kernel_rfl) (by kernel_rfl) (fun _ _ _ h => h) (Or.inr ⟨by rfl, rfl⟩) (by assumption) ?_; (try simp only [Act.put, List.getElem_toArray, List.getElem_cons_succ, List.getElem_cons_zero, List.setIfInBounds_toArray, List.set_cons_zero, List.set_cons_succ])
                          refine wpAnyH_take (i := 10) (v := undef) rfl (by kernel_rfl) (by kernel_rfl) (by kernel_rfl) (fun _ _ _ h => h) (Or.inr ⟨by rfl, rfl⟩) (by assumption) ?_; (try simp only [Act.put, List.getElem_toArray, List.getElem_cons_succ, List.getElem_cons_zero, List.setIfInBounds_toArray, List.set_cons_zero, List.set_cons_succ])
                          refine wpAnyH_take (i := 11) (v := undef) rfl (by kernel_rfl) (by kernel_rfl) (by kernel_rfl) (fun _ _ _ h => h) (Or.inr ⟨by rfl, rfl⟩) (by assumption) ?_; (try simp only [Act.put, List.getElem_toArray, List.getElem_cons_succ, List.getElem_cons_zero, List.setIfInBounds_toArray, List.set_cons_zero, List.set_cons_succ])
                          refine wpAnyH_take (i := 12) (v := undef) rfl (by kernel_rfl) (by kernel_rfl) (by kernel_rfl) (fun _ _ _ h => h) (Or.inr ⟨by rfl, rfl⟩) (by assumption) ?_; (try simp only [Act.put, List.getElem_toArray, List.getElem_cons_succ, List.getElem_cons_zero, List.setIfInBounds_toArray, List.set_cons_zero, List.set_cons_succ])
                          refine wpAnyH_take (i := 13) (v := undef) rfl (by kernel_rfl) (by kernel_rfl) (by kernel_rfl) (fun _ _ _ h => h) (Or.inr ⟨by rfl, rfl⟩) (by assumption) ?_; (try simp only [Act.put, List.getElem_toArray, List.getElem_cons_succ, List.getElem_cons_zero, List.setIfInBounds_toArray, List.set_cons_zero, List.set_cons_succ])
                          refine wpAnyH_take (i := 14) (v := undef) rfl (by kernel_rfl) (by kernel_rfl) (by kernel_rfl) (fun _ _ _ h => h) (Or.inr ⟨by rfl, rfl⟩) (by assumption) ?_; (try simp only [Act.put, List.getElem_toArray, List.getElem_cons_succ, List.getElem_cons_zero, List.setIfInBounds_toArray, List.set_cons_zero, List.set_cons_succ])
                          refine wpAnyH_take (i := 15) (v := undef) rfl (by kernel_rfl) (by kernel_rfl) (by kernel_rfl) (fun _ _ _ h => h) (Or.inr ⟨by rfl, rfl⟩) (by assumption) ?_; (try simp only [Act.put, List.getElem_toArray, List.getElem_cons_succ, List.getElem_cons_zero, List.setIfInBounds_toArray, List.set_cons_zero, List.set_cons_succ])
                          refine wpAnyH_take (i := 16) (v := undef) rfl (by kernel_rfl) (by kernel_rfl) (by kernel_rfl) (fun _ _ _ h => h) (Or.inr ⟨by rfl, rfl⟩) (by assumption) ?_; (try simp only [Act.put, List.getElem_toArray, List.getElem_cons_succ, List.getElem_cons_zero, List.setIfInBounds_toArray, List.set_cons_zero, List.set_cons_succ])
                          refine wpAnyH_take (i := 17) (v := undef) rfl (by kernel_rfl) (by kernel_rfl) (by kernel_rfl) (fun _ _ _ h => h) (Or.inr ⟨by rfl, rfl⟩) (by assumption) ?_; (try simp only [Act.put, List.getElem_toArray, List.getElem_cons_succ, List.getElem_cons_zero, List.setIfInBounds_toArray, List.set_cons_zero, List.set_cons_succ])
                          refine wpAnyH_take (i := 18) (v := undef) rfl (by kernel_rfl) (by kernel_rfl) (by kernel_rfl) (fun _ _ _ h => h) (Or.inr ⟨by rfl, rfl⟩) (by assumption) ?_; (try simp only [Act.put, List.getElem_toArray, List.getElem_cons_succ, List.getElem_cons_zero, List.setIfInBounds_toArray, List.set_cons_zero, List.set_cons_succ])
                          refine wpAnyH_take (i := 19) (v := undef) rfl (by kernel_rfl) (by kernel_rfl) (by kernel_rfl) (fun _ _ _ h => h) (Or.inr ⟨by rfl, rfl⟩) (by assumption) ?_; (try simp only [Act.put, List.getElem_toArray, List.getElem_cons_succ, List.getElem_cons_zero, List.setIfInBounds_toArray, List.set_cons_zero, List.set_cons_succ])
                          refine wpAnyH_take (i := 20) (v := undef) rfl (by kernel_rfl) (by kernel_rfl) (by kernel_rfl) (fun _ _ _ h => h) (Or.inr ⟨by rfl, rfl⟩) (by assumption) ?_; (try simp only [Act.put, List.getElem_toArray, List.getElem_cons_succ, List.getElem_cons_zero, List.setIfInBounds_toArray, List.set_cons_zero, List.set_cons_succ])
                          refine wpAnyH_take (i := 21 ) (v := ?_) rfl (by kernel_rfl) (by kernel_rfl) (by kernel_rfl) (fun _ _ _ h => h) (Or.inl ⟨by rfl, ?_⟩) (by assumption) ?_; rotate_left; (· (intro w0 hSw; clear hSw; go_simp); first | done | with_reducible rfl); (try simp only [Act.put, List.getElem_toArray, List.getElem_cons_succ, List.getElem_cons_zero, List.setIfInBounds_toArray, List.set_cons_zero, List.set_cons_succ])
                          refine wpAnyH_done (by kernel_rfl) ?_ _
                          go_wp2_with fail
                          go_roundw
                          case rel => exact ⟨k + 1, cl2, Nat.succ_le_of_lt hlt, by go_num, rfl, HCL2, HS, K12, K13, HOW⟩
                          case measure => exact meas_lt hlt
                        · have hno' : (gk == -1) = false := by rw [beq_eq_false_iff_ne]; exact hno
                          obtain ⟨m, hm, rfl, hfin⟩ := HGT.out hno
                          obtain ⟨bC, oC, hCe, hbC, hatC⟩ := HC.out (by intro e; rw [e] at hm; simp at hm)
                          have hlq := hatC m hm
                          rw [← HS.out.hb.cell (p := ⟨bC, _, none⟩) hbC] at hlq
                          have hxq := HLX.out x[m] (List.getElem_mem hm)
                          obtain ⟨lim, hlim⟩ : ∃ v, x[m] = v := ⟨_, rfl⟩
                          rw [hlim] at hlq hxq hfin
                          have hm0 : (0 : Int) ≤ m := Int.natCast_nonneg m
                          have hm1 : (m : Int) < x.length := Int.ofNat_lt.2 hm
                          have HLQ := Lib.hid hlq
                          obtain ⟨z1, z2, z3, z4, z5⟩ := lim_wraps hu3 hv3 hxq
                          have z7 : ¬ 4 * lim * lim < u * u + v * v := Int.not_lt.2 hfin
                          clear HGT HGE HGK hatC hlq hlim hfin hxq
                          replace HS := Lib.hid (HS.out.call (Below.refl _ _).drew)
                          replace K12 := Lib.hid (K12.out.below (Below.refl _ _).drew K12.out.lt)
                          replace K13 := Lib.hid (K13.out.below (Below.refl _ _).drew K13.out.lt)
                          replace HOW := Lib.hid (HOW.out.below (Below.refl _ _).drew)
                          refine wp_region_held_drew (S := fun W9 => W9.cell? ⟨bC, oC + m, none⟩ = some (.int .i64 lim)) (by kernel_rfl) HLQ.out (fun hH0 => ?_)
                          generalize World.drew _ = V0 at *
                          simp only [List.size_toArray, List.length_cons, List.length_nil, Nat.reduceAdd, Array.replicate_succ, Array.replicate_zero, List.push_toArray, List.nil_append, List.cons_append]
                          refine wpAnyH_take (i := 0 ) (v := ?_) rfl (by kernel_rfl) (by kernel_rfl) (by kernel_rfl) (fun _ _ _ h => h) (Or.inl ⟨by rfl, ?_⟩) (by assumption) ?_; rotate_left; (· (intro w0 hSw; have c0 := hSw; clear hSw; go_simp); first | done | with_reducible rfl); (try simp only [Act.put, List.getElem_toArray, List.getElem_cons_zero, List.setIfInBounds_toArray, List.set_cons_zero, List.set_cons_succ])
                          refine wpAnyH_take (i := 1 ) (v := ?_) rfl (by kernel_rfl) (by kernel_rfl) (by kernel_rfl) (fun _ _ _ h => h) (Or.inl ⟨by rfl, ?_⟩) (by assumption) ?_; rotate_left; (· (intro w0 hSw; have c0 := hSw; clear hSw; go_simp); first | done | with_reducible rfl); (try simp only [Act.put, List.getElem_toArray, List.getElem_cons_succ, List.getElem_cons_zero, List.setIfInBounds_toArray, List.set_cons_zero, List.set_cons_succ])
                          refine wpAnyH_take (i := 2 ) (v := ?_) rfl (by kernel_rfl) (by kernel_rfl) (by kernel_rfl) (fun _ _ _ h => h) (Or.inl ⟨by rfl, ?_⟩) (by assumption) ?_; rotate_left; (· (intro w0 hSw; have c0 := hSw; clear hSw; go_simp); first | done | with_reducible rfl); (try simp only [Act.put, List.getElem_toArray, List.getElem_cons_succ, List.getElem_cons_zero, List.setIfInBounds_toArray, List.set_cons_zero, List.set_cons_succ])
                          refine wpAnyH_take (i := 3 ) (v := ?_) rfl (by kernel_rfl) (by kernel_rfl) (by kernel_rfl) (fun _ _ _ h => h) (Or.inl ⟨by rfl, ?_⟩) (by assumption) ?_; rotate_left; (· (intro w0 hSw; have c0 := hSw; clear hSw; go_simp); first | done | with_reducible rfl); (try simp only [Act.put, List.getElem_toArray, List.getElem_cons_succ, List.getElem_cons_zero, List.setIfInBounds_toArray, List.set_cons_zero, List.set_cons_succ])
                          refine wpAnyH_take (i := 4 ) (v := ?_) rfl (by kernel_rfl) (by kernel_rfl) (by kernel_rfl) (fun _ _ _ h => h) (Or.inl ⟨by rfl, ?_⟩) (by assumption) ?_; rotate_left; (· (intro w0 hSw; have c0 := hSw; clear hSw; go_simp); first | done | with_reducible rfl); (try simp only [Act.put, List.getElem_toArray, List.getElem_cons_succ, List.getElem_cons_zero, List.setIfInBounds_toArray, List.set_cons_zero, List.set_cons_succ])
                          refine wpAnyH_take (i := 5 ) (v := ?_) rfl (by kernel_rfl) (by kernel_rfl) (by kernel_rfl) (fun _ _ _ h => h) (Or.inl ⟨by rfl, ?_⟩) (by assumption) ?_; rotate_left; (· (intro w0 hSw; have c0 := hSw; clear hSw; go_simp); first | done | with_reducible rfl); (try simp only [Act.put, List.getElem_toArray, List.getElem_cons_succ, List.getElem_cons_zero, List.setIfInBounds_toArray, List.set_cons_zero, List.set_cons_succ])
                          refine wpAnyH_take (i := 6 ) (v := ?_) rfl (by kernel_rfl) (by kernel_rfl) (by kernel_rfl) (fun _ _ _ h => h) (Or.inl ⟨by rfl, ?_⟩) (by assumption) ?_; rotate_left; (· (intro w0 hSw; have c0 := hSw; clear hSw; go_simp); first | done | with_reducible rfl); (try simp only [Act.put, List.getElem_toArray, List.getElem_cons_succ, List.getElem_cons_zero, List.setIfInBounds_toArray, List.set_cons_zero, List.set_cons_succ])
                          refine wpAnyH_take (i := 7 ) (v := ?_) rfl (by kernel_rfl) (by kernel_rfl) (by kernel_rfl) (fun _ _ _ h => h) (Or.inl ⟨by rfl, ?_⟩) (by assumption) ?_; rotate_left; (· (intro w0 hSw; have c0 := hSw; clear hSw; go_simp); first | done | with_reducible rfl); (try simp only [Act.put, List.getElem_toArray, List.getElem_cons_succ, List.getElem_cons_zero, List.setIfInBounds_toArray, List.set_cons_zero, List.set_cons_succ])
                          refine wpAnyH_take (i := 8 ) (v := ?_) rfl (by kernel_rfl) (by kernel_rfl) (by kernel_rfl) (fun _ _ _ h => h) (Or.inl ⟨by rfl, ?_⟩) (by assumption) ?_; rotate_left; (· (intro w0 hSw; have c0 := hSw; clear hSw; go_simp); first | done | with_reducible rfl); (try simp only [Act.put, List.getElem_toArray, List.getElem_cons_succ, List.getElem_cons_zero, List.setIfInBounds_toArray, List.set_cons_zero, List.set_cons_succ])
                          refine wpAnyH_take (i := 9 ) (v := ?_) rfl (by kernel_rfl) (by kernel_rfl) (by kernel_rfl) (fun _ _ _ h => h) (Or.inl ⟨by rfl, ?_⟩) (by assumption) ?_; rotate_left; (· (intro w0 hSw; have c0 := hSw; clear hSw; go_simp); first | done | with_reducible rfl); (try simp only [Act.put, List.getElem_toArray, List.getElem_cons_succ, List.getElem_cons_zero, List.setIfInBounds_toArray, List.set_cons_zero, List.set_cons_succ])
                          refine wpAnyH_take (i := 10 ) (v := ?_) rfl (by kernel_rfl) (by kernel_rfl) (by kernel_rfl) (fun _ _ _ h => h) (Or.inl ⟨by rfl, ?_⟩) (by assumption) ?_; rotate_left; (· (intro w0 hSw; have c0 := hSw; clear hSw; go_simp); first | done | with_reducible rfl); (try simp only [Act.put, List.getElem_toArray, List.getElem_cons_succ, List.getElem_cons_zero, List.setIfInBounds_toArray, List.set_cons_zero, List.set_cons_succ])
                          refine wpAnyH_take (i := 11 ) (v := ?_) rfl (by kernel_rfl) (by kernel_rfl) (by kernel_rfl) (fun _ _ _ h => h) (Or.inl ⟨by rfl, ?_⟩) (by assumption) ?_; rotate_left; (· (intro w0 hSw; have c0 := hSw; clear hSw; go_simp); first | done | with_reducible rfl); (try simp only [Act.put, List.getElem_toArray, List.getElem_cons_succ, List.getElem_cons_zero, List.setIfInBounds_toArray, List.set_cons_zero, List.set_cons_succ])
                          refine wpAnyH_take (i := 12 ) (v := ?_) rfl (by kernel_rfl) (by kernel_rfl) (by kernel_rfl) (fun _ _ _ h => h) (Or.inl ⟨by rfl, ?_⟩) (by assumption) ?_; rotate_left; (· (intro w0 hSw; have c0 := hSw; clear hSw; go_simp); first | done | with_reducible rfl); (try simp only [Act.put, List.getElem_toArray, List.getElem_cons_succ, List.getElem_cons_zero, List.setIfInBounds_toArray, List.set_cons_zero, List.set_cons_succ])
                          refine wpAnyH_take (i := 13 ) (v := ?_) rfl (by kernel_rfl) (by kernel_rfl) (by kernel_rfl) (fun _ _ _ h => h) (Or.inl ⟨by rfl, ?_⟩) (by assumption) ?_; rotate_left; (· (intro w0 hSw; have c0 := hSw; clear hSw; go_simp); first | done | with_reducible rfl); (try simp only [Act.put, List.getElem_toArray, List.getElem_cons_succ, List.getElem_cons_zero, List.setIfInBounds_toArray, List.set_cons_zero, List.set_cons_succ])
                          refine wpAnyH_take (i := 14 ) (v := ?_) rfl (by kernel_rfl) (by kernel_rfl) (by kernel_rfl) (fun _ _ _ h => h) (Or.inl ⟨by rfl, ?_⟩) (by assumption) ?_; rotate_left; (· (intro w0 hSw; have c0 := hSw; clear hSw; go_simp); first | done | with_reducible rfl); (try simp only [Act.put, List.getElem_toArray, List.getElem_cons_succ, List.getElem_cons_zero, List.setIfInBounds_toArray, List.set_cons_zero, List.set_cons_succ])
                          refine wpAnyH_take (i := 15 ) (v := ?_) rfl (by kernel_rfl) (by kernel_rfl) (by kernel_rfl) (fun _ _ _ h => h) (Or.inl ⟨by rfl, ?_⟩) (by assumption) ?_; rotate_left; (· (intro w0 hSw; have c0 := hSw; clear hSw; go_simp); first | done | with_reducible rfl); (try simp only [Act.put, List.getElem_toArray, List.getElem_cons_succ, List.getElem_cons_zero, List.setIfInBounds_toArray, List.set_cons_zero, List.set_cons_succ])
                          refine wpAnyH_take (i := 16 ) (v := ?_) rfl (by kernel_rfl) (by kernel_rfl) (by kernel_rfl) (fun _ _ _ h => h) (Or.inl ⟨by rfl, ?_⟩) (by assumption) ?_; rotate_left; (· (intro w0 hSw; have c0 := hSw; clear hSw; go_simp); first | done | with_reducible rfl); (try simp only [Act.put, List.getElem_toArray, List.getElem_cons_succ, List.getElem_cons_zero, List.setIfInBounds_toArray, List.set_cons_zero, List.set_cons_succ])
                          refine wpAnyH_take (i := 17 ) (v := ?_) rfl (by kernel_rfl) (by kernel_rfl) (by kernel_rfl) (fun _ _ _ h => h) (Or.inl ⟨by rfl, ?_⟩) (by assumption) ?_; rotate_left; (· (intro w0 hSw; have c0 := hSw; clear hSw; go_simp); first | done | with_reducible rfl); (try simp only [Act.put, List.getElem_toArray, List.getElem_cons_succ, List.getElem_cons_zero, List.setIfInBounds_toArray, List.set_cons_zero, List.set_cons_succ])
                          refine wpAnyH_take (i := 18 ) (v := ?_) rfl (by kernel_rfl) (by kernel_rfl) (by kernel_rfl) (fun _ _ _ h => h) (Or.inl ⟨by rfl, ?_⟩) (by assumption) ?_; rotate_left; (· (intro w0 hSw; have c0 := hSw; clear hSw; go_simp); first | done | with_reducible rfl); (try simp only [Act.put, List.getElem_toArray, List.getElem_cons_succ, List.getElem_cons_zero, List.setIfInBounds_toArray, List.set_cons_zero, List.set_cons_succ])
                          refine wpAnyH_take (i := 19 ) (v := ?_) rfl (by kernel_rfl) (by kernel_rfl) (by kernel_rfl) (fun _ _ _ h => h) (Or.inl ⟨by rfl, ?_⟩) (by assumption) ?_; rotate_left; (· (intro w0 hSw; have c0 := hSw; clear hSw; go_simp); first | done | with_reducible rfl); (try simp only [Act.put, List.getElem_toArray, List.getElem_cons_succ, List.getElem_cons_zero, List.setIfInBounds_toArray, List.set_cons_zero, List.set_cons_succ])
                          refine wpAnyH_take (i := 20 ) (v := ?_) rfl (by kernel_rfl) (by kernel_rfl) (by kernel_rfl) (fun _ _ _ h => h) (Or.inl ⟨by rfl, ?_⟩) (by assumption) ?_; rotate_left; (· (intro w0 hSw; have c0 := hSw; clear hSw; go_simp); first | done | with_reducible rfl); (try simp only [Act.put, List.getElem_toArray, List.getElem_cons_succ, List.getElem_cons_zero, List.setIfInBounds_toArray, List.set_cons_zero, List.set_cons_succ])
                          refine wpAnyH_take (i := 21 ) (v := ?_) rfl (by kernel_rfl) (by kernel_rfl) (by kernel_rfl) (fun _ _ _ h => h) (Or.inl ⟨by rfl, ?_⟩) (by assumption) ?_; rotate_left; (· (intro w0 hSw; have c0 := hSw; clear hSw; go_simp); first | done | with_reducible rfl); (try simp only [Act.put, List.getElem_toArray, List.getElem_cons_succ, List.getElem_cons_zero, List.setIfInBounds_toArray, List.set_cons_zero, List.set_cons_succ])
                          refine wpAnyH_done (by kernel_rfl) ?_ _
                          go_wp2_with fail
                          go_roundw
                          case rel => exact ⟨k + 1, cl2, Nat.succ_le_of_lt hlt, by go_num, rfl, HCL2, HS, K12, K13, HOW⟩
                          case measure => exact meas_lt hlt
                      · have hge' : (ge == 0) = false := by rw [beq_eq_false_iff_ne]; exact hge
                        clear HGK HGT HGE
                        go_wp2_with fail
                        go_roundw
                        case rel => exact ⟨k + 1, cl2, Nat.succ_le_of_lt hlt, by go_num, rfl, HCL2, HS, K12, K13, HOW⟩
                        case measure => exact meas_lt hlt
                  · have _ : True := trivial
                    obtain rfl : N = k := by omega
                    have hkg : ¬ (N : Int) < j.grooves := by have := HN.out; omega
                    have hkg' : j.grooves ≤ (N : Int) := by have := HN.out; omega
                    have HCN : Hid (∀ W, Calls Try.prog 22 #[.agg #[.int .i64 j.glue.lo, .int .i64 j.glue.hi, .int .i64 j.lead.lo, .int .i64 j.lead.hi, .int .i64 j.side.lo, .int .i64 j.side.hi, .int .i64 j.height.lo, .int .i64 j.height.hi, .int .i64 j.play, .int .i64 j.grooves], .agg #[.int .i64 a.thick.lo, .int .i64 a.thick.hi, .int .i64 a.depth.lo, .int .i64 a.depth.hi, .int .i64 a.shift.lo, .int .i64 a.shift.hi, .int .i64 a.pitch.lo, .int .i64 a.pitch.hi], .agg #[.int .i64 b.thick.lo, .int .i64 b.thick.hi, .int .i64 b.depth.lo, .int .i64 b.depth.hi, .int .i64 b.shift.lo, .int .i64 b.shift.hi, .int .i64 b.pitch.lo, .int .i64 b.pitch.hi]] W (Ret (.tuple #[.int .i64 (closesN j a b), .int .i64 0]) W)) := Lib.hid fun W => by
                      have h9 := closesN_any j a b W
                      have e9 : cloE j a b = 0 := told_ok HOK.out.1 HOK.out.2.1 HOK.out.2.2 true rfl
                      rw [show cloN j a b = closesN j a b from if_pos e9, e9] at h9
                      exact h9
                    have HYS : Hid (closesN j a b = 2 → cl = true) := Lib.hid fun h => HCL.out.2 (by
                      obtain ⟨h1, h2⟩ := HT.out.yes HI.out.1 HI.out.2.1 HI.out.2.2 h
                      exact ⟨h1, fun i hi => h2 i (by omega) (by have := HN.out; omega)⟩)
                    have HNS : Hid (closesN j a b = 0 → cl = false) := Lib.hid fun h => Bool.eq_false_iff.2 fun hc => by
                      obtain ⟨h1, h2⟩ := HCL.out.1 hc
                      exact HT.out.no HI.out.1 HI.out.2.1 HI.out.2.2 h1 (fun i h3 h4 => by
                        obtain ⟨n, rfl⟩ := Int.eq_ofNat_of_zero_le h3
                        exact h2 n (by have := HN.out; omega)) h
                    have HRG := Lib.hid (clo_range j a b)
                    generalize closesN j a b = cn at *
                    clear HCL HT K12 K13 HGL HGQ HLI
                    have KJ := Lib.hid HS.out.k4
                    have KA := Lib.hid HS.out.k5
                    have KB := Lib.hid HS.out.k6
                    go_wp2_with (first | (with_reducible refine wpList_load_mid (by with_unfolding_all rfl) 25 _ (by with_unfolding_all rfl) _ _ (by with_unfolding_all rfl) [.int .i64 j.glue.lo, .int .i64 j.glue.hi, .int .i64 j.lead.lo, .int .i64 j.lead.hi, .int .i64 j.side.lo, .int .i64 j.side.hi, .int .i64 j.height.lo, .int .i64 j.height.hi, .int .i64 j.play, .int .i64 j.grooves] _ KJ.out.range (by with_unfolding_all rfl) (by with_unfolding_all rfl) (by kernel_rfl) ?_) | (with_reducible refine wpList_load_mid (by with_unfolding_all rfl) 37 _ (by with_unfolding_all rfl) _ _ (by with_unfolding_all rfl) [.int .i64 a.thick.lo, .int .i64 a.thick.hi, .int .i64 a.depth.lo, .int .i64 a.depth.hi, .int .i64 a.shift.lo, .int .i64 a.shift.hi, .int .i64 a.pitch.lo, .int .i64 a.pitch.hi] _ KA.out.range (by with_unfolding_all rfl) (by with_unfolding_all rfl) (by kernel_rfl) ?_) | (with_reducible refine wpList_load_mid (by with_unfolding_all rfl) 37 _ (by with_unfolding_all rfl) _ _ (by with_unfolding_all rfl) [.int .i64 b.thick.lo, .int .i64 b.thick.hi, .int .i64 b.depth.lo, .int .i64 b.depth.hi, .int .i64 b.shift.lo, .int .i64 b.shift.hi, .int .i64 b.pitch.lo, .int .i64 b.pitch.hi] _ KB.out.range (by with_unfolding_all rfl) (by with_unfolding_all rfl) (by kernel_rfl) ?_))
                    refine (HCN.out _).mono ?_
                    rintro e W8 ⟨rfl, hb⟩
                    replace HS := Lib.hid (HS.out.call hb)
                    clear hb KJ KA KB HCN HOW
                    go_upto_region 25 with fail
                    go_cut [272] from 248 to 272 (fun s wx => s = .bool false ∧ Hid (TnB w j a b wx))
                    case first =>
                      rcases HRG.out with rfl | rfl | rfl
                      · obtain rfl := HNS.out rfl
                        go_wp2_with fail
                        go_meet
                        exact ⟨rfl, HS⟩
                      · cases cl with
                        | false =>
                          go_wp2_with fail
                          go_meet
                          exact ⟨rfl, HS⟩
                        | true =>
                          go_wp2_with fail
                          go_meet
                          exact ⟨rfl, HS⟩
                      · obtain rfl := HYS.out rfl
                        go_wp2_with fail
                        go_meet
                        exact ⟨rfl, HS⟩
                    case rest => as_aux_lemma =>
                      obtain ⟨rfl, HS⟩ := hcut
                      by_cases hge : ge = 0
                      · have hge' : (ge == 0) = true := by rw [beq_iff_eq]; exact hge
                        obtain rfl : cn = 2 := HG0.out hge
                        clear hge
                        go_wp2_with fail
                        refine (alive05_any _).mono ?_; rintro e w9 ⟨rfl, hb9⟩; have HB := Lib.hid (HS.out.hb.trans (hb9.mono HS.out.hb.size)); clear HS hb9; go_wp2_with fail; go_ret; exact ⟨rfl, HB.out⟩
                      · have hge' : (ge == 0) = false := by rw [beq_eq_false_iff_ne]; exact hge
                        obtain rfl : gr = [] := HGN.out hge
                        by_cases h2 : cn = 2
                        · have h6 : (ge == 6) = false := by rw [beq_eq_false_iff_ne]; exact fun h => (HG6.out.1 h).1.1 h2
                          subst h2
                          go_wp2_with fail
                          refine (alive05_any _).mono ?_; rintro e w9 ⟨rfl, hb9⟩; have HB := Lib.hid (HS.out.hb.trans (hb9.mono HS.out.hb.size)); clear HS hb9; go_wp2_with fail; go_ret; exact ⟨rfl, HB.out⟩
                        · have h2' : (cn == 2) = false := by rw [beq_eq_false_iff_ne]; exact h2
                          have h2n : (cn != 2) = true := by rw [bne, h2']; rfl
                          by_cases h8 : x.length ≤ 8
                          · have h8' : (x.length : Int) ≤ 8 := by omega
                            have HRL := Lib.hid (rlims5_any)
                            go_wp2_with fail
                            refine (rlims5_any _ C cx x HXL.out (HC.out.on HS.out.hb (Nat.le_refl _))).mono ?_
                            rintro e W7 ⟨rfl, hb⟩
                            replace HS := Lib.hid (HS.out.call hb)
                            clear hb
                            cases hr : rlimB x with
                            | false =>
                              have h6 : (ge == 6) = false := by rw [beq_eq_false_iff_ne]; exact fun h => by have := (HG6.out.1 h).2; rw [hr] at this; cases this
                              have h6' : (ge != 6) = true := by rw [bne, h6]; rfl
                              have h6n : ¬ ge = 6 := by rw [beq_eq_false_iff_ne] at h6; exact h6
                              go_wp2_with fail
                              refine (alive05_any _).mono ?_; rintro e w9 ⟨rfl, hb9⟩; have HB := Lib.hid (HS.out.hb.trans (hb9.mono HS.out.hb.size)); clear HS hb9; go_wp2_with fail; go_ret; exact ⟨rfl, HB.out⟩
                            | true =>
                              have h6 : (ge == 6) = true := by rw [beq_iff_eq]; exact HG6.out.2 ⟨⟨h2, h8⟩, hr⟩
                              go_wp2_with fail
                              refine (alive05_any _).mono ?_; rintro e w9 ⟨rfl, hb9⟩; have HB := Lib.hid (HS.out.hb.trans (hb9.mono HS.out.hb.size)); clear HS hb9; go_wp2_with fail; go_ret; exact ⟨rfl, HB.out⟩
                          · have h8' : ¬ (x.length : Int) ≤ 8 := by omega
                            have h6 : (ge == 6) = false := by rw [beq_eq_false_iff_ne]; exact fun h => h8 (HG6.out.1 h).1.2
                            go_wp2_with fail
                            refine (alive05_any _).mono ?_; rintro e w9 ⟨rfl, hb9⟩; have HB := Lib.hid (HS.out.hb.trans (hb9.mono HS.out.hb.size)); clear HS hb9; go_wp2_with fail; go_ret; exact ⟨rfl, HB.out⟩
end Go.Proofs.Ytaafmfhpoimjhaa