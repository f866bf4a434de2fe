/- The law SlatTune: the walk. -/
import Derived.Test.YtbfamblbnfkpgaaWt
import Derived.Test.YtbfamblbnfkpgaaYn
namespace Go.Proofs.Ytbfamblbnfkpgaa
open Go.RowKit Go.Shelf

theorem CuS.start (w : World) (j : Jig) (A B : Option Addr) (n ca m cb : Nat) (lim : Int) : CuS (w.heap.size + 1) (w.heap.size + 1 + 1) (w.heap.size + 1 + 1 + 1) A B n ca m cb lim w ((((w.alloc (.cells #[.int .i64 j.glue.lo, .int .i64 j.glue.hi, .int .i64 j.lead.lo, .int .i64 j.lead.hi, .int .i64 j.side.lo, .int .i64 j.side.hi, .int .i64 j.height.lo, .int .i64 j.height.hi, .int .i64 j.play, .int .i64 j.grooves] 25)).alloc (.cells #[.slice A n ca] 26)).alloc (.cells #[.slice B m cb] 26)).alloc (.cells #[.int .i64 lim] 3)) ∧ Blk ((((w.alloc (.cells #[.int .i64 j.glue.lo, .int .i64 j.glue.hi, .int .i64 j.lead.lo, .int .i64 j.lead.hi, .int .i64 j.side.lo, .int .i64 j.side.hi, .int .i64 j.height.lo, .int .i64 j.height.hi, .int .i64 j.play, .int .i64 j.grooves] 25)).alloc (.cells #[.slice A n ca] 26)).alloc (.cells #[.slice B m cb] 26)).alloc (.cells #[.int .i64 lim] 3)) w.heap.size 25 #[.int .i64 j.glue.lo, .int .i64 j.glue.hi, .int .i64 j.lead.lo, .int .i64 j.lead.hi, .int .i64 j.side.lo, .int .i64 j.side.hi, .int .i64 j.height.lo, .int .i64 j.height.hi, .int .i64 j.play, .int .i64 j.grooves] :=
  ⟨⟨by repeat (first | exact Below.refl _ _ | assumption | refine Below.drew ?_ | refine Below.alloc ?_ (by first | omega | (simp only [World.size_alloc]; omega) | simp) _ | refine Below.setCell ?_ (by first | omega | (simp only [World.size_alloc]; omega) | simp) _), ((blk5 _ _ (by simp) rfl).alloc _).alloc _, (blk5 _ _ (by simp) rfl).alloc _, blk5 _ _ (by simp) rfl⟩, (((Blk.new _ _ _).alloc _).alloc _).alloc _⟩
theorem CuS.here {ql qu qm : Nat} {A B : Option Addr} {n ca m cb : Nat} {lim : Int} {w W : World} (h : CuS ql qu qm A B n ca m cb lim w W) : CuS ql qu qm A B n ca m cb lim W W := ⟨Below.refl _ _, h.kl, h.ku, h.km⟩
/-- What lies in the boxes of the law. -/
structure VtS (j : Jig) (A B : Option Addr) (n ca m cb : Nat) (lim : Int) (w W : World) : Prop where
  of : CuS (w.heap.size + 1) (w.heap.size + 1 + 1) (w.heap.size + 1 + 1 + 1) A B n ca m cb lim w W
  kj : Blk W w.heap.size 25 #[.int .i64 j.glue.lo, .int .i64 j.glue.hi, .int .i64 j.lead.lo, .int .i64 j.lead.hi, .int .i64 j.side.lo, .int .i64 j.side.hi, .int .i64 j.height.lo, .int .i64 j.height.hi, .int .i64 j.play, .int .i64 j.grooves]
theorem VtS.call {j : Jig} {A B : Option Addr} {n ca m cb : Nat} {lim : Int} {w W W' : World} (h : VtS j A B n ca m cb lim w W) (hb : Below W.heap.size W W') : VtS j A B n ca m cb lim w W' := ⟨h.of.call hb, h.kj.below hb h.kj.lt⟩
theorem res_off {j : Jig} {l u : List Slat} {lim s h : Int} : ((resT (j.off s h) lim l u).2 = true → (resT (j.off s h) lim l u).1 = (cntL (allL j l u) lim ⟨s, h⟩ : Int)) := by
  unfold resT
  split
  · intro h; cases h
  · intro _
    rw [cntZ_off]
theorem amt_maxes (a b : Int) : amtS ⟨a, b⟩ = max a (-a) + max b (-b) := rfl
theorem max_abs {a : Int} (h : -40 ≤ a ∧ a ≤ 40) : 0 ≤ max a (-a) ∧ max a (-a) ≤ 40 := by
  rw [Int.max_def]; split <;> omega
theorem rem81 {a : Int} (h : 0 ≤ a ∧ a ≤ 255) : a.tmod 81 = a % 81 ∧ 0 ≤ a % 81 ∧ a % 81 ≤ 80 := ⟨Int.tmod_eq_emod_of_nonneg h.1, by omega, by omega⟩
set_option maxRecDepth 100000 in
set_option maxHeartbeats 16000000 in
theorem tune05_any (w : World) (A B : Option Addr) (ca cb : Nat) (j : Jig) (l u : List Slat) (lim a b : Int) (h1 : l.length ≤ 9223372036854775807) (h2 : u.length ≤ 9223372036854775807) (hA : SlatSl w w.heap.size A l) (hB : SlatSl w w.heap.size B u) (ha : 0 ≤ a ∧ a ≤ 255) (hb : 0 ≤ b ∧ b ≤ 255) :
    Calls Try.prog 8 #[.agg #[.int .i64 j.glue.lo, .int .i64 j.glue.hi, .int .i64 j.lead.lo, .int .i64 j.lead.hi, .int .i64 j.side.lo, .int .i64 j.side.hi, .int .i64 j.height.lo, .int .i64 j.height.hi, .int .i64 j.play, .int .i64 j.grooves], .slice A l.length ca, .slice B u.length cb, .int .i64 lim, .int .u8 a, .int .u8 b] w (Ret (.bool true) w) := by
  have HTU := Lib.hid fun (V : World) (hV : Below w.heap.size w V) => tuneW_any V A B ca cb j l u lim h1 h2 (hA.on hV (Nat.le_refl _)) (hB.on hV (Nat.le_refl _))
  have HCT : Hid (tuneE j l u lim = 0 → allB j l u = true → ∀ (V : World) (s h : Int), VtS j A B l.length ca u.length cb lim w V → Calls Try.prog 30 #[.agg #[.int .i64 j.glue.lo, .int .i64 j.glue.hi, .int .i64 j.lead.lo, .int .i64 j.lead.hi, .int .i64 (j.side.lo + s), .int .i64 (j.side.hi + s), .int .i64 (j.height.lo + h), .int .i64 (j.height.hi + h), .int .i64 j.play, .int .i64 j.grooves], .pointer (some ⟨w.heap.size + 1, 0, none⟩), .pointer (some ⟨w.heap.size + 1 + 1, 0, none⟩), .pointer (some ⟨w.heap.size + 1 + 1 + 1, 0, none⟩)] V (Ret (.tuple #[.int .i64 (resT (j.off s h) lim l u).1, .bool (resT (j.off s h) lim l u).2]) V)) := Lib.hid fun hE hal V s h hS =>
    count6_any V _ _ _ A B ca cb j (j.off s h) l u lim hE hal (fun a b => always_off j a b s h) rfl (hA.on hS.of.hb (Nat.le_refl _)) (hB.on hS.of.hb (Nat.le_refl _)) hS.of.here
  have hl' : (l.length : Int) ≤ 9223372036854775807 := by omega
  have hl0 : (0 : Int) ≤ l.length := by omega
  have hu' : (u.length : Int) ≤ 9223372036854775807 := by omega
  have hu0 : (0 : Int) ≤ u.length := by omega
  have HS : Hid (VtS j A B l.length ca u.length cb lim w ((((w.alloc (.cells #[.int .i64 j.glue.lo, .int .i64 j.glue.hi, .int .i64 j.lead.lo, .int .i64 j.lead.hi, .int .i64 j.side.lo, .int .i64 j.side.hi, .int .i64 j.height.lo, .int .i64 j.height.hi, .int .i64 j.play, .int .i64 j.grooves] 25)).alloc (.cells #[.slice A l.length ca] 26)).alloc (.cells #[.slice B u.length cb] 26)).alloc (.cells #[.int .i64 lim] 3))) := Lib.hid ⟨(CuS.start w j A B l.length ca u.length cb lim).1, (CuS.start w j A B l.length ca u.length cb lim).2⟩
  obtain ⟨ra1, ra2, ra3⟩ := rem81 ha
  obtain ⟨rb1, rb2, rb3⟩ := rem81 hb
  have wa : IntKind.i64.wrap a = a := IntWalk.i64_in _ ⟨by omega, by omega⟩
  have wb : IntKind.i64.wrap b = b := IntWalk.i64_in _ ⟨by omega, by omega⟩
  have wa2 : IntKind.i64.wrap (a % 81) = a % 81 := IntWalk.i64_in _ ⟨by omega, by omega⟩
  have wb2 : IntKind.i64.wrap (b % 81) = b % 81 := IntWalk.i64_in _ ⟨by omega, by omega⟩
  have wa3 : IntKind.i64.wrap (a % 81 - 40) = a % 81 - 40 := IntWalk.i64_in _ ⟨by omega, by omega⟩
  have wb3 : IntKind.i64.wrap (b % 81 - 40) = b % 81 - 40 := IntWalk.i64_in _ ⟨by omega, by omega⟩
  obtain ⟨s, hs⟩ : ∃ s, a % 81 - 40 = s := ⟨_, rfl⟩
  obtain ⟨h, hh⟩ : ∃ h, b % 81 - 40 = h := ⟨_, rfl⟩
  have HSB : Hid ((-40 ≤ s ∧ s ≤ 40) ∧ -40 ≤ h ∧ h ≤ 40) := Lib.hid (by omega)
  rw [hs] at wa3
  rw [hh] at wb3
  have HW := Lib.hid (And.intro (And.intro wa (And.intro ra1 (And.intro wa2 wa3))) (And.intro wb (And.intro rb1 (And.intro wb2 wb3))))
  have HSH := Lib.hid (And.intro hs hh)
  clear hA hB h1 h2 wa wb wa2 wb2 wa3 wb3 ra1 ra2 ra3 rb1 rb2 rb3 ha hb hs hh
  go_enter Try.func8, Try.ntmps8
  go_upto_region 1 with fail
  generalize World.alloc (World.alloc (World.alloc (World.alloc w _) _) _) _ = V at HS ⊢
  have x1 := HS.out.of.kl.cell 0
  have x2 := HS.out.of.ku.cell 0
  by_cases c1 : 10 < l.length
  · have c1' : (10 : Int) < l.length := by omega
    go_wp2_with fail
    refine (alive05_any _).mono ?_; rintro e w9 ⟨rfl, hb9⟩; have HB9 := Lib.hid (HS.out.of.hb.trans (hb9.mono HS.out.of.hb.size)); clear HS hb9; go_wp2_with fail; go_ret; exact ⟨rfl, HB9.out⟩
  · have c1' : ¬ (10 : Int) < l.length := by omega
    by_cases c2 : 10 < u.length
    · have c2' : (10 : Int) < u.length := by omega
      go_wp2_with fail
      refine (alive05_any _).mono ?_; rintro e w9 ⟨rfl, hb9⟩; have HB9 := Lib.hid (HS.out.of.hb.trans (hb9.mono HS.out.of.hb.size)); clear HS hb9; go_wp2_with fail; go_ret; exact ⟨rfl, HB9.out⟩
    · have c2' : ¬ (10 : Int) < u.length := by omega
      have x3 := HS.out.of.km.cell 0
      have KJ := Lib.hid HS.out.kj
      go_wp2_with (with_reducible refine wpList_load_mid (by with_unfolding_all rfl) 25 _ (by with_unfolding_all rfl) _ _ (by with_unfolding_all rfl) [.int .i64 j.glue.lo, .int .i64 j.glue.hi, .int .i64 j.lead.lo, .int .i64 j.lead.hi, .int .i64 j.side.lo, .int .i64 j.side.hi, .int .i64 j.height.lo, .int .i64 j.height.hi, .int .i64 j.play, .int .i64 j.grooves] _ KJ.out.range (by with_unfolding_all rfl) (by with_unfolding_all rfl) (by kernel_rfl) ?_)
      refine (HTU.out _ HS.out.of.hb).mono ?_
      rintro e W1 ⟨rfl, hb⟩
      replace HS := Lib.hid (HS.out.call hb)
      clear hb KJ HTU x1 x2 x3
      by_cases hE : tuneE j l u lim = 0
      · cases hal : allB j l u with
        | false =>
          have hR : tuneR j l u lim = (zS, 0, 6) := by unfold tuneR; rw [if_pos hE, hal]; rfl
          rw [hR]
          clear hR hE hal HCT
          unfold zS
          dsimp only
          go_wp2_with fail
          refine (alive05_any _).mono ?_; rintro e w9 ⟨rfl, hb9⟩; have HB9 := Lib.hid (HS.out.of.hb.trans (hb9.mono HS.out.of.hb.size)); clear HS hb9; go_wp2_with fail; go_ret; exact ⟨rfl, HB9.out⟩
        | true =>
          have hR : tuneR j l u lim = ((tuneS (allL j l u) lim).1, (tuneS (allL j l u) lim).2, 0) := by unfold tuneR; rw [if_pos hE, hal]; rfl
          rw [hR]
          have HB5 := Lib.hid (tune_best (allL j l u) lim)
          have HC := Lib.hid (HCT.out hE hal)
          obtain ⟨hj1, -, ⟨hl7, hu7, -⟩, -, hlu⟩ := slErr_0 hE
          replace hlu : l.length = u.length := of_decide_eq_true hlu
          have hlu1 : (l.length : Int) = u.length := by omega
          have hlu2 : ((l.length : Int) == u.length) = true := by rw [beq_iff_eq]; exact hlu1
          have hjin := jigIn_of hj1
          have HJB : Hid ((-1000000 ≤ j.side.lo ∧ j.side.lo ≤ 1000000) ∧ (-1000000 ≤ j.side.hi ∧ j.side.hi ≤ 1000000) ∧ (-1000000 ≤ j.height.lo ∧ j.height.lo ≤ 1000000) ∧ -1000000 ≤ j.height.hi ∧ j.height.hi ≤ 1000000) := Lib.hid (by
            obtain ⟨jg0, jg1, jg2, jl0, jl1, jl2, js0, js1, js2, jh0, jh1, jh2, jp0, jp1, jn0, jn1⟩ := hjin
            omega)
          have HR1 := Lib.hid fun s h => @res_off j l u lim s h
          have HRJ : Hid (∀ V : World, Calls Try.prog 24 #[.agg #[.int .i64 j.glue.lo, .int .i64 j.glue.hi, .int .i64 j.lead.lo, .int .i64 j.lead.hi, .int .i64 j.side.lo, .int .i64 j.side.hi, .int .i64 j.height.lo, .int .i64 j.height.hi, .int .i64 j.play, .int .i64 j.grooves]] V (Ret (.bool true) V)) := Lib.hid fun V => by
            have h9 := rjig5_any j V
            rwa [hj1] at h9
          clear hR HCT hE hal hjin hj1 hlu
          generalize hts : tuneS (allL j l u) lim = ts at *
          clear hts
          generalize allL j l u = lds at *
          obtain ⟨⟨bs, bh⟩, bm⟩ := ts
          obtain ⟨⟨⟨b0, b1⟩, b2, b3⟩, hval, hbest⟩ := HB5.out
          dsimp only at b0 b1 b2 b3 hval hbest
          have HV := Lib.hid hval
          have HBT := Lib.hid hbest
          have HBI := Lib.hid (And.intro (And.intro b0 b1) (And.intro b2 b3))
          have n0 : ¬ bs < -40 := by omega
          have n1 : ¬ 40 < bs := by omega
          have n2 : ¬ bh < -40 := by omega
          have n3 : ¬ 40 < bh := by omega
          have x1 := HS.out.of.kl.cell 0
          have x2 := HS.out.of.ku.cell 0
          have jc0 := HS.out.kj.cell 0
          have jc1 := HS.out.kj.cell 1
          have jc2 := HS.out.kj.cell 2
          have jc3 := HS.out.kj.cell 3
          have jc4 := HS.out.kj.cell 4
          have jc5 := HS.out.kj.cell 5
          have jc6 := HS.out.kj.cell 6
          have jc7 := HS.out.kj.cell 7
          have jc8 := HS.out.kj.cell 8
          have jc9 := HS.out.kj.cell 9
          clear HB5 hval hbest b0 b1 b2 b3
          try dsimp only
          go_wp2_with fail
          refine (HRJ.out _).mono ?_
          rintro e W2 ⟨rfl, hb⟩
          replace HS := Lib.hid (HS.out.call hb)
          clear hb HRJ x1 x2 jc0 jc1 jc2 jc3 jc4 jc5 jc6 jc7 jc8 jc9
          have KJ := Lib.hid HS.out.kj
          go_wp2_with (with_reducible refine wpList_load_mid (by with_unfolding_all rfl) 25 _ (by with_unfolding_all rfl) _ _ (by with_unfolding_all rfl) [.int .i64 j.glue.lo, .int .i64 j.glue.hi, .int .i64 j.lead.lo, .int .i64 j.lead.hi, .int .i64 j.side.lo, .int .i64 j.side.hi, .int .i64 j.height.lo, .int .i64 j.height.hi, .int .i64 j.play, .int .i64 j.grooves] _ KJ.out.range (by with_unfolding_all rfl) (by with_unfolding_all rfl) (by kernel_rfl) ?_)
          refine (set5_any _ j bs bh HBI.out HJB.out).mono ?_
          rintro e W3 ⟨rfl, hb⟩
          replace HS := Lib.hid (HS.out.call hb)
          clear hb KJ n0 n1 n2 n3 hlu1 hlu2
          go_wp2_with fail
          refine (HC.out _ bs bh HS.out).mono ?_
          rintro e W4 ⟨rfl, hb⟩
          replace HS := Lib.hid (HS.out.call hb)
          clear hb
          have HRB := Lib.hid (HR1.out bs bh)
          obtain ⟨n1, hn1⟩ : ∃ v, (resT (j.off bs bh) lim l u).1 = v := ⟨_, rfl⟩
          obtain ⟨o1, ho1⟩ : ∃ v, (resT (j.off bs bh) lim l u).2 = v := ⟨_, rfl⟩
          rw [hn1, ho1] at HRB ⊢
          have HNE : Hid (o1 = true → n1 = bm) := Lib.hid fun h9 => by rw [HRB.out h9, HV.out]
          clear hn1 ho1 HRB HV
          obtain ⟨⟨wa, ra1, wa2, wa3⟩, wb, rb1, wb2, wb3⟩ := HW.out
          have hsa := HSH.out.1
          have hsb := HSH.out.2
          go_upto_region 10 with fail
          go_cut [100] (fun s100 wx => s100 = .bool false ∧ Hid (VtS j A B l.length ca u.length cb lim w wx))
          case first =>
            cases o1 with
            | true =>
              have hn : n1 = bm := HNE.out rfl
              have hnn : (n1 == bm) = true := by rw [beq_iff_eq]; exact hn
              have hnn2 : (n1 != bm) = false := by rw [bne, hnn]; rfl
              clear hn
              go_wp2_with fail
              go_meet
              exact ⟨rfl, HS⟩
            | false =>
              go_wp2_with fail
              go_meet
              exact ⟨rfl, HS⟩
          case rest => as_aux_lemma =>
            obtain ⟨rfl, HS⟩ := hcut
            have KJ := Lib.hid HS.out.kj
            go_wp2_with (with_reducible refine wpList_load_mid (by with_unfolding_all rfl) 25 _ (by with_unfolding_all rfl) _ _ (by with_unfolding_all rfl) [.int .i64 j.glue.lo, .int .i64 j.glue.hi, .int .i64 j.lead.lo, .int .i64 j.lead.hi, .int .i64 j.side.lo, .int .i64 j.side.hi, .int .i64 j.height.lo, .int .i64 j.height.hi, .int .i64 j.play, .int .i64 j.grooves] _ KJ.out.range (by with_unfolding_all rfl) (by with_unfolding_all rfl) (by kernel_rfl) ?_)
            clear wa ra1 wa2 wa3 wb rb1 wb2 wb3 hsa hsb HSH HW HNE
            refine (set5_any _ j s h HSB.out HJB.out).mono ?_
            rintro e W5 ⟨rfl, hb⟩
            replace HS := Lib.hid (HS.out.call hb)
            clear hb KJ
            go_wp2_with fail
            refine (HC.out _ s h HS.out).mono ?_
            rintro e W6 ⟨rfl, hb⟩
            replace HS := Lib.hid (HS.out.call hb)
            clear hb
            have HRB := Lib.hid (HR1.out s h)
            obtain ⟨m2, hm2⟩ : ∃ v, (resT (j.off s h) lim l u).1 = v := ⟨_, rfl⟩
            obtain ⟨o2, ho2⟩ : ∃ v, (resT (j.off s h) lim l u).2 = v := ⟨_, rfl⟩
            rw [hm2, ho2] at HRB ⊢
            clear hm2 ho2
            cases o2 with
            | false =>
              go_wp2_with fail
              refine (alive05_any _).mono ?_; rintro e w9 ⟨rfl, hb9⟩; have HB9 := Lib.hid (HS.out.of.hb.trans (hb9.mono HS.out.of.hb.size)); clear HS hb9; go_wp2_with fail; go_ret; exact ⟨rfl, HB9.out⟩
            | true =>
              have hm2 := HRB.out rfl
              obtain ⟨hle, hlt⟩ := HBT.out ⟨s, h⟩ HSB.out
              rw [← hm2] at hle hlt
              by_cases hlow : m2 < bm
              · go_wp2_with fail
                refine (alive05_any _).mono ?_; rintro e w9 ⟨rfl, hb9⟩; have HB9 := Lib.hid (HS.out.of.hb.trans (hb9.mono HS.out.of.hb.size)); clear HS hb9; go_wp2_with fail; go_ret; exact ⟨rfl, HB9.out⟩
              · obtain rfl : m2 = bm := by omega
                have hno := hlt rfl
                have hmm : (m2 == m2) = true := by simp
                unfold ltS at hno
                rw [amt_maxes, amt_maxes] at hno
                dsimp only at hno
                obtain ⟨⟨c0, c1⟩, c2, c3⟩ := HSB.out
                obtain ⟨⟨c4, c5⟩, c6, c7⟩ := HBI.out
                have d0 := max_abs ⟨c0, c1⟩
                have d1 := max_abs ⟨c2, c3⟩
                have d2 := max_abs ⟨c4, c5⟩
                have d3 := max_abs ⟨c6, c7⟩
                have w0 : IntKind.i64.wrap (-s) = -s := IntWalk.i64_in _ ⟨by omega, by omega⟩
                have w1 : IntKind.i64.wrap (-h) = -h := IntWalk.i64_in _ ⟨by omega, by omega⟩
                have w2 : IntKind.i64.wrap (-bs) = -bs := IntWalk.i64_in _ ⟨by omega, by omega⟩
                have w3 : IntKind.i64.wrap (-bh) = -bh := IntWalk.i64_in _ ⟨by omega, by omega⟩
                obtain ⟨e0, he0⟩ : ∃ v, max s (-s) = v := ⟨_, rfl⟩
                obtain ⟨e1, he1⟩ : ∃ v, max h (-h) = v := ⟨_, rfl⟩
                obtain ⟨e2, he2⟩ : ∃ v, max bs (-bs) = v := ⟨_, rfl⟩
                obtain ⟨e3, he3⟩ : ∃ v, max bh (-bh) = v := ⟨_, rfl⟩
                rw [he0] at d0 hno
                rw [he1] at d1 hno
                rw [he2] at d2 hno
                rw [he3] at d3 hno
                have w4 : IntKind.i64.wrap (e0 + e1) = e0 + e1 := IntWalk.i64_in _ ⟨by omega, by omega⟩
                have w5 : IntKind.i64.wrap (e2 + e3) = e2 + e3 := IntWalk.i64_in _ ⟨by omega, by omega⟩
                clear d0 d1 d2 d3 c0 c1 c2 c3 c4 c5 c6 c7 hm2 hle hlt HRB HBT HBI HSB HJB HC HR1
                go_upto_region 17 with fail
                clear w0 w1 w2 w3 w4 w5 he0 he1 he2 he3
                generalize e0 + e1 = far at *
                generalize e2 + e3 = own at *
                by_cases q1 : own < far
                · go_wp2_with fail
                  refine (alive05_any _).mono ?_; rintro e w9 ⟨rfl, hb9⟩; have HB9 := Lib.hid (HS.out.of.hb.trans (hb9.mono HS.out.of.hb.size)); clear HS hb9; go_wp2_with fail; go_ret; exact ⟨rfl, HB9.out⟩
                · have q2 : far = own := by omega
                  have q2' : (far == own) = true := by rw [beq_iff_eq]; exact q2
                  by_cases q3 : bs < s
                  · clear q2 hno
                    go_wp2_with fail
                    refine (alive05_any _).mono ?_; rintro e w9 ⟨rfl, hb9⟩; have HB9 := Lib.hid (HS.out.of.hb.trans (hb9.mono HS.out.of.hb.size)); clear HS hb9; go_wp2_with fail; go_ret; exact ⟨rfl, HB9.out⟩
                  · have q4 : s = bs := by omega
                    have q4' : (s == bs) = true := by rw [beq_iff_eq]; exact q4
                    have q5 : bh ≤ h := by omega
                    clear q2 q4 hno
                    go_wp2_with fail
                    refine (alive05_any _).mono ?_; rintro e w9 ⟨rfl, hb9⟩; have HB9 := Lib.hid (HS.out.of.hb.trans (hb9.mono HS.out.of.hb.size)); clear HS hb9; go_wp2_with fail; go_ret; exact ⟨rfl, HB9.out⟩
      · have hR : tuneR j l u lim = (zS, 0, tuneE j l u lim) := by unfold tuneR; rw [if_neg hE]
        rw [hR]
        have hne : (tuneE j l u lim == 0) = false := by rw [beq_eq_false_iff_ne]; exact hE
        have hne2 : (tuneE j l u lim != 0) = true := by rw [bne, hne]; rfl
        clear hR HCT
        generalize tuneE j l u lim = te at *
        unfold zS
        dsimp only
        go_wp2_with fail
        refine (alive05_any _).mono ?_; rintro e w9 ⟨rfl, hb9⟩; have HB9 := Lib.hid (HS.out.of.hb.trans (hb9.mono HS.out.of.hb.size)); clear HS hb9; go_wp2_with fail; go_ret; exact ⟨rfl, HB9.out⟩
end Go.Proofs.Ytbfamblbnfkpgaa