/- The law SlatBest: the walk. -/
import Derived.Test.YtbfamblbnfkpgaaWb
import Derived.Test.YtbfamblbnfkpgaaYn
namespace Go.Proofs.Ytbfamblbnfkpgaa
open Go.RowKit Go.Shelf

/-- A slice of bytes that were drawn. -/
def U8At (w : World) (b off : Nat) (l : List Int) : Prop := ∀ i (h : i < l.length), w.cell? ⟨b, off + i, none⟩ = some (.int .u8 l[i])
def U8Sl (w : World) (B : Nat) (A : Option Addr) (l : List Int) : Prop := l ≠ [] → ∃ b off, A = some ⟨b, off, none⟩ ∧ b < B ∧ U8At w b off l
theorem cnt_pair0 (g : Int → Int → Option Int) (L U : Nat) : cntB g 0 0 (pairT g L U L 0).1 = some (pairT g L U L 0).2 ∧ ∀ c ∈ (pairT g L U L 0).1, InU U 0 c := by
  have h := cnt_pair g L U L 0
  rwa [Int.sub_self] at h
theorem best_pair0 (g : Int → Int → Option Int) (L U : Nat) (q : List Int) (m : Int) (h1 : q.length = L) (h2 : ∀ c ∈ q, InU U 0 c) (h3 : cntB g 0 0 q = some m) : m ≤ (pairT g L U L 0).2 ∧ (m = (pairT g L U L 0).2 → LexB (pairT g L U L 0).1 q) := best_pair g L U L 0 q m h1 h2 (by rw [Int.sub_self]; exact h3)
/-- The other pairs, by remainders. -/
def othB (U : Nat) (ys : List Int) (k : Nat) : List Int := (List.range k).map fun i => ys.getD (i % ys.length) 0 % ((U : Int) + 1) - 1
theorem oth_succ (U : Nat) (ys : List Int) (k : Nat) : othB U ys (k + 1) = othB U ys k ++ [ys.getD (k % ys.length) 0 % ((U : Int) + 1) - 1] := by simp [othB, List.range_succ]
theorem oth_len (U : Nat) (ys : List Int) (k : Nat) : (othB U ys k).length = k := by simp [othB]
theorem oth_in (U : Nat) (ys : List Int) (k : Nat) : ∀ d ∈ othB U ys k, InU U 0 d := fun d hd => by
  simp only [othB, List.mem_map] at hd
  obtain ⟨i, -, rfl⟩ := hd
  have h1 := Int.emod_nonneg (ys.getD (i % ys.length) 0) (show ((U : Int) + 1) ≠ 0 by omega)
  have h2 := Int.emod_lt_of_pos (ys.getD (i % ys.length) 0) (show (0 : Int) < (U : Int) + 1 by omega)
  unfold InU
  omega
theorem rem_natB (a b : Nat) : (a : Int).tmod (b : Int) = ((a % b : Nat) : Int) := by rw [Int.tmod_eq_emod_of_nonneg (by omega)]; rfl
theorem own_geB {W : World} {B : Nat} {e : TypeId} {size : Nat} {v : Value} {k : Nat} {xs : List Value} (hr : W.ownsRow B e size v k xs) : ∀ g, v.ownBlock = some g → B ≤ g := by
  rcases hr.2 with ⟨rfl, _⟩ | ⟨g, cap, cur, rfl, hg, hgb, _⟩
  · simp [Value.ownBlock]
  · intro g' e'
    have : g = g' := by simpa [Value.ownBlock] using e'
    omega
theorem below_appendB {w W V V' : World} {e : TypeId} {size : Nat} {v : Value} {k : Nat} {xs : List Value} (hB : w.heap.size ≤ W.heap.size) (ho : W.ownsRow w.heap.size e size v k xs) (hb : Below W.heap.size W V) (hg : V.grownBy V' v.ownBlock) : Below w.heap.size W V' :=
  (hb.mono hB).grown hg (Nat.le_trans hB hb.size) (own_geB ho)
theorem two_cellsB {B b1 o1 b2 o2 : Nat} {v1 v2 : Value} {W V : World} (h : W.cell? ⟨b1, o1, none⟩ = some v1 ∧ W.cell? ⟨b2, o2, none⟩ = some v2) (hb : Below B W V) (h1 : b1 < B) (h2 : b2 < B) : V.cell? ⟨b1, o1, none⟩ = some v1 ∧ V.cell? ⟨b2, o2, none⟩ = some v2 :=
  ⟨(hb.cell (p := ⟨b1, _, none⟩) h1).trans h.1, (hb.cell (p := ⟨b2, _, none⟩) h2).trans h.2⟩
def LbC (bY oY j q : Nat) (y : Int) (A : Option Addr) (n c : Nat) (W : World) : Prop := W.cell? ⟨bY, oY + j, none⟩ = some (.int .u8 y) ∧ W.cell? ⟨q, 0, none⟩ = some (.slice A n c)
theorem plan_formB {W : World} {B k : Nat} {v : Value} {l : List Int} (h : W.ownsRow B 3 1 v k (l.map (Value.int .i64))) (hk : k = l.length) : ∃ P c, v = .slice P l.length c ∧ PlanAt W (.slice P l.length c) l := by
  subst hk
  have h0 : W.ownsRow 0 3 1 v l.length (intsV l) := by
    refine ⟨by simp [intsV], ?_⟩
    rcases h.2 with ⟨h1, h2⟩ | ⟨g, cap, cur, h1, h2, h3⟩
    · exact .inl ⟨h1, h2⟩
    · exact .inr ⟨g, cap, cur, h1, Nat.zero_le _, h3⟩
  rcases h.2 with ⟨h1, h2⟩ | ⟨g, cap, cur, h1, -⟩
  · obtain rfl : l = [] := List.eq_nil_of_length_eq_zero h2
    exact ⟨none, 0, h1, World.ownsRow_nil _ _ _ _⟩
  · exact ⟨some ⟨g, 0, none⟩, cap, h1, by rw [h1] at h0; exact h0⟩
theorem CtS.start (w : World) (j : Jig) (A B : Option Addr) (n ca m cb : Nat) (lim : Int) : CtS w.heap.size (w.heap.size + 1) (w.heap.size + 1 + 1) (w.heap.size + 1 + 1 + 1) j A B n ca m cb lim w ((((w.alloc (.cells #[.int .i64 j.glue.lo, .int .i64 j.glue.hi, .int .i64 j.lead.lo, .int .i64 j.lead.hi, .int .i64 j.side.lo, .int .i64 j.side.hi, .int .i64 j.height.lo, .int .i64 j.height.hi, .int .i64 j.play, .int .i64 j.grooves] 25)).alloc (.cells #[.slice A n ca] 26)).alloc (.cells #[.slice B m cb] 26)).alloc (.cells #[.int .i64 lim] 3)) :=
  ⟨by repeat (first | exact Below.refl _ _ | assumption | refine Below.drew ?_ | refine Below.alloc ?_ (by first | omega | (simp only [World.size_alloc]; omega) | simp) _ | refine Below.setCell ?_ (by first | omega | (simp only [World.size_alloc]; omega) | simp) _), (((Blk.new _ _ _).alloc _).alloc _).alloc _, ((blk5 _ _ (by simp) rfl).alloc _).alloc _, (blk5 _ _ (by simp) rfl).alloc _, blk5 _ _ (by simp) rfl⟩
theorem CtS.here {qj ql qu qm : Nat} {j : Jig} {A B : Option Addr} {n ca m cb : Nat} {lim : Int} {w W : World} (h : CtS qj ql qu qm j A B n ca m cb lim w W) : CtS qj ql qu qm j A B n ca m cb lim W W := ⟨Below.refl _ _, h.kj, h.kl, h.ku, h.km⟩
set_option maxRecDepth 100000 in
set_option maxHeartbeats 16000000 in
theorem best05_any (w : World) (A B Y : Option Addr) (ca cb cy : Nat) (j : Jig) (l u : List Slat) (lim : Int) (ys : List Int) (h1 : l.length ≤ 9223372036854775807) (h2 : u.length ≤ 9223372036854775807) (hy : ys.length ≤ 9223372036854775807) (hA : SlatSl w w.heap.size A l) (hB : SlatSl w w.heap.size B u) (hY : U8Sl w w.heap.size Y ys) (hyb : ∀ y ∈ ys, 0 ≤ y ∧ y ≤ 255) :
    Calls Try.prog 7 #[.agg #[.int .i64 j.glue.lo, .int .i64 j.glue.hi, .int .i64 j.lead.lo, .int .i64 j.lead.hi, .int .i64 j.side.lo, .int .i64 j.side.hi, .int .i64 j.height.lo, .int .i64 j.height.hi, .int .i64 j.play, .int .i64 j.grooves], .slice A l.length ca, .slice B u.length cb, .int .i64 lim, .slice Y ys.length cy] w (Ret (.bool true) w) := by
  have HPA := Lib.hid fun (V : World) (hV : Below w.heap.size w V) => pairW_any V A B ca cb j l u lim h1 h2 (hA.on hV (Nat.le_refl _)) (hB.on hV (Nat.le_refl _))
  have HCT : Hid (pairE j l u lim = 0 → ∀ (V : World) (P : Option Addr) (cp : Nat) (q : List Int), q.length = l.length → (∀ c ∈ q, InU u.length 0 c) → IntSl V V.heap.size P q → CtS w.heap.size (w.heap.size + 1) (w.heap.size + 1 + 1) (w.heap.size + 1 + 1 + 1) j A B l.length ca u.length cb lim w V → Calls Try.prog 29 #[.slice P q.length cp, .pointer (some ⟨w.heap.size + 1 + 1, 0, none⟩), .pointer (some ⟨w.heap.size, 0, none⟩), .pointer (some ⟨w.heap.size + 1, 0, none⟩), .pointer (some ⟨w.heap.size + 1 + 1 + 1, 0, none⟩)] V (Ret (.tuple #[.int .i64 ((cntB (pairS j l u lim) 0 0 q).getD 0), .bool (cntB (pairS j l u lim) 0 0 q).isSome]) V)) := Lib.hid fun hE V P cp q hq hr hP hS =>
    count5_any V _ _ _ _ A B P ca cb cp j l u lim q hE hq hr hP (hA.on hS.hb (Nat.le_refl _)) (hB.on hS.hb (Nat.le_refl _)) hS.here
  have HY := Lib.hid hY
  have HYB := Lib.hid hyb
  have hy' : (ys.length : Int) ≤ 9223372036854775807 := by omega
  have hy0 : (0 : Int) ≤ ys.length := by omega
  have hl' : (l.length : Int) ≤ 9223372036854775807 := by omega
  have hl0 : (0 : Int) ≤ l.length := by omega
  have hu' : (u.length : Int) ≤ 9223372036854775807 := by omega
  have hu0 : (0 : Int) ≤ u.length := by omega
  have HS := Lib.hid (CtS.start w j A B l.length ca u.length cb lim)
  clear hA hB hY hyb hy h1 h2
  go_enter Try.func7, Try.ntmps7
  go_upto_region 1 with fail
  generalize World.alloc (World.alloc (World.alloc (World.alloc w _) _) _) _ = V at HS ⊢
  have x1 := HS.out.kl.cell 0
  have x2 := HS.out.ku.cell 0
  by_cases c1 : 10 < l.length
  · have c1' : (10 : Int) < l.length := by omega
    go_wp2_with fail
    refine (alive05_any _).mono ?_; rintro e w9 ⟨rfl, hb9⟩; have HB9 := Lib.hid (HS.out.hb.trans (hb9.mono HS.out.hb.size)); clear HS hb9; go_wp2_with fail; go_ret; exact ⟨rfl, HB9.out⟩
  · have c1' : ¬ (10 : Int) < l.length := by omega
    by_cases c2 : 10 < u.length
    · have c2' : (10 : Int) < u.length := by omega
      go_wp2_with fail
      refine (alive05_any _).mono ?_; rintro e w9 ⟨rfl, hb9⟩; have HB9 := Lib.hid (HS.out.hb.trans (hb9.mono HS.out.hb.size)); clear HS hb9; go_wp2_with fail; go_ret; exact ⟨rfl, HB9.out⟩
    · have c2' : ¬ (10 : Int) < u.length := by omega
      by_cases c3 : ys.length = 0
      · have c3' : ((ys.length : Int) == 0) = true := by rw [beq_iff_eq]; omega
        have c3'' : (ys.length : Int) = 0 := by omega
        go_wp2_with fail
        refine (alive05_any _).mono ?_; rintro e w9 ⟨rfl, hb9⟩; have HB9 := Lib.hid (HS.out.hb.trans (hb9.mono HS.out.hb.size)); clear HS hb9; go_wp2_with fail; go_ret; exact ⟨rfl, HB9.out⟩
      · have c3' : ((ys.length : Int) == 0) = false := by rw [beq_eq_false_iff_ne]; omega
        have c3'' : ¬ (ys.length : Int) = 0 := by omega
        have HYN := Lib.hid c3
        have x3 := HS.out.km.cell 0
        have KJ := Lib.hid HS.out.kj
        clear c3
        go_wp2_with (with_reducible refine wpList_load_mid (by with_unfolding_all rfl) 25 _ (by with_unfolding_all rfl) _ _ (by with_unfolding_all rfl) [.int .i64 j.glue.lo, .int .i64 j.glue.hi, .int .i64 j.lead.lo, .int .i64 j.lead.hi, .int .i64 j.side.lo, .int .i64 j.side.hi, .int .i64 j.height.lo, .int .i64 j.height.hi, .int .i64 j.play, .int .i64 j.grooves] _ KJ.out.range (by with_unfolding_all rfl) (by with_unfolding_all rfl) (by kernel_rfl) ?_)
        refine (HPA.out _ HS.out.hb).mono ?_
        rintro e W1 ⟨A1, q1, rfl, hp1, hb⟩
        replace HS := Lib.hid (HS.out.call hb)
        have HP := Lib.hid hp1
        clear hb hp1 KJ HPA x1 x2 x3
        by_cases hE : pairE j l u lim = 0
        · obtain ⟨-, -, ⟨hl7, hu7, -⟩, hlim, -⟩ := slErr_0 hE
          obtain ⟨hm0, hm1⟩ := lims_in hlim lim (by simp)
          have hR : pairR j l u lim = (pairT (pairS j l u lim) l.length u.length l.length 0, 0) := by unfold pairR; rw [if_pos hE]
          rw [hR] at HP ⊢
          have HC := Lib.hid (HCT.out hE)
          have HCP := Lib.hid (cnt_pair0 (pairS j l u lim) l.length u.length)
          have HBP := Lib.hid (best_pair0 (pairS j l u lim) l.length u.length)
          have HLN : Hid ((pairT (pairS j l u lim) l.length u.length l.length 0).1.length = l.length) := Lib.hid (pairT_ok (pairS_ok (jigIn_of (slErr_0 hE).1)) l.length 0).1
          have HPI := Lib.hid HCP.out.2
          replace HCP := Lib.hid HCP.out.1
          clear HCT hR hlim hE
          generalize pairS j l u lim = G at *
          generalize pairT G l.length u.length l.length 0 = r at *
          obtain ⟨pw, pn⟩ := r
          have hpl : (pw.length : Int) = l.length := by have := HLN.out; dsimp only at this; omega
          have hpl' : ((pw.length : Int) == l.length) = true := by rw [beq_iff_eq]; exact hpl
          have hpn : ((pw.length : Int) != l.length) = false := by rw [bne, hpl']; rfl
          have t1 : ¬ (7 : Int) < l.length := by omega
          have t2 : ¬ (7 : Int) < u.length := by omega
          have t3 : ¬ lim < 0 := by omega
          have t4 : ¬ 1000 < lim := by omega
          have x1 := HS.out.kl.cell 0
          have x2 := HS.out.ku.cell 0
          have x3 := HS.out.km.cell 0
          dsimp only at HP HCP HBP HLN HPI ⊢
          go_wp2_with fail
          clear x1 x2 x3 t1 t2 t3 t4
          refine (HC.out _ _ _ pw HLN.out HPI.out (plan_sl5 HP.out) HS.out).mono ?_
          rw [HCP.out]
          rintro e W2 ⟨rfl, hb⟩
          replace HS := Lib.hid (HS.out.call hb)
          replace HP := Lib.hid (HP.out.below hb)
          clear hb
          try dsimp only [Option.getD, Option.isSome]
          have hnn : (pn == pn) = true := by simp
          have hnn2 : (pn != pn) = false := by simp
          have x1 := HS.out.kl.cell 0
          go_wp2_with fail
          clear x1 hnn hnn2 hpl' hpn
          have hS4 : W2.ownsRow W2.heap.size 3 1 (.slice none 0 0) 0 ((othB u.length ys 0).map (Value.int .i64)) := World.ownsRow_nil _ _ _ _
          have HW4 := Lib.hid hS4
          have hul : (u.length : Int) ≤ 7 := by omega
          have hll : (l.length : Int) ≤ 7 := by omega
          clear hS4
          go_loopw [17, 95] (fun v i wr => ∃ k : Nat, k ≤ l.length ∧ i = .int .i64 k ∧ Hid (wr.ownsRow W2.heap.size 3 1 v k ((othB u.length ys k).map (Value.int .i64))) ∧ Hid (Below W2.heap.size W2 wr)) (fun _ i _ => l.length - (intOf i).toNat)
          case atStart => exact ⟨0, by omega, rfl, HW4, Lib.hid (Below.refl _ _)⟩
          case round =>
            clear HW4
            obtain ⟨k, hk, rfl, HOWN, HB⟩ := hrel
            by_cases hlt : k < l.length
            · have HSR := Lib.hid (HS.out.call HB.out)
              obtain ⟨bY, oY, rfl, hbY0, hat⟩ := HY.out (by intro e; rw [e] at c3'; simp at c3')
              have hbY : bY < W2.heap.size := Nat.lt_of_lt_of_le hbY0 HS.out.hb.size
              have hyl : 0 < ys.length := Nat.pos_of_ne_zero HYN.out
              have hj := Nat.mod_lt k hyl
              have y0 := hat (k % ys.length) hj
              have hgd : ys.getD (k % ys.length) 0 = ys[k % ys.length] := by simp [List.getD_eq_getElem?_getD, hj]
              have hyb := HYB.out ys[k % ys.length] (List.getElem_mem hj)
              have HNX := Lib.hid (oth_succ u.length ys k)
              rw [← HSR.out.hb.cell (p := ⟨bY, _, none⟩) hbY0] at y0
              rw [← hgd] at y0 hyb
              clear hat hgd hbY0
              have r0 : (k : Int).tmod (ys.length : Int) = ((k % ys.length : Nat) : Int) := rem_natB k ys.length
              generalize ys.getD (k % ys.length) 0 = y at *
              generalize k % ys.length = jj at *
              have r1 : y.tmod ((u.length : Int) + 1) = y % ((u.length : Int) + 1) := Int.tmod_eq_emod_of_nonneg hyb.1
              have hwy : IntKind.i64.wrap y = y := IntWalk.i64_in _ ⟨by omega, by omega⟩
              have hd0 := Int.emod_nonneg y (show ((u.length : Int) + 1) ≠ 0 by omega)
              have hd1 := Int.emod_lt_of_pos y (show (0 : Int) < (u.length : Int) + 1 by omega)
              generalize y % ((u.length : Int) + 1) = d at *
              have hwd : IntKind.i64.wrap d = d := IntWalk.i64_in _ ⟨by omega, by omega⟩
              have hwd1 : IntKind.i64.wrap (d - 1) = d - 1 := IntWalk.i64_in _ ⟨by omega, by omega⟩
              have hwu : IntKind.i64.wrap ((u.length : Int) + 1) = (u.length : Int) + 1 := IntWalk.i64_in _ ⟨by omega, by omega⟩
              have hwj : IntKind.i64.wrap (jj : Int) = (jj : Int) := IntWalk.i64_in _ ⟨by omega, by omega⟩
              have hj0 : (0 : Int) ≤ jj := by omega
              have hjl : (jj : Int) < ys.length := by omega
              have hk0 : (0 : Int) ≤ k := by omega
              have hkl : (k : Int) < l.length := by omega
              have x0 := HSR.out.ku.cell 0
              have hS0 : wr.cell? ⟨bY, oY + jj, none⟩ = some (.int .u8 y) ∧ wr.cell? ⟨w.heap.size + 1 + 1, 0, none⟩ = some (.slice B u.length cb) := ⟨y0, x0⟩
              have HS0 := Lib.hid hS0
              have hsz := HB.out.size
              have hwq : w.heap.size + 1 + 1 < W2.heap.size := HS.out.ku.lt
              have hbo : Below wr.heap.size wr wr.drew := (Below.refl _ _).drew
              generalize hxs : (othB u.length ys k).map (Value.int .i64) = xs at *
              obtain ⟨i0, hi, hz0, hz1, hz2⟩ := info_parts planInfo
              have hnz : ys.length ≠ 0 := HYN.out
              have hnd : ((u.length : Int) + 1 == 0) = false := by rw [beq_eq_false_iff_ne]; omega
              have hnd2 : (u.length : Int) + 1 ≠ 0 := by omega
              clear x0 y0 HSR
              go_wp2_with fail
              refine wp_region_held_drew (S := LbC bY oY jj (w.heap.size + 1 + 1) y B u.length cb) (by kernel_rfl) hS0 (fun hH0 => ?_)
              simp only [List.size_toArray, List.length_cons, List.length_nil, Nat.reduceAdd, Array.replicate_succ, Array.replicate_zero, List.push_toArray, List.nil_append, List.cons_append]
              refine wpAnyH_take (i := 0 ) (v := ?_) rfl (by kernel_rfl) (by kernel_rfl) (by kernel_rfl) (fun _ _ _ h => h) (Or.inl ⟨by rfl, ?_⟩) (by assumption) ?_; rotate_left; (· (intro w0 hSw; obtain ⟨q0, q1⟩ := hSw; go_simp); first | done | with_reducible rfl); (try simp only [Act.put, List.getElem_toArray, List.getElem_cons_zero, List.setIfInBounds_toArray, List.set_cons_zero, List.set_cons_succ])
              refine wpAnyH_take (i := 1 ) (v := ?_) rfl (by kernel_rfl) (by kernel_rfl) (by kernel_rfl) (fun _ _ _ h => h) (Or.inl ⟨by rfl, ?_⟩) (by assumption) ?_; rotate_left; (· (intro w0 hSw; obtain ⟨q0, q1⟩ := hSw; go_simp); first | done | with_reducible rfl); (try simp only [Act.put, List.getElem_toArray, List.getElem_cons_succ, List.getElem_cons_zero, List.setIfInBounds_toArray, List.set_cons_zero, List.set_cons_succ])
              refine wpAnyH_take (i := 2 ) (v := ?_) rfl (by kernel_rfl) (by kernel_rfl) (by kernel_rfl) (fun _ _ _ h => h) (Or.inl ⟨by rfl, ?_⟩) (by assumption) ?_; rotate_left; (· (intro w0 hSw; obtain ⟨q0, q1⟩ := hSw; go_simp); first | done | with_reducible rfl); (try simp only [Act.put, List.getElem_toArray, List.getElem_cons_succ, List.getElem_cons_zero, List.setIfInBounds_toArray, List.set_cons_zero, List.set_cons_succ])
              refine wpAnyH_take (i := 3 ) (v := ?_) rfl (by kernel_rfl) (by kernel_rfl) (by kernel_rfl) (fun _ _ _ h => h) (Or.inl ⟨by rfl, ?_⟩) (by assumption) ?_; rotate_left; (· (intro w0 hSw; obtain ⟨q0, q1⟩ := hSw; go_simp); first | done | with_reducible rfl); (try simp only [Act.put, List.getElem_toArray, List.getElem_cons_succ, List.getElem_cons_zero, List.setIfInBounds_toArray, List.set_cons_zero, List.set_cons_succ])
              refine wpAnyH_take (i := 4 ) (v := ?_) rfl (by kernel_rfl) (by kernel_rfl) (by kernel_rfl) (fun _ _ _ h => h) (Or.inl ⟨by rfl, ?_⟩) (by assumption) ?_; rotate_left; (· (intro w0 hSw; obtain ⟨q0, q1⟩ := hSw; go_simp); first | done | with_reducible rfl); (try simp only [Act.put, List.getElem_toArray, List.getElem_cons_succ, List.getElem_cons_zero, List.setIfInBounds_toArray, List.set_cons_zero, List.set_cons_succ])
              refine wpAnyH_take (i := 5 ) (v := ?_) rfl (by kernel_rfl) (by kernel_rfl) (by kernel_rfl) (fun _ _ _ h => h) (Or.inl ⟨by rfl, ?_⟩) (by assumption) ?_; rotate_left; (· (intro w0 hSw; obtain ⟨q0, q1⟩ := hSw; go_simp); first | done | with_reducible rfl); (try simp only [Act.put, List.getElem_toArray, List.getElem_cons_succ, List.getElem_cons_zero, List.setIfInBounds_toArray, List.set_cons_zero, List.set_cons_succ])
              refine wpAnyH_take (i := 6 ) (v := ?_) rfl (by kernel_rfl) (by kernel_rfl) (by kernel_rfl) (fun _ _ _ h => h) (Or.inl ⟨by rfl, ?_⟩) (by assumption) ?_; rotate_left; (· (intro w0 hSw; obtain ⟨q0, q1⟩ := hSw; go_simp); first | done | with_reducible rfl); (try simp only [Act.put, List.getElem_toArray, List.getElem_cons_succ, List.getElem_cons_zero, List.setIfInBounds_toArray, List.set_cons_zero, List.set_cons_succ])
              refine wpAnyH_take (i := 7 ) (v := ?_) rfl (by kernel_rfl) (by kernel_rfl) (by kernel_rfl) (fun _ _ _ h => h) (Or.inl ⟨by rfl, ?_⟩) (by assumption) ?_; rotate_left; (· (intro w0 hSw; obtain ⟨q0, q1⟩ := hSw; go_simp); first | done | with_reducible rfl); (try simp only [Act.put, List.getElem_toArray, List.getElem_cons_succ, List.getElem_cons_zero, List.setIfInBounds_toArray, List.set_cons_zero, List.set_cons_succ])
              refine wpAnyH_take (i := 8 ) (v := ?_) rfl (by kernel_rfl) (by kernel_rfl) (by kernel_rfl) (fun _ _ _ h => h) (Or.inl ⟨by rfl, ?_⟩) (by assumption) ?_; rotate_left; (· (intro w0 hSw; obtain ⟨q0, q1⟩ := hSw; go_simp); first | done | with_reducible rfl); (try simp only [Act.put, List.getElem_toArray, List.getElem_cons_succ, List.getElem_cons_zero, List.setIfInBounds_toArray, List.set_cons_zero, List.set_cons_succ])
              refine wpAnyH_take (i := 9 ) (v := ?_) rfl (by kernel_rfl) (by kernel_rfl) (by kernel_rfl) (fun _ _ _ h => h) (Or.inl ⟨by rfl, ?_⟩) (by assumption) ?_; rotate_left; (· (intro w0 hSw; obtain ⟨q0, q1⟩ := hSw; go_simp); first | done | with_reducible rfl); (try simp only [Act.put, List.getElem_toArray, List.getElem_cons_succ, List.getElem_cons_zero, List.setIfInBounds_toArray, List.set_cons_zero, List.set_cons_succ])
              refine wpAnyH_take (i := 10 ) (v := ?_) rfl (by kernel_rfl) (by kernel_rfl) (by kernel_rfl) (fun _ _ _ h => h) (Or.inl ⟨by rfl, ?_⟩) (by assumption) ?_; rotate_left; (· (intro w0 hSw; obtain ⟨q0, q1⟩ := hSw; go_simp); first | done | with_reducible rfl); (try simp only [Act.put, List.getElem_toArray, List.getElem_cons_succ, List.getElem_cons_zero, List.setIfInBounds_toArray, List.set_cons_zero, List.set_cons_succ])
              refine wpAnyH_take (i := 11 ) (v := ?_) rfl (by kernel_rfl) (by kernel_rfl) (by kernel_rfl) (fun _ _ _ h => h) (Or.inl ⟨by rfl, ?_⟩) (by assumption) ?_; rotate_left; (· (intro w0 hSw; obtain ⟨q0, q1⟩ := hSw; go_simp); first | done | with_reducible rfl); (try simp only [Act.put, List.getElem_toArray, List.getElem_cons_succ, List.getElem_cons_zero, List.setIfInBounds_toArray, List.set_cons_zero, List.set_cons_succ])
              refine wpAnyH_take (i := 12 ) (v := ?_) rfl (by kernel_rfl) (by kernel_rfl) (by kernel_rfl) (fun _ _ _ h => h) (Or.inl ⟨by rfl, ?_⟩) (by assumption) ?_; rotate_left; (· (intro w0 hSw; obtain ⟨q0, q1⟩ := hSw; go_simp); first | done | with_reducible rfl); (try simp only [Act.put, List.getElem_toArray, List.getElem_cons_succ, List.getElem_cons_zero, List.setIfInBounds_toArray, List.set_cons_zero, List.set_cons_succ])
              refine wpAnyH_take (i := 13 ) (v := ?_) rfl (by kernel_rfl) (by kernel_rfl) (by kernel_rfl) (fun _ _ _ h => h) (Or.inl ⟨by rfl, ?_⟩) (by assumption) ?_; rotate_left; (· (intro w0 hSw; obtain ⟨q0, q1⟩ := hSw; go_simp); first | done | with_reducible rfl); (try simp only [Act.put, List.getElem_toArray, List.getElem_cons_succ, List.getElem_cons_zero, List.setIfInBounds_toArray, List.set_cons_zero, List.set_cons_succ])
              refine wpAnyH_ready (rs := [14]) (by kernel_rfl) (by simp) ?_
              refine AllReadyH.cons rfl (fun K hK => ?_) ?_
              · go_simp
                refine hK.out _ _ (two_cellsB HS0.out ((hbo.alloc hbo.size _).mono hsz) hbY hwq) (fun hH1 => ?_)
                clear hK K hH0
                try simp only [List.setIfInBounds_toArray, List.set_cons_zero, List.set_cons_succ]
                refine wpAnyH_ready (rs := [15]) (by kernel_rfl) (by simp) ?_
                refine AllReadyH.cons rfl (fun K hK => ?_) ?_
                · refine step_append_lies _ (by rfl) _ _ _ (by rfl) W2.heap.size 3 i0 _ 1 8 und_ints hi hz0 hz1 hz2 rfl (by omega) u17 k xs (by rfl) (own5 HOWN.out (hbo.alloc hbo.size _)) ⟨wr.heap.size, 0, none⟩ 1 1 [.int .i64 (d - 1)] (by rfl) (by rfl) (World.news_of_block (cs := #[.int .i64 (d - 1)]) (t := 3) (fr := (0, 0)) (World.alloc_heap_new wr.drew _)) (by simp [Value.oneCell']) (by omega) (by unfold maxLen; omega) (by omega) (Nat.le_trans hsz (hbo.alloc hbo.size _).size) (wr.heap.size + 1) (by simp) ?_
                  intro g cap w1 hown1 hgrow hat hlt1
                  have hba := below_appendB hsz HOWN.out (hbo.alloc hbo.size _) hgrow
                  refine hK.out _ _ (two_cellsB HS0.out hba hbY hwq) (fun hH2 => ?_)
                  have HO2 : Hid (w1.ownsRow W2.heap.size 3 1 (.slice (some ⟨g, 0, none⟩) (k + 1) cap) (k + 1) ((othB u.length ys (k + 1)).map (Value.int .i64))) := Lib.hid (by rw [HNX.out, List.map_append, hxs]; exact hown1)
                  have HB2 := Lib.hid (HB.out.trans hba)
                  clear hK K hH1 hown1 hgrow hat hba r0 r1
                  try simp only [List.setIfInBounds_toArray, List.set_cons_zero, List.set_cons_succ]
                  refine wpAnyH_take (i := 16 ) (v := ?_) rfl (by kernel_rfl) (by kernel_rfl) (by kernel_rfl) (fun _ _ _ h => h) (Or.inl ⟨by rfl, ?_⟩) (by assumption) ?_; rotate_left; (· (intro w0 hSw; obtain ⟨q0, q1⟩ := hSw; go_simp); first | done | with_reducible rfl); (try simp only [Act.put, List.getElem_toArray, List.getElem_cons_succ, List.getElem_cons_zero, List.setIfInBounds_toArray, List.set_cons_zero, List.set_cons_succ])
                  refine wpAnyH_done (by kernel_rfl) ?_ _
                  go_wp2_with fail
                  go_roundw
                  case rel => exact ⟨k + 1, by omega, by go_num, HO2, HB2⟩
                  case measure => simp [intOf]; omega
                · exact AllReadyH.nil
              · exact AllReadyH.nil
            · obtain rfl : k = l.length := by omega
              have HSR := Lib.hid (HS.out.call HB.out)
              have hP4 := Lib.hid (HP.out.below HB.out)
              obtain ⟨P5, c5, rfl, hP5⟩ := plan_formB HOWN.out (oth_len u.length ys l.length).symm
              have P5h := Lib.hid hP5
              have HON := Lib.hid (oth_in u.length ys l.length)
              have hol := oth_len u.length ys l.length
              clear hP5 HOWN HB HS HP HY HYB HYN
              generalize othB u.length ys l.length = o at *
              have hlt' : ¬ (l.length : Int) < l.length := by omega
              have HBQ := Lib.hid fun m => HBP.out o m hol HON.out
              have HOC : Hid (∀ V : World, IntSl V V.heap.size P5 o → CtS w.heap.size (w.heap.size + 1) (w.heap.size + 1 + 1) (w.heap.size + 1 + 1 + 1) j A B l.length ca u.length cb lim w V → Calls Try.prog 29 #[.slice P5 l.length c5, .pointer (some ⟨w.heap.size + 1 + 1, 0, none⟩), .pointer (some ⟨w.heap.size, 0, none⟩), .pointer (some ⟨w.heap.size + 1, 0, none⟩), .pointer (some ⟨w.heap.size + 1 + 1 + 1, 0, none⟩)] V (Ret (.tuple #[.int .i64 ((cntB G 0 0 o).getD 0), .bool (cntB G 0 0 o).isSome]) V)) := Lib.hid fun V h1 h2 => by
                have h9 := HC.out V P5 c5 o hol HON.out h1 h2
                rw [hol] at h9
                exact h9
              rw [hol]
              have HOL := Lib.hid hol
              clear hol HC HBP HON HCP HPI
              generalize cntB G 0 0 o = ro at *
              go_wp2_with fail
              refine (HOC.out _ (plan_sl5 P5h.out) HSR.out).mono ?_
              rintro e W6 ⟨rfl, hb⟩
              have HS := Lib.hid (HSR.out.call hb)
              have Q4 := Lib.hid (plan_sl5 (hP4.out.below hb))
              have Q5 := Lib.hid (plan_sl5 (P5h.out.below hb))
              clear hb HOC HSR hP4 P5h
              cases ro with
              | none =>
                try dsimp only [Option.getD, Option.isSome]
                go_wp2_with fail
                refine (alive05_any _).mono ?_; rintro e w9 ⟨rfl, hb9⟩; have HB9 := Lib.hid (HS.out.hb.trans (hb9.mono HS.out.hb.size)); clear HS hb9; go_wp2_with fail; go_ret; exact ⟨rfl, HB9.out⟩
              | some mo =>
                try dsimp only [Option.getD, Option.isSome]
                obtain ⟨hle, hlex⟩ := HBQ.out mo rfl
                have HLX := Lib.hid hlex
                try dsimp only at hle HLX
                clear hlex HBQ
                by_cases hmo : mo < pn
                · go_wp2_with fail
                  refine (alive05_any _).mono ?_; rintro e w9 ⟨rfl, hb9⟩; have HB9 := Lib.hid (HS.out.hb.trans (hb9.mono HS.out.hb.size)); clear HS hb9; go_wp2_with fail; go_ret; exact ⟨rfl, HB9.out⟩
                · have hgt : ¬ pn < mo := by omega
                  replace HLX := Lib.hid (HLX.out (by omega))
                  have HLN2 := Lib.hid HLN.out
                  go_wp2_with fail
                  go_loopw [134] (fun i wr => ∃ k : Nat, k ≤ l.length ∧ i = .int .i64 k ∧ Hid (∀ jx, jx < k → pw[jx]? = o[jx]?) ∧ Hid (Below W6.heap.size W6 wr)) (fun i _ => l.length - (intOf i).toNat)
                  case atStart => exact ⟨0, by omega, rfl, Lib.hid (fun _ h => absurd h (Nat.not_lt_zero _)), Lib.hid (Below.refl _ _)⟩
                  case round =>
                    obtain ⟨k, hk, rfl, HTK, HW⟩ := hrel
                    by_cases hlt : k < l.length
                    · have hka : k < pw.length := by rw [HLN.out]; exact hlt
                      have hkb : k < o.length := by rw [HOL.out]; exact hlt
                      obtain ⟨ba, oa, rfl, hba, hca⟩ := Q4.out (by intro e; rw [e] at hka; simp at hka)
                      obtain ⟨bb, ob, rfl, hbb, hcb⟩ := Q5.out (by intro e; rw [e] at hkb; simp at hkb)
                      have x0 := hca k hka
                      have y0 := hcb k hkb
                      rw [← HW.out.cell (p := ⟨ba, _, none⟩) hba] at x0
                      rw [← HW.out.cell (p := ⟨bb, _, none⟩) hbb] at y0
                      clear hca hcb
                      have HEQ : Hid (pw[k] = o[k] → ∀ jx, jx < k + 1 → pw[jx]? = o[jx]?) := Lib.hid fun h jx hj => by
                        rcases Nat.lt_or_ge jx k with h9 | h9
                        · exact HTK.out jx h9
                        · obtain rfl : jx = k := by omega
                          rw [List.getElem?_eq_getElem hka, List.getElem?_eq_getElem hkb, h]
                      have HNE : Hid (pw[k] ≠ o[k] → befK pw[k] o[k]) := Lib.hid fun h => lexB_at pw o k _ _ HLX.out HTK.out (List.getElem?_eq_getElem hka) (List.getElem?_eq_getElem hkb) h
                      have hka2 : (k : Int) < pw.length := by omega
                      have hkb2 : (k : Int) < o.length := by omega
                      have hkl : (k : Int) < l.length := by omega
                      have hk0 : (0 : Int) ≤ k := by omega
                      have hsz := HW.out.size
                      generalize pw[k] = xa at *
                      generalize o[k] = xb at *
                      clear HTK
                      by_cases hx : xa = xb
                      · have HSS := Lib.hid (HEQ.out hx)
                        have hxq : (xa == xb) = true := by simp [hx]
                        clear HEQ HNE
                        subst hx
                        go_wp2_with fail
                        go_quiet (fail)
                        go_wp2_with fail
                        go_roundw
                        case rel => exact ⟨k + 1, by omega, by go_num, HSS, Lib.hid (below_drewN5 HW.out _)⟩
                        case measure => simp [intOf]; omega
                      · obtain ⟨hb1, hb2⟩ := HNE.out hx
                        have hxq : (xa == xb) = false := by simp [hx]
                        have ha1 : (xa == -1) = false := by rw [beq_eq_false_iff_ne]; exact hb1
                        have ha2 : (xa != -1) = true := by rw [bne, ha1]; rfl
                        clear HEQ HNE hx hb1
                        go_wp2_with fail
                        go_quiet (fail)
                        have HW2 := Lib.hid (below_drewN5 HW.out nq)
                        have hS0 : (World.drewN wr nq).cell? ⟨ba, oa + k, none⟩ = some (.int .i64 xa) ∧ (World.drewN wr nq).cell? ⟨bb, ob + k, none⟩ = some (.int .i64 xb) := ⟨x0, y0⟩
                        clear x0 y0
                        generalize World.drewN wr nq = V at hS0 HW2 ⊢
                        go_wp2_with fail
                        have HSV := Lib.hid ((HS.out.call HW2.out).call (Below.refl _ _).drew)
                        have HS0 := Lib.hid (And.intro (((Below.refl V.heap.size V).drew.cell (p := ⟨ba, oa + k, none⟩) (Nat.lt_of_lt_of_le hba HW2.out.size)).trans hS0.1) (((Below.refl V.heap.size V).drew.cell (p := ⟨bb, ob + k, none⟩) (Nat.lt_of_lt_of_le hbb HW2.out.size)).trans hS0.2))
                        have HDL : Hid (ba < (World.drew V).heap.size ∧ bb < (World.drew V).heap.size) := Lib.hid ⟨Nat.lt_of_lt_of_le hba (Nat.le_trans HW2.out.size (Below.refl V.heap.size V).drew.size), Nat.lt_of_lt_of_le hbb (Nat.le_trans HW2.out.size (Below.refl V.heap.size V).drew.size)⟩
                        clear hS0 HW HW2 hsz hba hbb
                        by_cases hm : xb = -1
                        · have hm1 : (xb == -1) = true := by rw [beq_iff_eq]; exact hm
                          refine wp_region_held_drew (S := fun W9 => W9.cell? ⟨ba, oa + k, none⟩ = some (.int .i64 xa) ∧ W9.cell? ⟨bb, ob + k, none⟩ = some (.int .i64 xb)) (by kernel_rfl) ⟨HS0.out.1, HS0.out.2⟩ (fun hH0 => ?_)
                          generalize World.drew _ = V0 at *
                          simp only [List.size_toArray, List.length_cons, List.length_nil, Nat.reduceAdd, Array.replicate_succ, Array.replicate_zero, List.push_toArray, List.nil_append, List.cons_append]
                          refine wpAnyH_take (i := 0 ) (v := ?_) rfl (by kernel_rfl) (by kernel_rfl) (by kernel_rfl) (fun _ _ _ h => h) (Or.inl ⟨by rfl, ?_⟩) (by assumption) ?_; rotate_left; (· (intro w0 hSw; obtain ⟨q0, q1⟩ := hSw; go_simp); first | done | with_reducible rfl); (try simp only [Act.put, List.getElem_toArray, List.getElem_cons_zero, List.setIfInBounds_toArray, List.set_cons_zero, List.set_cons_succ])
                          refine wpAnyH_take (i := 1 ) (v := ?_) rfl (by kernel_rfl) (by kernel_rfl) (by kernel_rfl) (fun _ _ _ h => h) (Or.inl ⟨by rfl, ?_⟩) (by assumption) ?_; rotate_left; (· (intro w0 hSw; obtain ⟨q0, q1⟩ := hSw; go_simp); first | done | with_reducible rfl); (try simp only [Act.put, List.getElem_toArray, List.getElem_cons_succ, List.getElem_cons_zero, List.setIfInBounds_toArray, List.set_cons_zero, List.set_cons_succ])
                          refine wpAnyH_take (i := 2 ) (v := ?_) rfl (by kernel_rfl) (by kernel_rfl) (by kernel_rfl) (fun _ _ _ h => h) (Or.inl ⟨by rfl, ?_⟩) (by assumption) ?_; rotate_left; (· (intro w0 hSw; obtain ⟨q0, q1⟩ := hSw; go_simp); first | done | with_reducible rfl); (try simp only [Act.put, List.getElem_toArray, List.getElem_cons_succ, List.getElem_cons_zero, List.setIfInBounds_toArray, List.set_cons_zero, List.set_cons_succ])
                          refine wpAnyH_take (i := 3 ) (v := ?_) rfl (by kernel_rfl) (by kernel_rfl) (by kernel_rfl) (fun _ _ _ h => h) (Or.inl ⟨by rfl, ?_⟩) (by assumption) ?_; rotate_left; (· (intro w0 hSw; obtain ⟨q0, q1⟩ := hSw; go_simp); first | done | with_reducible rfl); (try simp only [Act.put, List.getElem_toArray, List.getElem_cons_succ, List.getElem_cons_zero, List.setIfInBounds_toArray, List.set_cons_zero, List.set_cons_succ])
                          refine wpAnyH_take (i := 4 ) (v := ?_) rfl (by kernel_rfl) (by kernel_rfl) (by kernel_rfl) (fun _ _ _ h => h) (Or.inl ⟨by rfl, ?_⟩) (by assumption) ?_; rotate_left; (· (intro w0 hSw; obtain ⟨q0, q1⟩ := hSw; go_simp); first | done | with_reducible rfl); (try simp only [Act.put, List.getElem_toArray, List.getElem_cons_succ, List.getElem_cons_zero, List.setIfInBounds_toArray, List.set_cons_zero, List.set_cons_succ])
                          refine wpAnyH_take (i := 5 ) (v := ?_) rfl (by kernel_rfl) (by kernel_rfl) (by kernel_rfl) (fun _ _ _ h => h) (Or.inl ⟨by rfl, ?_⟩) (by assumption) ?_; rotate_left; (· (intro w0 hSw; obtain ⟨q0, q1⟩ := hSw; go_simp); first | done | with_reducible rfl); (try simp only [Act.put, List.getElem_toArray, List.getElem_cons_succ, List.getElem_cons_zero, List.setIfInBounds_toArray, List.set_cons_zero, List.set_cons_succ])
                          refine wpAnyH_take (i := 6 ) (v := ?_) rfl (by kernel_rfl) (by kernel_rfl) (by kernel_rfl) (fun _ _ _ h => h) (Or.inl ⟨by rfl, ?_⟩) (by assumption) ?_; rotate_left; (· (intro w0 hSw; obtain ⟨q0, q1⟩ := hSw; go_simp); first | done | with_reducible rfl); (try simp only [Act.put, List.getElem_toArray, List.getElem_cons_succ, List.getElem_cons_zero, List.setIfInBounds_toArray, List.set_cons_zero, List.set_cons_succ])
                          refine wpAnyH_take (i := 7 ) (v := ?_) rfl (by kernel_rfl) (by kernel_rfl) (by kernel_rfl) (fun _ _ _ h => h) (Or.inl ⟨by rfl, ?_⟩) (by assumption) ?_; rotate_left; (· (intro w0 hSw; obtain ⟨q0, q1⟩ := hSw; go_simp); first | done | with_reducible rfl); (try simp only [Act.put, List.getElem_toArray, List.getElem_cons_succ, List.getElem_cons_zero, List.setIfInBounds_toArray, List.set_cons_zero, List.set_cons_succ])
                          refine wpAnyH_take (i := 8 ) (v := ?_) rfl (by kernel_rfl) (by kernel_rfl) (by kernel_rfl) (fun _ _ _ h => h) (Or.inl ⟨by rfl, ?_⟩) (by assumption) ?_; rotate_left; (· (intro w0 hSw; obtain ⟨q0, q1⟩ := hSw; go_simp); first | done | with_reducible rfl); (try simp only [Act.put, List.getElem_toArray, List.getElem_cons_succ, List.getElem_cons_zero, List.setIfInBounds_toArray, List.set_cons_zero, List.set_cons_succ])
                          refine wpAnyH_take (i := 9 ) (v := ?_) rfl (by kernel_rfl) (by kernel_rfl) (by kernel_rfl) (fun _ _ _ h => h) (Or.inl ⟨by rfl, ?_⟩) (by assumption) ?_; rotate_left; (· (intro w0 hSw; obtain ⟨q0, q1⟩ := hSw; go_simp); first | done | with_reducible rfl); (try simp only [Act.put, List.getElem_toArray, List.getElem_cons_succ, List.getElem_cons_zero, List.setIfInBounds_toArray, List.set_cons_zero, List.set_cons_succ])
                          refine wpAnyH_take (i := 10 ) (v := ?_) rfl (by kernel_rfl) (by kernel_rfl) (by kernel_rfl) (fun _ _ _ h => h) (Or.inl ⟨by rfl, ?_⟩) (by assumption) ?_; rotate_left; (· (intro w0 hSw; obtain ⟨q0, q1⟩ := hSw; go_simp); first | done | with_reducible rfl); (try simp only [Act.put, List.getElem_toArray, List.getElem_cons_succ, List.getElem_cons_zero, List.setIfInBounds_toArray, List.set_cons_zero, List.set_cons_succ])
                          refine wpAnyH_take (i := 11 ) (v := ?_) rfl (by kernel_rfl) (by kernel_rfl) (by kernel_rfl) (fun _ _ _ h => h) (Or.inl ⟨by rfl, ?_⟩) (by assumption) ?_; rotate_left; (· (intro w0 hSw; obtain ⟨q0, q1⟩ := hSw; go_simp); first | done | with_reducible rfl); (try simp only [Act.put, List.getElem_toArray, List.getElem_cons_succ, List.getElem_cons_zero, List.setIfInBounds_toArray, List.set_cons_zero, List.set_cons_succ])
                          refine wpAnyH_take (i := 12) (v := undef) rfl (by kernel_rfl) (by kernel_rfl) (by kernel_rfl) (fun _ _ _ h => h) (Or.inr ⟨by rfl, rfl⟩) (by assumption) ?_; (try simp only [Act.put, List.getElem_toArray, List.getElem_cons_succ, List.getElem_cons_zero, List.setIfInBounds_toArray, List.set_cons_zero, List.set_cons_succ])
                          refine wpAnyH_take (i := 13) (v := undef) rfl (by kernel_rfl) (by kernel_rfl) (by kernel_rfl) (fun _ _ _ h => h) (Or.inr ⟨by rfl, rfl⟩) (by assumption) ?_; (try simp only [Act.put, List.getElem_toArray, List.getElem_cons_succ, List.getElem_cons_zero, List.setIfInBounds_toArray, List.set_cons_zero, List.set_cons_succ])
                          refine wpAnyH_take (i := 14) (v := undef) rfl (by kernel_rfl) (by kernel_rfl) (by kernel_rfl) (fun _ _ _ h => h) (Or.inr ⟨by rfl, rfl⟩) (by assumption) ?_; (try simp only [Act.put, List.getElem_toArray, List.getElem_cons_succ, List.getElem_cons_zero, List.setIfInBounds_toArray, List.set_cons_zero, List.set_cons_succ])
                          refine wpAnyH_take (i := 15) (v := undef) rfl (by kernel_rfl) (by kernel_rfl) (by kernel_rfl) (fun _ _ _ h => h) (Or.inr ⟨by rfl, rfl⟩) (by assumption) ?_; (try simp only [Act.put, List.getElem_toArray, List.getElem_cons_succ, List.getElem_cons_zero, List.setIfInBounds_toArray, List.set_cons_zero, List.set_cons_succ])
                          refine wpAnyH_take (i := 16) (v := undef) rfl (by kernel_rfl) (by kernel_rfl) (by kernel_rfl) (fun _ _ _ h => h) (Or.inr ⟨by rfl, rfl⟩) (by assumption) ?_; (try simp only [Act.put, List.getElem_toArray, List.getElem_cons_succ, List.getElem_cons_zero, List.setIfInBounds_toArray, List.set_cons_zero, List.set_cons_succ])
                          refine wpAnyH_take (i := 17) (v := undef) rfl (by kernel_rfl) (by kernel_rfl) (by kernel_rfl) (fun _ _ _ h => h) (Or.inr ⟨by rfl, rfl⟩) (by assumption) ?_; (try simp only [Act.put, List.getElem_toArray, List.getElem_cons_succ, List.getElem_cons_zero, List.setIfInBounds_toArray, List.set_cons_zero, List.set_cons_succ])
                          refine wpAnyH_take (i := 18) (v := undef) rfl (by kernel_rfl) (by kernel_rfl) (by kernel_rfl) (fun _ _ _ h => h) (Or.inr ⟨by rfl, rfl⟩) (by assumption) ?_; (try simp only [Act.put, List.getElem_toArray, List.getElem_cons_succ, List.getElem_cons_zero, List.setIfInBounds_toArray, List.set_cons_zero, List.set_cons_succ])
                          refine wpAnyH_take (i := 19) (v := undef) rfl (by kernel_rfl) (by kernel_rfl) (by kernel_rfl) (fun _ _ _ h => h) (Or.inr ⟨by rfl, rfl⟩) (by assumption) ?_; (try simp only [Act.put, List.getElem_toArray, List.getElem_cons_succ, List.getElem_cons_zero, List.setIfInBounds_toArray, List.set_cons_zero, List.set_cons_succ])
                          refine wpAnyH_take (i := 20) (v := undef) rfl (by kernel_rfl) (by kernel_rfl) (by kernel_rfl) (fun _ _ _ h => h) (Or.inr ⟨by rfl, rfl⟩) (by assumption) ?_; (try simp only [Act.put, List.getElem_toArray, List.getElem_cons_succ, List.getElem_cons_zero, List.setIfInBounds_toArray, List.set_cons_zero, List.set_cons_succ])
                          refine wpAnyH_take (i := 21 ) (v := ?_) rfl (by kernel_rfl) (by kernel_rfl) (by kernel_rfl) (fun _ _ _ h => h) (Or.inl ⟨by rfl, ?_⟩) (by assumption) ?_; rotate_left; (· (intro w0 hSw; obtain ⟨q0, q1⟩ := hSw; go_simp); first | done | with_reducible rfl); (try simp only [Act.put, List.getElem_toArray, List.getElem_cons_succ, List.getElem_cons_zero, List.setIfInBounds_toArray, List.set_cons_zero, List.set_cons_succ])
                          refine wpAnyH_take (i := 22 ) (v := ?_) rfl (by kernel_rfl) (by kernel_rfl) (by kernel_rfl) (fun _ _ _ h => h) (Or.inl ⟨by rfl, ?_⟩) (by assumption) ?_; rotate_left; (· (intro w0 hSw; obtain ⟨q0, q1⟩ := hSw; go_simp); first | done | with_reducible rfl); (try simp only [Act.put, List.getElem_toArray, List.getElem_cons_succ, List.getElem_cons_zero, List.setIfInBounds_toArray, List.set_cons_zero, List.set_cons_succ])
                          refine wpAnyH_take (i := 23 ) (v := ?_) rfl (by kernel_rfl) (by kernel_rfl) (by kernel_rfl) (fun _ _ _ h => h) (Or.inl ⟨by rfl, ?_⟩) (by assumption) ?_; rotate_left; (· (intro w0 hSw; obtain ⟨q0, q1⟩ := hSw; go_simp); first | done | with_reducible rfl); (try simp only [Act.put, List.getElem_toArray, List.getElem_cons_succ, List.getElem_cons_zero, List.setIfInBounds_toArray, List.set_cons_zero, List.set_cons_succ])
                          refine wpAnyH_ready (rs := [24]) (by kernel_rfl) (by simp) ?_
                          refine AllReadyH.cons (by simp only [List.getElem?_toArray, List.getElem?_cons_succ, List.getElem?_cons_zero]; rfl) (fun K hK => ?_) AllReadyH.nil
                          go_simp
                          refine (alive05_any _).mono ?_
                          rintro e X ⟨rfl, hb⟩
                          replace HS0 := Lib.hid (And.intro ((hb.cell (p := ⟨ba, oa + k, none⟩) HDL.out.1).trans HS0.out.1) ((hb.cell (p := ⟨bb, ob + k, none⟩) HDL.out.2).trans HS0.out.2))
                          replace HSV := Lib.hid (HSV.out.call hb)
                          clear hb
                          refine hK.out _ _ ⟨HS0.out.1, HS0.out.2⟩ (fun hH1 => ?_)
                          clear hK K
                          try simp only [List.setIfInBounds_toArray, List.set_cons_zero, List.set_cons_succ]
                          refine wpAnyH_take (i := 25 ) (v := ?_) rfl (by kernel_rfl) (by kernel_rfl) (by kernel_rfl) (fun _ _ _ h => h) (Or.inl ⟨by rfl, ?_⟩) (by assumption) ?_; rotate_left; (· (intro w0 hSw; obtain ⟨q0, q1⟩ := hSw; go_simp); first | done | with_reducible rfl); (try simp only [Act.put, List.getElem_toArray, List.getElem_cons_succ, List.getElem_cons_zero, List.setIfInBounds_toArray, List.set_cons_zero, List.set_cons_succ])
                          refine wpAnyH_take (i := 26 ) (v := ?_) rfl (by kernel_rfl) (by kernel_rfl) (by kernel_rfl) (fun _ _ _ h => h) (Or.inl ⟨by rfl, ?_⟩) (by assumption) ?_; rotate_left; (· (intro w0 hSw; obtain ⟨q0, q1⟩ := hSw; go_simp); first | done | with_reducible rfl); (try simp only [Act.put, List.getElem_toArray, List.getElem_cons_succ, List.getElem_cons_zero, List.setIfInBounds_toArray, List.set_cons_zero, List.set_cons_succ])
                          refine wpAnyH_done (by kernel_rfl) ?_ _
                          go_wp2_with fail
                          go_ret
                          exact ⟨rfl, HSV.out.hb⟩
                        · have hm1 : (xb == -1) = false := by rw [beq_eq_false_iff_ne]; exact hm
                          have hlx : decide (xa < xb) = true := decide_eq_true (by rcases hb2 with h | h; exact absurd h hm; exact h)
                          clear hm hb2
                          refine wp_region_held_drew (S := fun W9 => W9.cell? ⟨ba, oa + k, none⟩ = some (.int .i64 xa) ∧ W9.cell? ⟨bb, ob + k, none⟩ = some (.int .i64 xb)) (by kernel_rfl) ⟨HS0.out.1, HS0.out.2⟩ (fun hH0 => ?_)
                          generalize World.drew _ = V0 at *
                          simp only [List.size_toArray, List.length_cons, List.length_nil, Nat.reduceAdd, Array.replicate_succ, Array.replicate_zero, List.push_toArray, List.nil_append, List.cons_append]
                          refine wpAnyH_take (i := 0 ) (v := ?_) rfl (by kernel_rfl) (by kernel_rfl) (by kernel_rfl) (fun _ _ _ h => h) (Or.inl ⟨by rfl, ?_⟩) (by assumption) ?_; rotate_left; (· (intro w0 hSw; obtain ⟨q0, q1⟩ := hSw; go_simp); first | done | with_reducible rfl); (try simp only [Act.put, List.getElem_toArray, List.getElem_cons_zero, List.setIfInBounds_toArray, List.set_cons_zero, List.set_cons_succ])
                          refine wpAnyH_take (i := 1 ) (v := ?_) rfl (by kernel_rfl) (by kernel_rfl) (by kernel_rfl) (fun _ _ _ h => h) (Or.inl ⟨by rfl, ?_⟩) (by assumption) ?_; rotate_left; (· (intro w0 hSw; obtain ⟨q0, q1⟩ := hSw; go_simp); first | done | with_reducible rfl); (try simp only [Act.put, List.getElem_toArray, List.getElem_cons_succ, List.getElem_cons_zero, List.setIfInBounds_toArray, List.set_cons_zero, List.set_cons_succ])
                          refine wpAnyH_take (i := 2 ) (v := ?_) rfl (by kernel_rfl) (by kernel_rfl) (by kernel_rfl) (fun _ _ _ h => h) (Or.inl ⟨by rfl, ?_⟩) (by assumption) ?_; rotate_left; (· (intro w0 hSw; obtain ⟨q0, q1⟩ := hSw; go_simp); first | done | with_reducible rfl); (try simp only [Act.put, List.getElem_toArray, List.getElem_cons_succ, List.getElem_cons_zero, List.setIfInBounds_toArray, List.set_cons_zero, List.set_cons_succ])
                          refine wpAnyH_take (i := 3 ) (v := ?_) rfl (by kernel_rfl) (by kernel_rfl) (by kernel_rfl) (fun _ _ _ h => h) (Or.inl ⟨by rfl, ?_⟩) (by assumption) ?_; rotate_left; (· (intro w0 hSw; obtain ⟨q0, q1⟩ := hSw; go_simp); first | done | with_reducible rfl); (try simp only [Act.put, List.getElem_toArray, List.getElem_cons_succ, List.getElem_cons_zero, List.setIfInBounds_toArray, List.set_cons_zero, List.set_cons_succ])
                          refine wpAnyH_take (i := 4 ) (v := ?_) rfl (by kernel_rfl) (by kernel_rfl) (by kernel_rfl) (fun _ _ _ h => h) (Or.inl ⟨by rfl, ?_⟩) (by assumption) ?_; rotate_left; (· (intro w0 hSw; obtain ⟨q0, q1⟩ := hSw; go_simp); first | done | with_reducible rfl); (try simp only [Act.put, List.getElem_toArray, List.getElem_cons_succ, List.getElem_cons_zero, List.setIfInBounds_toArray, List.set_cons_zero, List.set_cons_succ])
                          refine wpAnyH_take (i := 5 ) (v := ?_) rfl (by kernel_rfl) (by kernel_rfl) (by kernel_rfl) (fun _ _ _ h => h) (Or.inl ⟨by rfl, ?_⟩) (by assumption) ?_; rotate_left; (· (intro w0 hSw; obtain ⟨q0, q1⟩ := hSw; go_simp); first | done | with_reducible rfl); (try simp only [Act.put, List.getElem_toArray, List.getElem_cons_succ, List.getElem_cons_zero, List.setIfInBounds_toArray, List.set_cons_zero, List.set_cons_succ])
                          refine wpAnyH_take (i := 6 ) (v := ?_) rfl (by kernel_rfl) (by kernel_rfl) (by kernel_rfl) (fun _ _ _ h => h) (Or.inl ⟨by rfl, ?_⟩) (by assumption) ?_; rotate_left; (· (intro w0 hSw; obtain ⟨q0, q1⟩ := hSw; go_simp); first | done | with_reducible rfl); (try simp only [Act.put, List.getElem_toArray, List.getElem_cons_succ, List.getElem_cons_zero, List.setIfInBounds_toArray, List.set_cons_zero, List.set_cons_succ])
                          refine wpAnyH_take (i := 7 ) (v := ?_) rfl (by kernel_rfl) (by kernel_rfl) (by kernel_rfl) (fun _ _ _ h => h) (Or.inl ⟨by rfl, ?_⟩) (by assumption) ?_; rotate_left; (· (intro w0 hSw; obtain ⟨q0, q1⟩ := hSw; go_simp); first | done | with_reducible rfl); (try simp only [Act.put, List.getElem_toArray, List.getElem_cons_succ, List.getElem_cons_zero, List.setIfInBounds_toArray, List.set_cons_zero, List.set_cons_succ])
                          refine wpAnyH_take (i := 8 ) (v := ?_) rfl (by kernel_rfl) (by kernel_rfl) (by kernel_rfl) (fun _ _ _ h => h) (Or.inl ⟨by rfl, ?_⟩) (by assumption) ?_; rotate_left; (· (intro w0 hSw; obtain ⟨q0, q1⟩ := hSw; go_simp); first | done | with_reducible rfl); (try simp only [Act.put, List.getElem_toArray, List.getElem_cons_succ, List.getElem_cons_zero, List.setIfInBounds_toArray, List.set_cons_zero, List.set_cons_succ])
                          refine wpAnyH_take (i := 9 ) (v := ?_) rfl (by kernel_rfl) (by kernel_rfl) (by kernel_rfl) (fun _ _ _ h => h) (Or.inl ⟨by rfl, ?_⟩) (by assumption) ?_; rotate_left; (· (intro w0 hSw; obtain ⟨q0, q1⟩ := hSw; go_simp); first | done | with_reducible rfl); (try simp only [Act.put, List.getElem_toArray, List.getElem_cons_succ, List.getElem_cons_zero, List.setIfInBounds_toArray, List.set_cons_zero, List.set_cons_succ])
                          refine wpAnyH_take (i := 10 ) (v := ?_) rfl (by kernel_rfl) (by kernel_rfl) (by kernel_rfl) (fun _ _ _ h => h) (Or.inl ⟨by rfl, ?_⟩) (by assumption) ?_; rotate_left; (· (intro w0 hSw; obtain ⟨q0, q1⟩ := hSw; go_simp); first | done | with_reducible rfl); (try simp only [Act.put, List.getElem_toArray, List.getElem_cons_succ, List.getElem_cons_zero, List.setIfInBounds_toArray, List.set_cons_zero, List.set_cons_succ])
                          refine wpAnyH_take (i := 11 ) (v := ?_) rfl (by kernel_rfl) (by kernel_rfl) (by kernel_rfl) (fun _ _ _ h => h) (Or.inl ⟨by rfl, ?_⟩) (by assumption) ?_; rotate_left; (· (intro w0 hSw; obtain ⟨q0, q1⟩ := hSw; go_simp); first | done | with_reducible rfl); (try simp only [Act.put, List.getElem_toArray, List.getElem_cons_succ, List.getElem_cons_zero, List.setIfInBounds_toArray, List.set_cons_zero, List.set_cons_succ])
                          refine wpAnyH_take (i := 12 ) (v := ?_) rfl (by kernel_rfl) (by kernel_rfl) (by kernel_rfl) (fun _ _ _ h => h) (Or.inl ⟨by rfl, ?_⟩) (by assumption) ?_; rotate_left; (· (intro w0 hSw; obtain ⟨q0, q1⟩ := hSw; go_simp); first | done | with_reducible rfl); (try simp only [Act.put, List.getElem_toArray, List.getElem_cons_succ, List.getElem_cons_zero, List.setIfInBounds_toArray, List.set_cons_zero, List.set_cons_succ])
                          refine wpAnyH_take (i := 13 ) (v := ?_) rfl (by kernel_rfl) (by kernel_rfl) (by kernel_rfl) (fun _ _ _ h => h) (Or.inl ⟨by rfl, ?_⟩) (by assumption) ?_; rotate_left; (· (intro w0 hSw; obtain ⟨q0, q1⟩ := hSw; go_simp); first | done | with_reducible rfl); (try simp only [Act.put, List.getElem_toArray, List.getElem_cons_succ, List.getElem_cons_zero, List.setIfInBounds_toArray, List.set_cons_zero, List.set_cons_succ])
                          refine wpAnyH_take (i := 14 ) (v := ?_) rfl (by kernel_rfl) (by kernel_rfl) (by kernel_rfl) (fun _ _ _ h => h) (Or.inl ⟨by rfl, ?_⟩) (by assumption) ?_; rotate_left; (· (intro w0 hSw; obtain ⟨q0, q1⟩ := hSw; go_simp); first | done | with_reducible rfl); (try simp only [Act.put, List.getElem_toArray, List.getElem_cons_succ, List.getElem_cons_zero, List.setIfInBounds_toArray, List.set_cons_zero, List.set_cons_succ])
                          refine wpAnyH_take (i := 15 ) (v := ?_) rfl (by kernel_rfl) (by kernel_rfl) (by kernel_rfl) (fun _ _ _ h => h) (Or.inl ⟨by rfl, ?_⟩) (by assumption) ?_; rotate_left; (· (intro w0 hSw; obtain ⟨q0, q1⟩ := hSw; go_simp); first | done | with_reducible rfl); (try simp only [Act.put, List.getElem_toArray, List.getElem_cons_succ, List.getElem_cons_zero, List.setIfInBounds_toArray, List.set_cons_zero, List.set_cons_succ])
                          refine wpAnyH_take (i := 16 ) (v := ?_) rfl (by kernel_rfl) (by kernel_rfl) (by kernel_rfl) (fun _ _ _ h => h) (Or.inl ⟨by rfl, ?_⟩) (by assumption) ?_; rotate_left; (· (intro w0 hSw; obtain ⟨q0, q1⟩ := hSw; go_simp); first | done | with_reducible rfl); (try simp only [Act.put, List.getElem_toArray, List.getElem_cons_succ, List.getElem_cons_zero, List.setIfInBounds_toArray, List.set_cons_zero, List.set_cons_succ])
                          refine wpAnyH_take (i := 17 ) (v := ?_) rfl (by kernel_rfl) (by kernel_rfl) (by kernel_rfl) (fun _ _ _ h => h) (Or.inl ⟨by rfl, ?_⟩) (by assumption) ?_; rotate_left; (· (intro w0 hSw; obtain ⟨q0, q1⟩ := hSw; go_simp); first | done | with_reducible rfl); (try simp only [Act.put, List.getElem_toArray, List.getElem_cons_succ, List.getElem_cons_zero, List.setIfInBounds_toArray, List.set_cons_zero, List.set_cons_succ])
                          refine wpAnyH_take (i := 18 ) (v := ?_) rfl (by kernel_rfl) (by kernel_rfl) (by kernel_rfl) (fun _ _ _ h => h) (Or.inl ⟨by rfl, ?_⟩) (by assumption) ?_; rotate_left; (· (intro w0 hSw; obtain ⟨q0, q1⟩ := hSw; go_simp); first | done | with_reducible rfl); (try simp only [Act.put, List.getElem_toArray, List.getElem_cons_succ, List.getElem_cons_zero, List.setIfInBounds_toArray, List.set_cons_zero, List.set_cons_succ])
                          refine wpAnyH_take (i := 19 ) (v := ?_) rfl (by kernel_rfl) (by kernel_rfl) (by kernel_rfl) (fun _ _ _ h => h) (Or.inl ⟨by rfl, ?_⟩) (by assumption) ?_; rotate_left; (· (intro w0 hSw; obtain ⟨q0, q1⟩ := hSw; go_simp); first | done | with_reducible rfl); (try simp only [Act.put, List.getElem_toArray, List.getElem_cons_succ, List.getElem_cons_zero, List.setIfInBounds_toArray, List.set_cons_zero, List.set_cons_succ])
                          refine wpAnyH_take (i := 20 ) (v := ?_) rfl (by kernel_rfl) (by kernel_rfl) (by kernel_rfl) (fun _ _ _ h => h) (Or.inl ⟨by rfl, ?_⟩) (by assumption) ?_; rotate_left; (· (intro w0 hSw; obtain ⟨q0, q1⟩ := hSw; go_simp); first | done | with_reducible rfl); (try simp only [Act.put, List.getElem_toArray, List.getElem_cons_succ, List.getElem_cons_zero, List.setIfInBounds_toArray, List.set_cons_zero, List.set_cons_succ])
                          refine wpAnyH_take (i := 21 ) (v := ?_) rfl (by kernel_rfl) (by kernel_rfl) (by kernel_rfl) (fun _ _ _ h => h) (Or.inl ⟨by rfl, ?_⟩) (by assumption) ?_; rotate_left; (· (intro w0 hSw; obtain ⟨q0, q1⟩ := hSw; go_simp); first | done | with_reducible rfl); (try simp only [Act.put, List.getElem_toArray, List.getElem_cons_succ, List.getElem_cons_zero, List.setIfInBounds_toArray, List.set_cons_zero, List.set_cons_succ])
                          refine wpAnyH_take (i := 22 ) (v := ?_) rfl (by kernel_rfl) (by kernel_rfl) (by kernel_rfl) (fun _ _ _ h => h) (Or.inl ⟨by rfl, ?_⟩) (by assumption) ?_; rotate_left; (· (intro w0 hSw; obtain ⟨q0, q1⟩ := hSw; go_simp); first | done | with_reducible rfl); (try simp only [Act.put, List.getElem_toArray, List.getElem_cons_succ, List.getElem_cons_zero, List.setIfInBounds_toArray, List.set_cons_zero, List.set_cons_succ])
                          refine wpAnyH_take (i := 23 ) (v := ?_) rfl (by kernel_rfl) (by kernel_rfl) (by kernel_rfl) (fun _ _ _ h => h) (Or.inl ⟨by rfl, ?_⟩) (by assumption) ?_; rotate_left; (· (intro w0 hSw; obtain ⟨q0, q1⟩ := hSw; go_simp); first | done | with_reducible rfl); (try simp only [Act.put, List.getElem_toArray, List.getElem_cons_succ, List.getElem_cons_zero, List.setIfInBounds_toArray, List.set_cons_zero, List.set_cons_succ])
                          refine wpAnyH_ready (rs := [24]) (by kernel_rfl) (by simp) ?_
                          refine AllReadyH.cons (by simp only [List.getElem?_toArray, List.getElem?_cons_succ, List.getElem?_cons_zero]; rfl) (fun K hK => ?_) AllReadyH.nil
                          go_simp
                          refine (alive05_any _).mono ?_
                          rintro e X ⟨rfl, hb⟩
                          replace HS0 := Lib.hid (And.intro ((hb.cell (p := ⟨ba, oa + k, none⟩) HDL.out.1).trans HS0.out.1) ((hb.cell (p := ⟨bb, ob + k, none⟩) HDL.out.2).trans HS0.out.2))
                          replace HSV := Lib.hid (HSV.out.call hb)
                          clear hb
                          refine hK.out _ _ ⟨HS0.out.1, HS0.out.2⟩ (fun hH1 => ?_)
                          clear hK K
                          try simp only [List.setIfInBounds_toArray, List.set_cons_zero, List.set_cons_succ]
                          refine wpAnyH_take (i := 25 ) (v := ?_) rfl (by kernel_rfl) (by kernel_rfl) (by kernel_rfl) (fun _ _ _ h => h) (Or.inl ⟨by rfl, ?_⟩) (by assumption) ?_; rotate_left; (· (intro w0 hSw; obtain ⟨q0, q1⟩ := hSw; go_simp); first | done | with_reducible rfl); (try simp only [Act.put, List.getElem_toArray, List.getElem_cons_succ, List.getElem_cons_zero, List.setIfInBounds_toArray, List.set_cons_zero, List.set_cons_succ])
                          refine wpAnyH_take (i := 26 ) (v := ?_) rfl (by kernel_rfl) (by kernel_rfl) (by kernel_rfl) (fun _ _ _ h => h) (Or.inl ⟨by rfl, ?_⟩) (by assumption) ?_; rotate_left; (· (intro w0 hSw; obtain ⟨q0, q1⟩ := hSw; go_simp); first | done | with_reducible rfl); (try simp only [Act.put, List.getElem_toArray, List.getElem_cons_succ, List.getElem_cons_zero, List.setIfInBounds_toArray, List.set_cons_zero, List.set_cons_succ])
                          refine wpAnyH_done (by kernel_rfl) ?_ _
                          go_wp2_with fail
                          go_ret
                          exact ⟨rfl, HSV.out.hb⟩
                    · obtain rfl : k = l.length := by omega
                      have hlt2 : ¬ (pw.length : Int) ≤ (l.length : Int) ∨ True := .inr trivial
                      go_wp2_with fail
                      replace HS := Lib.hid (HS.out.call HW.out)
                      refine (alive05_any _).mono ?_; rintro e w9 ⟨rfl, hb9⟩; have HB9 := Lib.hid (HS.out.hb.trans (hb9.mono HS.out.hb.size)); clear HS hb9; go_wp2_with fail; go_ret; exact ⟨rfl, HB9.out⟩
        · have hR : pairR j l u lim = (([], 0), pairE j l u lim) := by unfold pairR; rw [if_neg hE]
          rw [hR]
          have hne : (pairE j l u lim == 0) = false := by rw [beq_eq_false_iff_ne]; exact hE
          have hne2 : (pairE j l u lim != 0) = true := by rw [bne, hne]; rfl
          clear hR HP HCT
          generalize pairE j l u lim = pe at *
          dsimp only [List.length_nil]
          go_wp2_with fail
          refine (alive05_any _).mono ?_; rintro e w9 ⟨rfl, hb9⟩; have HB9 := Lib.hid (HS.out.hb.trans (hb9.mono HS.out.hb.size)); clear HS hb9; go_wp2_with fail; go_ret; exact ⟨rfl, HB9.out⟩
end Go.Proofs.Ytbfamblbnfkpgaa