/- Walks: the search for the best setting: the walk. -/
import Derived.Test.YtfpfafijockfnaaXy0
import Derived.Deep.DeepCutAuto
namespace Go.Proofs.Ytfpfafijockfnaa
open Go.RowKit Go.Shelf

theorem zS_in : InSet zS := ⟨⟨by decide, by decide⟩, by decide, by decide⟩
theorem one_in : ∀ s ∈ [zS], InSet s := fun s h => by rw [List.mem_singleton.1 h]; exact zS_in
theorem heap_start {W : World} {q : Nat} (h : Blk W q 154 #[.slice none 0 0, .func (.func 81) #[] #[]]) : HeapAt W q none 0 [] := ⟨h, World.ownsRow_nil _ _ _ _⟩
set_option maxRecDepth 100000 in
set_option maxHeartbeats 8000000 in
theorem tune5_any (w : World) (AL : Option Addr) (cL : Nat) (leads : List Lead) (lim : Int) (hA : LeadSl w w.heap.size AL leads) (hn : leads.length ≤ 1000) (hf : ∀ l ∈ leads, LeadFar l) (h0 : 0 ≤ lim) (h1 : lim ≤ 1000) :
    Calls Try.prog 47 #[.slice AL leads.length cL, .int .i64 lim] w (RetBe (tuneS leads lim) w) := by
  have HA := Lib.hid hA
  have HFA := Lib.hid hf
  have HLM := Lib.hid (And.intro h0 h1)
  have hn0 : (0 : Int) ≤ leads.length := by omega
  have hn1 : (leads.length : Int) ≤ 1000 := by omega
  have hbx : Below w.heap.size w ((w.alloc (.cells #[.int .i64 0, .int .i64 0] 102)).alloc (.cells #[.slice none 0 0, .func (.func 81) #[] #[]] 154)) := by repeat (first | exact Below.refl _ _ | assumption | refine Below.drew ?_ | refine Below.alloc ?_ (by first | omega | (simp only [World.size_alloc]; omega) | simp) _ | refine Below.setCell ?_ (by first | omega | (simp only [World.size_alloc]; omega) | simp) _)
  have HB := Lib.hid hbx
  have K4 : Hid (Blk ((w.alloc (.cells #[.int .i64 0, .int .i64 0] 102)).alloc (.cells #[.slice none 0 0, .func (.func 81) #[] #[]] 154)) w.heap.size 102 #[.int .i64 0, .int .i64 0]) := Lib.hid ((Blk.new _ _ _).alloc _)
  have KQ : Hid (Blk ((w.alloc (.cells #[.int .i64 0, .int .i64 0] 102)).alloc (.cells #[.slice none 0 0, .func (.func 81) #[] #[]] 154)) (w.heap.size + 1) 154 #[.slice none 0 0, .func (.func 81) #[] #[]]) := Lib.hid (blk5 _ _ (by simp) rfl)
  obtain ⟨R, hR⟩ : ∃ R, tuneS leads lim = R := ⟨_, rfl⟩
  have HR : Hid (bestT leads lim 7000 (some zS) [] zS (-1) = R) := Lib.hid hR
  rw [hR]
  clear hA hf h0 h1 hbx hR
  go_enter Try.func47, Try.ntmps47
  go_wp2_with fail
  go_step3
  go_wp2_with fail
  generalize World.alloc (World.alloc w _) _ = V at HB K4 KQ ⊢
  have HH0 := Lib.hid (heap_start KQ.out)
  refine (put5_any V (w.heap.size + 1) none 0 [] zS HH0.out (by simp) zS_in (by simp)).mono ?_
  rintro e V1 ⟨⟨ev, rfl⟩, A1, c1, hh1, ht1, hn1'⟩
  have HH1 : Hid (HeapAt V1 (w.heap.size + 1) A1 c1 [zS]) := Lib.hid hh1
  have HB1 : Hid (Below w.heap.size w V1) := Lib.hid (HB.out.trans (ht1.below (by omega) (fun i hi => by simp [rwOf] at hi) HB.out.size))
  replace K4 : Hid (Blk V1 w.heap.size 102 #[.int .i64 0, .int .i64 0]) := Lib.hid ((ht1.block _ K4.out.lt (by omega) (by simp [rwOf])).trans K4.out)
  have HRA : Hid (∀ i, rwOf A1 = some i → w.heap.size + 1 < i) := Lib.hid fun i hi => by
    rcases hn1' with rfl | hn
    · simp [rwOf] at hi
    · have := hn i hi
      have := KQ.out.lt
      omega
  clear hh1 ht1 hn1' HH0 KQ HB
  go_wp2_with fail
  go_step3
  go_wp2_with fail
  refine (take5_any V1 (w.heap.size + 1) A1 c1 [zS] HH1.out one_in (by simp)).mono ?_
  rintro e V2 hrt
  rcases hrt with ⟨h9, -⟩ | ⟨-, rfl, hh2, ht2⟩
  · cases h9
  have HE2 : Hid (BeS w zS V2.heap.size zS A1 c1 [] (V2.alloc (.cells #[.int .i64 zS.side, .int .i64 zS.height] 102))) := Lib.hid (by
    have hk4 : Blk V2 w.heap.size 102 #[.int .i64 0, .int .i64 0] := (ht2.block _ K4.out.lt (by omega) (fun e => by have := HRA.out _ e; omega)).trans K4.out
    have hb2 : Below w.heap.size w V2 := HB1.out.trans (ht2.below (by omega) (fun i hi => by have := HRA.out i hi; omega) HB1.out.size)
    have hq : HeapAt V2 (w.heap.size + 1) A1 c1 [] := hh2
    have hqa := hq.kq.lt
    have hb3 : Below V2.heap.size V2 (V2.alloc (.cells #[.int .i64 zS.side, .int .i64 zS.height] 102)) := (Below.refl _ _).alloc (Nat.le_refl _) _
    exact ⟨hb2.trans (hb3.mono hb2.size), hk4.below hb3 hk4.lt, Blk.new _ _ _, hq.below hb3, hqa, fun i hi => ⟨HRA.out i hi, by have := hq.rlt i hi; omega⟩⟩)
  have HRO : Hid (RoS w leads lim R 7000 zS (-1) V2.heap.size (some zS) A1 c1 [] (V2.alloc (.cells #[.int .i64 zS.side, .int .i64 zS.height] 102))) := Lib.hid ⟨HE2.out, HR.out, by decide, by simp, fun s h => by cases h; exact zS_in, by omega, by omega, Nat.le_refl _⟩
  clear hh2 ht2 K4 HB1 HRA HH1 HE2 HR
  go_wp2_with fail
  generalize hV3 : World.alloc V2 _ = V3 at HRO ⊢
  clear hV3
  go_loopg [5, 7, 8] 7000 (fun f m p ok wx => ∃ (bs : Setg) (mm : Int) (b : Nat) (cur : Option Setg) (A : Option Addr) (c : Nat) (h : List Setg), m = .int .i64 mm ∧ p = .pointer (some ⟨b, 0, none⟩) ∧ ok = .bool cur.isSome ∧ Hid (RoS w leads lim R f bs mm b cur A c h wx))
  case atStart => exact ⟨zS, -1, V2.heap.size, some zS, A1, c1, [], rfl, rfl, rfl, HRO⟩
  case round =>
    clear HRO
    obtain ⟨bs, mm, b, cur, A, c, h, rfl, rfl, rfl, HO⟩ := hrel
    have HEND : Hid (cur = none ∨ ¬ mm < leads.length → R = (bs, mm)) := Lib.hid fun hx => by
      rw [← HO.out.goal]
      cases cur with
      | none => exact bestT_none _ _ _ _ _ _
      | some s => exact bestT_end _ _ _ _ _ _ (hx.resolve_left (by simp))
    have HM := Lib.hid (And.intro HO.out.m0 HO.out.m1)
    cases cur with
    | none =>
      have x0 := HO.out.be.k4.cell 0
      have x1 := HO.out.be.k4.cell 1
      have hsz := HO.out.be.k4.lt
      have HT4 := Lib.hid (there_mid (o := 0) HO.out.be.k4 (by simp))
      have HB := Lib.hid (HO.out.be.set4 bs)
      simp only [Option.isSome_none]
      go_wp2_with (refine wpList_store_mid (by rfl) 102 (.tmp 4) (.tmp 64) (by rfl) w.heap.size 0 #[.int .i64 bs.side, .int .i64 bs.height] (by rfl) (by rfl) HT4.out (by kernel_rfl) (by simp [Value.oneCell']) ?_)
      try rw [Exit.noGoto_ret]
      have hR := HEND.out (by simp)
      exact bodyPost_ret (results_blk_tmp rfl _ rfl HB.out.k4 (by kernel_rfl) (by kernel_rfl)) rfl ⟨by rw [hR]; rfl, HB.out.hb⟩
    | some s =>
      simp only [Option.isSome_some]
      by_cases hm : mm < leads.length
      · have hlen := HO.out.len
        have hs := HO.out.cin s rfl
        have hf7 := HO.out.f1
        obtain ⟨hm0, hm1⟩ := HM.out
        obtain ⟨f', hff, hpot, hst⟩ := bestT_step (lim := lim) (b := bs) hm hs HO.out.pot
        rw [HO.out.goal] at hst
        have HB := Lib.hid (HO.out.be : BeS w bs b s A c h wr)
        have HHI := Lib.hid HO.out.hin
        have HS := Lib.hid hs
        have HPOT := Lib.hid hpot
        have HST := Lib.hid hst
        have HFU := Lib.hid fun W => further5_any s W hs
        have HFI := Lib.hid (furL_in hs)
        have HFL := Lib.hid (furL_len s)
        generalize furL s = F at HPOT HST HFU HFI HFL
        have HINJ : Hid (∀ j, j ≤ F.length → (∀ s ∈ putAll h (F.take j), InSet s) ∧ (putAll h (F.take j)).length ≤ 9000) := Lib.hid fun j hj => by
          have h1 := putAll_in (F.take j) h HHI.out fun x hx => HFI.out x (List.mem_of_mem_take hx)
          refine ⟨h1, ?_⟩
          have h2 := len_le_sum _ h1
          have h3 := HPOT.out
          rw [putAll_sum] at h2 h3
          have h4 : sumW (F.take j) ≤ sumW F := by
            conv => rhs; rw [← List.take_append_drop j F]
            rw [sumW_append]
            omega
          omega
        clear hst hpot hs HO hlen HEND HHI
        have hF0 : (0 : Int) ≤ F.length := by omega
        have hF1 : (F.length : Int) ≤ 4 := by have := HFL.out; omega
        have kb0 := HB.out.kb.cell 0
        have kb1 := HB.out.kb.cell 1
        go_wp2_with fail
        refine (HFU.out _).mono ?_
        rintro e V4 ⟨AF, cF, rfl, hFr, hb⟩
        have HFR := Lib.hid (FrS.of hFr HB.out.hq.kq.lt HB.out.hq.rlt)
        replace HB := Lib.hid (HB.out.call hb)
        clear hb hFr kb0 kb1 HFU
        go_wp2_with fail
        go_loopw [35] (fun i wr => ∃ j : Nat, j ≤ F.length ∧ i = .int .i64 j ∧ ∃ A c, Hid (BeS w bs b s A c (putAll h (F.take j)) wr) ∧ Hid (FrS (w.heap.size + 1) A AF cF F wr)) (fun i _ => F.length - (intOf i).toNat)
        case atStart => exact ⟨0, Nat.zero_le _, rfl, A, c, HB, HFR⟩
        case round =>
          clear HB HFR
          obtain ⟨j, hj, rfl, A, c, HB, HFR⟩ := hrel
          by_cases hlt : j < F.length
          · obtain ⟨gF, hAF, y0, y1⟩ := HFR.out.cell hlt
            have HXI := Lib.hid (HFI.out F[j] (List.getElem_mem hlt))
            have HSN : Hid (putAll h (F.take (j + 1)) = putH (putAll h (F.take j)) F[j]) := Lib.hid (by rw [List.take_succ_eq_append_getElem hlt, putAll_snoc])
            have hj0 : (0 : Int) ≤ j := by omega
            have hj1 : (j : Int) < F.length := by omega
            have HIJ := Lib.hid (HINJ.out j hj)
            generalize F[j] = x at *
            subst hAF
            have HB2 := Lib.hid (HB.out.call ((Below.refl _ _).alloc (Nat.le_refl _) (.cells #[.int .i64 x.side, .int .i64 x.height] 102)))
            have HFR2 := Lib.hid (HFR.out.call ((Below.refl _ _).alloc (Nat.le_refl _) (.cells #[.int .i64 x.side, .int .i64 x.height] 102)))
            clear HB HFR
            go_wp2_with fail
            refine (put5_any _ (w.heap.size + 1) A c _ x HB2.out.hq HIJ.out.1 HXI.out HIJ.out.2).mono ?_
            rintro e V5 ⟨⟨ev5, rfl⟩, A5, c5, hh5, ht5, hn5⟩
            have HB3 : Hid (BeS w bs b s A5 c5 (putAll h (F.take (j + 1))) V5) := Lib.hid (by rw [HSN.out]; exact HB2.out.touch hh5 ht5 hn5)
            have HFR3 := Lib.hid (HFR2.out.touch ht5 hn5)
            clear hh5 ht5 hn5 HB2 HFR2 y0 y1
            go_wp2_with fail
            go_roundw
            case rel => exact ⟨j + 1, by omega, by go_num, A5, c5, HB3, HFR3⟩
            case measure => simp [intOf]; omega
          · obtain rfl : F.length = j := by omega
            have hlt' : ¬ (F.length : Int) < F.length := by omega
            rw [List.take_length] at HB
            have HINL : Hid ((∀ s ∈ putAll h F, InSet s) ∧ (putAll h F).length ≤ 9000) := Lib.hid (by have := HINJ.out F.length (Nat.le_refl _); rw [List.take_length] at this; exact this)
            generalize putAll h F = hp at *
            clear HFR HINJ hlt
            go_wp2_with fail
            go_loopw [11, 46] (fun v i wr => ∃ j : Nat, j ≤ leads.length ∧ i = .int .i64 j ∧ ∃ M : Int, v = .int .i64 M ∧ Hid (M = (leads.length : Int) - missL leads lim s j ∧ (missL leads lim s j = 0 ∨ mm < M)) ∧ Hid (BeS w bs b s A c hp wr)) (fun _ i _ => leads.length - (intOf i).toNat)
            case atStart => exact ⟨0, Nat.zero_le _, rfl, leads.length, rfl, Lib.hid ⟨by simp [missL], .inl (by simp [missL])⟩, HB⟩
            case round =>
              clear HB
              obtain ⟨j, hj, rfl, M, rfl, HMI, HB⟩ := hrel
              have HML := Lib.hid (And.intro (miss_lt leads lim s j hj) (And.intro (miss_le leads lim s j) (miss_cnt leads lim s)))
              by_cases hlt : j < leads.length
              · obtain ⟨gL, hAL, hgL, hrow⟩ := HA.out (by intro e; rw [e] at hlt; simp at hlt)
                obtain ⟨z0, z1, z2, z3⟩ := (hrow.low HB.out.hb hgL).at_ j hlt
                have HLB := Lib.hid (aftL_bd (HFA.out leads[j] (List.getElem_mem hlt)) HS.out)
                have HAF := Lib.hid fun W => aft5_any leads[j] s W (HFA.out leads[j] (List.getElem_mem hlt)) HS.out
                have HMS := Lib.hid (miss_succ (lim := lim) (s := s) hlt)
                have HML2 := Lib.hid (miss_le leads lim s (j + 1))
                have hj0 : (0 : Int) ≤ j := by omega
                have hj1 : (j : Int) < leads.length := by omega
                have hMb : -1000 ≤ M ∧ M ≤ 1000 := by have := HMI.out.1; have := HML.out.1; omega
                obtain ⟨hM0, hM1⟩ := hMb
                have wM : IntKind.i64.wrap (M - 1) = M - 1 := IntWalk.i64_in _ ⟨by omega, by omega⟩
                generalize leads[j] = l at *
                subst hAL
                have HIN := Lib.hid fun W => leadin_any (aftL l s) lim W HLB.out HLM.out.1 HLM.out.2
                clear hrow
                have HB2 := Lib.hid (HB.out.call ((Below.refl _ _).alloc (Nat.le_refl _) (.cells #[.int .i64 l.side.lo, .int .i64 l.side.hi, .int .i64 l.height.lo, .int .i64 l.height.hi] 109)))
                clear HB
                have kb0 := HB2.out.kb.cell 0
                have kb1 := HB2.out.kb.cell 1
                go_wp2_with fail
                generalize World.alloc wr _ = V6 at HB2 kb0 kb1 ⊢
                refine (HAF.out _).mono ?_
                rintro e V7 ⟨rfl, hb⟩
                replace HB2 := Lib.hid (HB2.out.call hb)
                clear hb kb0 kb1 z0 z1 z2 z3 HAF
                generalize (aftL l s).side.lo = r0 at *
                generalize (aftL l s).side.hi = r1 at *
                generalize (aftL l s).height.lo = r2 at *
                generalize (aftL l s).height.hi = r3 at *
                go_wp2_with fail
                refine (HIN.out _).mono ?_
                rintro e V8 ⟨rfl, hb⟩
                have HB := Lib.hid (HB2.out.call hb)
                clear hb HB2 HIN
                cases hw : leadIn (aftL l s) lim with
                | true =>
                  rw [hw] at HMS
                  have HM2 : Hid (M = (leads.length : Int) - missL leads lim s (j + 1) ∧ (missL leads lim s (j + 1) = 0 ∨ mm < M)) := Lib.hid (by have h1 := HMS.out; have h2 := HMI.out; simp only [if_true, Nat.add_zero] at h1; rw [h1]; exact h2)
                  clear hw HMS
                  go_wp2_with fail
                  go_roundw
                  case rel => exact ⟨j + 1, by omega, by go_num, M, rfl, HM2, HB⟩
                  case measure => simp [intOf]; omega
                | false =>
                  rw [hw] at HMS
                  have HM2 : Hid (M - 1 = (leads.length : Int) - missL leads lim s (j + 1)) := Lib.hid (by have h1 := HMS.out; have h2 := HMI.out.1; simp only [Bool.false_eq_true, if_false] at h1; rw [h1]; omega)
                  clear hw HMS
                  by_cases hle : M - 1 ≤ mm
                  · have HNXT : Hid ((if hp = [] then bestT leads lim f' none [] bs mm else bestT leads lim f' (some (hp.getD 0 zS)) (leftH hp) bs mm) = R) := Lib.hid (by
                      have hc : ¬ mm < (cntL leads lim s : Int) := by have := HM2.out; have := HML.out.2.2; have := HML2.out; omega
                      have h2 := HST.out
                      rw [if_neg hc, show max mm (cntL leads lim s : Int) = mm by omega] at h2
                      exact h2.symm)
                    clear HST HM2 HMI HML HML2 wM
                    have kb0 := HB.out.kb.cell 0
                    have kb1 := HB.out.kb.cell 1
                    have hsz := HB.out.kb.lt
                    go_wp2_with fail
                    clear kb0 kb1 hsz
                    have HBN := Lib.hid (HB.out.newb s)
                    have HTKE := Lib.hid (take5_any _ (w.heap.size + 1) A _ _ HBN.out.hq HINL.out.1 HINL.out.2)
                    clear HB
                    generalize hVB : World.alloc _ (.cells #[.int .i64 s.side, .int .i64 s.height] 102) = VB at HBN HTKE ⊢
                    clear hVB
                    generalize hbb : V8.heap.size = b9 at HBN ⊢
                    clear hbb
                    refine HTKE.out.mono ?_
                    rintro e VC hrt
                    obtain ⟨cur, h9, rfl, hb9, hg9, hp9, hi9, hc9⟩ := RoS.next HNXT.out HPOT.out HINL.out.1 HBN.out hrt
                    clear HNXT HTKE hrt
                    have HB9 := Lib.hid hb9
                    have HTB := Lib.hid (there_mid (o := 0) HB9.out.kb (by simp))
                    have HB10 := Lib.hid (HB9.out.setb (cur.getD zS))
                    have HRX := Lib.hid (And.intro hg9 (And.intro hp9 (And.intro hi9 hc9)))
                    clear hb9 hg9 hp9 hi9 hc9 HB9 HBN
                    go_wp2_with (refine wpList_store_mid (by rfl) 102 (.tmp 7) (.tmp 30) (by rfl) b9 0 #[.int .i64 (cur.getD zS).side, .int .i64 (cur.getD zS).height] (by rfl) (by rfl) HTB.out (by kernel_rfl) (by simp [Value.oneCell']) ?_)
                    go_roundg f'
                    case measure => omega
                    case rel => exact ⟨bs, mm, b9, cur, A, _, h9, rfl, rfl, rfl, Lib.hid ⟨HB10.out, HRX.out.1, HRX.out.2.1, HRX.out.2.2.1, HRX.out.2.2.2, by omega, by omega, by omega⟩⟩
                  · have hle' : ¬ M - 1 ≤ mm := hle
                    have HM3 : Hid (M - 1 = (leads.length : Int) - missL leads lim s (j + 1) ∧ (missL leads lim s (j + 1) = 0 ∨ mm < M - 1)) := Lib.hid ⟨HM2.out, .inr (by omega)⟩
                    go_wp2_with fail
                    go_roundw
                    case rel => exact ⟨j + 1, by omega, by go_num, M - 1, rfl, HM3, HB⟩
                    case measure => simp [intOf]; omega
              · obtain rfl : leads.length = j := by omega
                have hlt' : ¬ (leads.length : Int) < leads.length := by omega
                have hMc : M = (cntL leads lim s : Int) := by have := HMI.out.1; have := HML.out.2.2; omega
                have hMm : mm < M := by
                  rcases HMI.out.2 with h | h
                  · have := HML.out.2.2; omega
                  · exact h
                have hMn : M ≤ leads.length := by have := HMI.out.1; omega
                have HNXT : Hid ((if hp = [] then bestT leads lim f' none [] s M else bestT leads lim f' (some (hp.getD 0 zS)) (leftH hp) s M) = R) := Lib.hid (by
                  have h2 := HST.out
                  rw [← hMc, if_pos hMm, show max mm M = M by omega] at h2
                  exact h2.symm)
                have x0 := HB.out.kb.cell 0
                have x1 := HB.out.kb.cell 1
                have HT4 := Lib.hid (there_mid (o := 0) HB.out.k4 (by simp))
                have HB4 := Lib.hid (HB.out.set4 s)
                clear HST HMI HML hMc hlt
                go_upto_region 21 with (refine wpList_store_mid (by rfl) 102 (.tmp 4) (.tmp 61) (by rfl) w.heap.size 0 #[.int .i64 s.side, .int .i64 s.height] (by rfl) (by rfl) HT4.out (by kernel_rfl) (by simp [Value.oneCell']) ?_)
                clear HB HT4 x0 x1
                have HB := HB4
                clear HB4
                generalize World.setCells wr _ _ _ = V8 at HB ⊢
                have kb0 := HB.out.kb.cell 0
                have kb1 := HB.out.kb.cell 1
                have hsz := HB.out.kb.lt
                go_wp2_with fail
                clear kb0 kb1 hsz
                have HBN := Lib.hid (HB.out.newb s)
                have HTKE := Lib.hid (take5_any _ (w.heap.size + 1) A _ _ HBN.out.hq HINL.out.1 HINL.out.2)
                clear HB
                generalize hVB : World.alloc _ (.cells #[.int .i64 s.side, .int .i64 s.height] 102) = VB at HBN HTKE ⊢
                clear hVB
                generalize hbb : V8.heap.size = b9 at HBN ⊢
                clear hbb
                refine HTKE.out.mono ?_
                rintro e VC hrt
                obtain ⟨cur, h9, rfl, hb9, hg9, hp9, hi9, hc9⟩ := RoS.next HNXT.out HPOT.out HINL.out.1 HBN.out hrt
                clear HNXT HTKE hrt
                have HB9 := Lib.hid hb9
                have HTB := Lib.hid (there_mid (o := 0) HB9.out.kb (by simp))
                have HB10 := Lib.hid (HB9.out.setb (cur.getD zS))
                have HRX := Lib.hid (And.intro hg9 (And.intro hp9 (And.intro hi9 hc9)))
                clear hb9 hg9 hp9 hi9 hc9 HB9 HBN
                go_wp2_with (refine wpList_store_mid (by rfl) 102 (.tmp 7) (.tmp 30) (by rfl) b9 0 #[.int .i64 (cur.getD zS).side, .int .i64 (cur.getD zS).height] (by rfl) (by rfl) HTB.out (by kernel_rfl) (by simp [Value.oneCell']) ?_)
                go_roundg f'
                case measure => omega
                case rel => exact ⟨s, M, b9, cur, A, _, h9, rfl, rfl, rfl, Lib.hid ⟨HB10.out, HRX.out.1, HRX.out.2.1, HRX.out.2.2.1, HRX.out.2.2.2, by omega, by omega, by omega⟩⟩
      · have hm' : ¬ mm < (leads.length : Int) := hm
        have x0 := HO.out.be.k4.cell 0
        have x1 := HO.out.be.k4.cell 1
        have hsz := HO.out.be.k4.lt
        have HT4 := Lib.hid (there_mid (o := 0) HO.out.be.k4 (by simp))
        have HB := Lib.hid (HO.out.be.set4 bs)
        go_wp2_with (refine wpList_store_mid (by rfl) 102 (.tmp 4) (.tmp 64) (by rfl) w.heap.size 0 #[.int .i64 bs.side, .int .i64 bs.height] (by rfl) (by rfl) HT4.out (by kernel_rfl) (by simp [Value.oneCell']) ?_)
        try rw [Exit.noGoto_ret]
        have hR := HEND.out (by first | exact .inr hm | simp [hm])
        exact bodyPost_ret (results_blk_tmp rfl _ rfl HB.out.k4 (by kernel_rfl) (by kernel_rfl)) rfl ⟨by rw [hR]; rfl, HB.out.hb⟩
end Go.Proofs.Ytfpfafijockfnaa
