/- Wide: how wide leads are that are drawn through a die. -/
import Derived.Test.YtdadgljllnkppaaRo
import Derived.Test.YtdadgljllnkppaaVb
namespace Go.Proofs.Ytdadgljllnkppaa
open Go.RowKit Go.Shelf

/-- The press in its box. -/
def PbS (p : Press) (A : Option Addr) (c q : Nat) (w W : World) : Prop := Below w.heap.size w W ∧ W.cell? ⟨q, 0, none⟩ = some (.slice A p.dies.length c) ∧ W.cell? ⟨q, 1, none⟩ = some (.int .i64 p.shrink.lo) ∧ W.cell? ⟨q, 2, none⟩ = some (.int .i64 p.shrink.hi) ∧ W.cell? ⟨q, 3, none⟩ = some (.int .i64 p.change)
theorem PbS.drew {p : Press} {A : Option Addr} {c q : Nat} {w W : World} (h : PbS p A c q w W) : PbS p A c q w W.drew := ⟨h.1.drew, h.2⟩
theorem PbS.call {p : Press} {A : Option Addr} {c q : Nat} {w W W' : World} (h : PbS p A c q w W) (hb : Below W.heap.size W W') : PbS p A c q w W' :=
  have e : ∀ {i : Nat} {v : Value}, W.cell? ⟨q, i, none⟩ = some v → W'.cell? ⟨q, i, none⟩ = some v := fun {i _} h => (hb.cell (p := ⟨q, i, none⟩) (World.block_lt_of_cell? W ⟨q, i, none⟩ h)).trans h
  ⟨h.1.trans (hb.mono h.1.size), e h.2.1, e h.2.2.1, e h.2.2.2.1, e h.2.2.2.2⟩
theorem PbS.of {p : Press} {A : Option Addr} {c q : Nat} {w W : World} (hb : Below w.heap.size w W) (h : Blk W q 26 #[.slice A p.dies.length c, .int .i64 p.shrink.lo, .int .i64 p.shrink.hi, .int .i64 p.change]) : PbS p A c q w W := ⟨hb, h.cell 0, h.cell 1, h.cell 2, h.cell 3⟩

theorem cell_far2 {V : World} {q o e i j : Nat} {v u u' : Value} (h : V.cell? ⟨q, o, none⟩ = some v) (hne : q ≠ e) : ((V.setCell ⟨e, i, none⟩ u).setCell ⟨e, j, none⟩ u').cell? ⟨q, o, none⟩ = some v :=
  (World.cell?_of_block (a := ⟨q, o, none⟩) ((Below.heap_setCell _ _ _ _ hne).trans (Below.heap_setCell _ _ _ _ hne))).trans h
def wideE (p : Press) (i u : Int) : Int := errOf p [] (fromB i 0 ((p.dies.length : Int) - 1) && fromB u 0 8000)
def Press.dieI (p : Press) (i : Int) : Die := p.dies.getD i.toNat ⟨1, ⟨0, 0⟩⟩
def wideS (p : Press) (i u : Int) : Span := if wideE p i u = 0 then ⟨thin (p.dieI i) p.shrink u / 1000, cdiv (thick (p.dieI i) p.shrink u) 1000⟩ else ⟨0, 0⟩
/-- The region that asks for the first error. -/
theorem wide_err {p : Press} {i u : Int} (h : wideE p i u = 0) : pressOk p = true ∧ (0 ≤ i ∧ i ≤ (p.dies.length : Int) - 1) ∧ 0 ≤ u ∧ u ≤ 8000 := by
  unfold wideE errOf at h
  split at h
  · split at h
    · rename_i h1 h2
      simp only [Bool.and_eq_true, fromB_iff] at h2
      exact ⟨h1, h2.2.1, h2.2.2⟩
    · cases h
  · cases h
theorem nil_draws (w : World) (A : Option Addr) (B : Nat) : DrawSl w B A [] := fun h => (h rfl).elim
set_option maxRecDepth 100000 in
set_option maxHeartbeats 2000000 in
theorem wide_any (w : World) (A : Option Addr) (c : Nat) (p : Press) (i u : Int) (hp : p.dies.length ≤ 9223372036854775807) (hA : DieSl w w.heap.size A p.dies) :
    Calls Try.prog 20 #[.agg #[.slice A p.dies.length c, .int .i64 p.shrink.lo, .int .i64 p.shrink.hi, .int .i64 p.change], .int .i64 i, .int .i64 u] w (Ret (.tuple #[.agg #[.int .i64 (wideS p i u).lo, .int .i64 (wideS p i u).hi], .int .i64 (wideE p i u)]) w) := by
  have HF : Hid (∀ W o, Below w.heap.size w W → Calls Try.prog 60 #[.agg #[.slice A p.dies.length c, .int .i64 p.shrink.lo, .int .i64 p.shrink.hi, .int .i64 p.change], .slice none 0 0, .bool o] W (Ret (.int .i64 (errOf p [] o)) W)) :=
    Lib.hid fun W o hW => firstError_any W A none c 0 p [] o hp (by simp) (hA.on hW (Nat.le_refl _)) (nil_draws _ _ _)
  have HI : Hid (∀ W, Calls Try.prog 61 #[.agg #[.slice A p.dies.length c, .int .i64 p.shrink.lo, .int .i64 p.shrink.hi, .int .i64 p.change], .int .i64 i] W (Ret (.bool (fromB i 0 ((p.dies.length : Int) - 1))) W)) := Lib.hid fun W => isDie_any A _ c _ _ _ i W hp
  have hb0 : Below w.heap.size w ((w.alloc (.cells #[.slice A p.dies.length c, .int .i64 p.shrink.lo, .int .i64 p.shrink.hi, .int .i64 p.change] 26)).alloc (.cells #[.int .i64 0, .int .i64 0] 24)) := by repeat (first | exact Below.refl _ _ | assumption | refine Below.drew ?_ | refine Below.alloc ?_ (by first | omega | (simp only [World.size_alloc]; omega) | simp) _ | refine Below.setCell ?_ (by first | omega | (simp only [World.size_alloc]; omega) | simp) _)
  have hq0 : Blk ((w.alloc (.cells #[.slice A p.dies.length c, .int .i64 p.shrink.lo, .int .i64 p.shrink.hi, .int .i64 p.change] 26)).alloc (.cells #[.int .i64 0, .int .i64 0] 24)) w.heap.size 26 #[.slice A p.dies.length c, .int .i64 p.shrink.lo, .int .i64 p.shrink.hi, .int .i64 p.change] := (Blk.new _ _ _).alloc _
  have hz0 : Blk ((w.alloc (.cells #[.slice A p.dies.length c, .int .i64 p.shrink.lo, .int .i64 p.shrink.hi, .int .i64 p.change] 26)).alloc (.cells #[.int .i64 0, .int .i64 0] 24)) (w.heap.size + 1) 24 #[.int .i64 0, .int .i64 0] := blk_at _ _ (by simp)
  have HA := Lib.hid hA
  have HW : Hid (wideE p i u = errOf p [] (fromB i 0 ((p.dies.length : Int) - 1) && fromB u 0 8000)) := Lib.hid rfl
  have HWS : Hid (wideS p i u = if wideE p i u = 0 then ⟨thin (p.dieI i) p.shrink u / 1000, cdiv (thick (p.dieI i) p.shrink u) 1000⟩ else ⟨0, 0⟩) := Lib.hid rfl
  have HWE : Hid (wideE p i u = 0 → pressOk p = true ∧ (0 ≤ i ∧ i ≤ (p.dies.length : Int) - 1) ∧ 0 ≤ u ∧ u ≤ 8000) := Lib.hid wide_err
  generalize wideE p i u = er at HW HWS HWE ⊢
  generalize wideS p i u = sp at HWS ⊢
  obtain ⟨b1, hb1⟩ : ∃ x, fromB i 0 ((p.dies.length : Int) - 1) = x := ⟨_, rfl⟩
  rw [hb1] at HI HW
  clear hb1 hA
  cases b1 with
  | true =>
    go_enter Try.func20, Try.ntmps20
    go_wp2_with fail
    generalize World.alloc (World.alloc w _) _ = W0 at hb0 hq0 hz0 ⊢
    have hS := PbS.of (Below.refl _ W0) hq0
    have HS := Lib.hid hS
    have HB0 := Lib.hid hb0
    have HQ0 := Lib.hid hq0
    have HZ0 := Lib.hid hz0
    unfold PbS at hS
    clear hb0 hq0 hz0
    go_region_held3 (fun W => Below W0.heap.size W0 W ∧ W.cell? ⟨w.heap.size, 0, none⟩ = some (.slice A p.dies.length c) ∧ W.cell? ⟨w.heap.size, 1, none⟩ = some (.int .i64 p.shrink.lo) ∧ W.cell? ⟨w.heap.size, 2, none⟩ = some (.int .i64 p.shrink.hi) ∧ W.cell? ⟨w.heap.size, 3, none⟩ = some (.int .i64 p.change))
      (first | exact HS.out.drew | exact HS1.out | exact HS2.out | assumption | fail "keep")
      (first
        | (go_at_call 61; (with_reducible refine (HI.out _).mono ?_); rintro e e1 ⟨rfl, hb1⟩; have HS1 := Lib.hid (HS.out.drew.call hb1); have HBW := Lib.hid (HB0.out.trans (HS1.out.1.mono HB0.out.size)); clear hb1)
        | (go_at_call 62; (with_reducible refine (isFrom_any _ _ _ _).mono ?_); rintro e e2 ⟨rfl, rfl⟩)
        | (go_at_call 60; (with_reducible refine (HF.out _ _ HBW.out).mono ?_); rintro e e2 ⟨rfl, hb2⟩; have HS2 := Lib.hid (HS1.out.call hb2); clear hb2)
        | fail "no arm")
    (try rw [Bool.true_and] at HW); (try rw [Bool.false_and] at HW); rw [← HW.out]; have HBX := Lib.hid (HB0.out.trans (HS2.out.1.mono HB0.out.size)); have HZ2 := Lib.hid (HZ0.out.below HS2.out.1 HZ0.out.lt); obtain ⟨-, x0, x1, x2, x3⟩ := HS2.out; clear hS HS HS1 HBW HF HI HQ0 HZ0; by_cases h0 : er = 0
    · subst h0
      obtain ⟨hpk, ⟨i0, i1⟩, u0, u1⟩ := HWE.out rfl; obtain ⟨k, rfl⟩ := Int.eq_ofNat_of_zero_le i0; have hk : k < p.dies.length := (by omega); have hM := mount_any e2 A c p k hk (HA.out.on HBX.out (Nat.le_refl _)); go_wp2_with fail; refine hM.mono ?_; rintro e W3 ⟨q, r, s, q2, r2, s2, rfl, hMo, hb3⟩; obtain ⟨-, hdi, hsh, -⟩ := press_parts hpk; have hdk := hdi p.dies[k] (List.getElem_mem hk); have HMo := Lib.hid hMo; have HRD : Hid (∀ V, Below W3.heap.size W3 V → Calls Try.prog 64 #[.agg #[.func (.func 134) #[] #[.pointer (some ⟨q, 0, none⟩), .pointer (some ⟨r, 0, none⟩), .pointer (some ⟨s, 0, none⟩)], .func (.func 98) #[] #[]], .int .i64 u] V (Ret (.int .i64 (thin p.dies[k] p.shrink u / 1000)) V)) := (Lib.hid fun V hV => (by obtain ⟨d1, d2, d3, d4, d5⟩ := hdk; obtain ⟨g1, g2, g3⟩ := hsh; exact roundDown_any V q r s _ _ _ u (HMo.out.lo.on hV (Nat.le_refl _)) d1 d2 d3 (by omega) (by omega) g3 u0 (by omega))); have HRU : Hid (∀ V, Below W3.heap.size W3 V → Calls Try.prog 64 #[.agg #[.func (.func 134) #[] #[.pointer (some ⟨q2, 0, none⟩), .pointer (some ⟨r2, 0, none⟩), .pointer (some ⟨s2, 0, none⟩)], .func (.func 99) #[] #[]], .int .i64 u] V (Ret (.int .i64 (cdiv (thick p.dies[k] p.shrink u) 1000)) V)) := (Lib.hid fun V hV => (by obtain ⟨d1, d2, d3, d4, d5⟩ := hdk; obtain ⟨g1, g2, g3⟩ := hsh; exact roundUp_any V q2 r2 s2 _ _ _ u (HMo.out.hi.on hV (Nat.le_refl _)) d1 d2 (by omega) d5 g1 (by omega) u0 (by omega))); have HSP : Hid (sp = ⟨thin p.dies[k] p.shrink u / 1000, cdiv (thick p.dies[k] p.shrink u) 1000⟩) := (Lib.hid (by rw [HWS.out, if_pos trivial]; simp [Press.dieI, hk])); have HB3 := Lib.hid (HBX.out.trans (hb3.mono HBX.out.size)); have HZ3 := Lib.hid (HZ2.out.below hb3 HZ2.out.lt); have hzl := HZ2.out.lt; have hb3s := hb3.size; generalize p.dies[k] = dk at *; obtain ⟨t1, ht1⟩ : ∃ x, thin dk p.shrink u / 1000 = x := ⟨_, rfl⟩; obtain ⟨t2, ht2⟩ : ∃ x, cdiv (thick dk p.shrink u) 1000 = x := ⟨_, rfl⟩; rw [ht1, ht2] at HSP; rw [ht1] at HRD; rw [ht2] at HRU; clear x0 x1 x2 x3 HWS HWE HW hM hMo hb3 HS2 HZ2 HBX HB0 hdi hdk hsh hpk ht1 ht2 HMo HA; go_wp2_with fail; generalize hW4 : World.alloc W3 _ = W4; have hB4 : Below W3.heap.size W3 W4 := (by rw [← hW4]; exact (Below.refl _ _).alloc (Nat.le_refl _) _); have hK4 : Blk W4 W3.heap.size 112 #[.int .i64 dk.wide, .int .i64 dk.wear.lo, .int .i64 dk.wear.hi, .func (.func 134) #[] #[.pointer (some ⟨q, 0, none⟩), .pointer (some ⟨r, 0, none⟩), .pointer (some ⟨s, 0, none⟩)], .func (.func 98) #[] #[], .func (.func 134) #[] #[.pointer (some ⟨q2, 0, none⟩), .pointer (some ⟨r2, 0, none⟩), .pointer (some ⟨s2, 0, none⟩)], .func (.func 99) #[] #[]] := (by rw [← hW4]; exact Blk.new _ _ _); have m3 := hK4.cell 3; have m4 := hK4.cell 4; have m5 := hK4.cell 5; have m6 := hK4.cell 6; have HB4 := Lib.hid hB4; have HK4 := Lib.hid hK4; clear hB4 hK4 hW4; go_region_held3 (fun W => W.cell? ⟨W3.heap.size, 3, none⟩ = some (.func (.func 134) #[] #[.pointer (some ⟨q, 0, none⟩), .pointer (some ⟨r, 0, none⟩), .pointer (some ⟨s, 0, none⟩)]) ∧ W.cell? ⟨W3.heap.size, 4, none⟩ = some (.func (.func 98) #[] #[]) ∧ W.cell? ⟨W3.heap.size, 5, none⟩ = some (.func (.func 134) #[] #[.pointer (some ⟨q2, 0, none⟩), .pointer (some ⟨r2, 0, none⟩), .pointer (some ⟨s2, 0, none⟩)]) ∧ W.cell? ⟨W3.heap.size, 6, none⟩ = some (.func (.func 99) #[] #[])) (first | exact ⟨m3, m4, m5, m6⟩ | exact ⟨HK5.out.cell 3, HK5.out.cell 4, HK5.out.cell 5, HK5.out.cell 6⟩ | exact ⟨HK6.out.cell 3, HK6.out.cell 4, HK6.out.cell 5, HK6.out.cell 6⟩ | exact ⟨cell_far2 (HK6.out.cell 3) hne1, cell_far2 (HK6.out.cell 4) hne1, cell_far2 (HK6.out.cell 5) hne1, cell_far2 (HK6.out.cell 6) hne1⟩ | assumption | fail "keep") (first | (go_at_call 64; (with_reducible refine (HRD.out _ (HB4.out.drew)).mono ?_); rintro e e5 ⟨rfl, hb5⟩; have HB5 := Lib.hid (HB4.out.trans (Below.mono (Below.trans (Below.refl _ _).drew hb5) HB4.out.size)); have HK5 := Lib.hid (HK4.out.below (Below.trans (Below.refl _ _).drew hb5) HK4.out.lt); clear hb5) | (go_at_call 64; (with_reducible refine (HRU.out _ HB5.out).mono ?_); rintro e e6 ⟨rfl, hb6⟩; have HB6 := Lib.hid (HB5.out.trans (hb6.mono HB5.out.size)); have HK6 := Lib.hid (HK5.out.below hb6 HK5.out.lt); have HZ6 := Lib.hid (HZ3.out.below HB6.out HZ3.out.lt); have z0 := HZ6.out.cell 0; have z1 := HZ6.out.cell 1; have f0 := HZ6.out.frozen 0; have f1 := HZ6.out.frozen 1; have hne1 : W3.heap.size ≠ w.heap.size + 1 := (by omega); clear hb6) | fail "no arm"); go_wp2_with fail; have hsp := HSP.out; subst hsp; exact bodyPost_ret (results_blk_tmp rfl _ rfl ((HZ6.out.set_ 0 _).set_ 1 _) (by kernel_rfl) (by kernel_rfl)) rfl ⟨rfl, ((HB3.out.trans (HB6.out.mono HB3.out.size)).setCell (by simp) _).setCell (by simp) _⟩
    · have hne : (er == 0) = false := (by rw [beq_eq_false_iff_ne]; exact h0); have hsp : sp = ⟨0, 0⟩ := (by rw [HWS.out, if_neg h0]); subst hsp; have z0 := HZ2.out.cell 0; have z1 := HZ2.out.cell 1; have f0 := HZ2.out.frozen 0; have f1 := HZ2.out.frozen 1; go_wp2_with fail; exact bodyPost_ret (results_blk_tmp rfl _ rfl ((HZ2.out.set_ 0 _).set_ 1 _) (by kernel_rfl) (by kernel_rfl)) rfl ⟨rfl, (HBX.out.setCell (by simp) _).setCell (by simp) _⟩
  | false =>
    go_enter Try.func20, Try.ntmps20
    go_wp2_with fail
    generalize World.alloc (World.alloc w _) _ = W0 at hb0 hq0 hz0 ⊢
    have hS := PbS.of (Below.refl _ W0) hq0
    have HS := Lib.hid hS
    have HB0 := Lib.hid hb0
    have HQ0 := Lib.hid hq0
    have HZ0 := Lib.hid hz0
    obtain ⟨-, x0, x1, x2, x3⟩ := hS
    have hS : True := trivial
    clear hb0 hq0 hz0
    first
      | (go_region_with (first
            | (go_at_call 61; (with_reducible refine (HI.out _).mono ?_); rintro e e1 ⟨rfl, hb1⟩; have HS1 := Lib.hid (HS.out.drew.call hb1); have HBW := Lib.hid (HB0.out.trans (HS1.out.1.mono HB0.out.size)); obtain ⟨-, y0, y1, y2, y3⟩ := HS1.out; clear hb1)
            | (go_at_call 60; (with_reducible refine (HF.out _ _ HBW.out).mono ?_); rintro e e2 ⟨rfl, hb2⟩; have HS2 := Lib.hid (HS1.out.call hb2); clear hb2)))
      | fail "reg"
    all_goals
      (try rw [Bool.true_and] at HW); (try rw [Bool.false_and] at HW); rw [← HW.out]; have HBX := Lib.hid (HB0.out.trans (HS2.out.1.mono HB0.out.size)); have HZ2 := Lib.hid (HZ0.out.below HS2.out.1 HZ0.out.lt); obtain ⟨-, x0, x1, x2, x3⟩ := HS2.out; clear hS HS HS1 HBW HF HI HQ0 HZ0; by_cases h0 : er = 0
      · subst h0
        obtain ⟨hpk, ⟨i0, i1⟩, u0, u1⟩ := HWE.out rfl; obtain ⟨k, rfl⟩ := Int.eq_ofNat_of_zero_le i0; have hk : k < p.dies.length := (by omega); have hM := mount_any e2 A c p k hk (HA.out.on HBX.out (Nat.le_refl _)); go_wp2_with fail; refine hM.mono ?_; rintro e W3 ⟨q, r, s, q2, r2, s2, rfl, hMo, hb3⟩; obtain ⟨-, hdi, hsh, -⟩ := press_parts hpk; have hdk := hdi p.dies[k] (List.getElem_mem hk); have HMo := Lib.hid hMo; have HRD : Hid (∀ V, Below W3.heap.size W3 V → Calls Try.prog 64 #[.agg #[.func (.func 134) #[] #[.pointer (some ⟨q, 0, none⟩), .pointer (some ⟨r, 0, none⟩), .pointer (some ⟨s, 0, none⟩)], .func (.func 98) #[] #[]], .int .i64 u] V (Ret (.int .i64 (thin p.dies[k] p.shrink u / 1000)) V)) := (Lib.hid fun V hV => (by obtain ⟨d1, d2, d3, d4, d5⟩ := hdk; obtain ⟨g1, g2, g3⟩ := hsh; exact roundDown_any V q r s _ _ _ u (HMo.out.lo.on hV (Nat.le_refl _)) d1 d2 d3 (by omega) (by omega) g3 u0 (by omega))); have HRU : Hid (∀ V, Below W3.heap.size W3 V → Calls Try.prog 64 #[.agg #[.func (.func 134) #[] #[.pointer (some ⟨q2, 0, none⟩), .pointer (some ⟨r2, 0, none⟩), .pointer (some ⟨s2, 0, none⟩)], .func (.func 99) #[] #[]], .int .i64 u] V (Ret (.int .i64 (cdiv (thick p.dies[k] p.shrink u) 1000)) V)) := (Lib.hid fun V hV => (by obtain ⟨d1, d2, d3, d4, d5⟩ := hdk; obtain ⟨g1, g2, g3⟩ := hsh; exact roundUp_any V q2 r2 s2 _ _ _ u (HMo.out.hi.on hV (Nat.le_refl _)) d1 d2 (by omega) d5 g1 (by omega) u0 (by omega))); have HSP : Hid (sp = ⟨thin p.dies[k] p.shrink u / 1000, cdiv (thick p.dies[k] p.shrink u) 1000⟩) := (Lib.hid (by rw [HWS.out, if_pos trivial]; simp [Press.dieI, hk])); have HB3 := Lib.hid (HBX.out.trans (hb3.mono HBX.out.size)); have HZ3 := Lib.hid (HZ2.out.below hb3 HZ2.out.lt); have hzl := HZ2.out.lt; have hb3s := hb3.size; generalize p.dies[k] = dk at *; obtain ⟨t1, ht1⟩ : ∃ x, thin dk p.shrink u / 1000 = x := ⟨_, rfl⟩; obtain ⟨t2, ht2⟩ : ∃ x, cdiv (thick dk p.shrink u) 1000 = x := ⟨_, rfl⟩; rw [ht1, ht2] at HSP; rw [ht1] at HRD; rw [ht2] at HRU; clear x0 x1 x2 x3 HWS HWE HW hM hMo hb3 HS2 HZ2 HBX HB0 hdi hdk hsh hpk ht1 ht2 HMo HA; go_wp2_with fail; generalize hW4 : World.alloc W3 _ = W4; have hB4 : Below W3.heap.size W3 W4 := (by rw [← hW4]; exact (Below.refl _ _).alloc (Nat.le_refl _) _); have hK4 : Blk W4 W3.heap.size 112 #[.int .i64 dk.wide, .int .i64 dk.wear.lo, .int .i64 dk.wear.hi, .func (.func 134) #[] #[.pointer (some ⟨q, 0, none⟩), .pointer (some ⟨r, 0, none⟩), .pointer (some ⟨s, 0, none⟩)], .func (.func 98) #[] #[], .func (.func 134) #[] #[.pointer (some ⟨q2, 0, none⟩), .pointer (some ⟨r2, 0, none⟩), .pointer (some ⟨s2, 0, none⟩)], .func (.func 99) #[] #[]] := (by rw [← hW4]; exact Blk.new _ _ _); have m3 := hK4.cell 3; have m4 := hK4.cell 4; have m5 := hK4.cell 5; have m6 := hK4.cell 6; have HB4 := Lib.hid hB4; have HK4 := Lib.hid hK4; clear hB4 hK4 hW4; go_region_held3 (fun W => W.cell? ⟨W3.heap.size, 3, none⟩ = some (.func (.func 134) #[] #[.pointer (some ⟨q, 0, none⟩), .pointer (some ⟨r, 0, none⟩), .pointer (some ⟨s, 0, none⟩)]) ∧ W.cell? ⟨W3.heap.size, 4, none⟩ = some (.func (.func 98) #[] #[]) ∧ W.cell? ⟨W3.heap.size, 5, none⟩ = some (.func (.func 134) #[] #[.pointer (some ⟨q2, 0, none⟩), .pointer (some ⟨r2, 0, none⟩), .pointer (some ⟨s2, 0, none⟩)]) ∧ W.cell? ⟨W3.heap.size, 6, none⟩ = some (.func (.func 99) #[] #[])) (first | exact ⟨m3, m4, m5, m6⟩ | exact ⟨HK5.out.cell 3, HK5.out.cell 4, HK5.out.cell 5, HK5.out.cell 6⟩ | exact ⟨HK6.out.cell 3, HK6.out.cell 4, HK6.out.cell 5, HK6.out.cell 6⟩ | exact ⟨cell_far2 (HK6.out.cell 3) hne1, cell_far2 (HK6.out.cell 4) hne1, cell_far2 (HK6.out.cell 5) hne1, cell_far2 (HK6.out.cell 6) hne1⟩ | assumption | fail "keep") (first | (go_at_call 64; (with_reducible refine (HRD.out _ (HB4.out.drew)).mono ?_); rintro e e5 ⟨rfl, hb5⟩; have HB5 := Lib.hid (HB4.out.trans (Below.mono (Below.trans (Below.refl _ _).drew hb5) HB4.out.size)); have HK5 := Lib.hid (HK4.out.below (Below.trans (Below.refl _ _).drew hb5) HK4.out.lt); clear hb5) | (go_at_call 64; (with_reducible refine (HRU.out _ HB5.out).mono ?_); rintro e e6 ⟨rfl, hb6⟩; have HB6 := Lib.hid (HB5.out.trans (hb6.mono HB5.out.size)); have HK6 := Lib.hid (HK5.out.below hb6 HK5.out.lt); have HZ6 := Lib.hid (HZ3.out.below HB6.out HZ3.out.lt); have z0 := HZ6.out.cell 0; have z1 := HZ6.out.cell 1; have f0 := HZ6.out.frozen 0; have f1 := HZ6.out.frozen 1; have hne1 : W3.heap.size ≠ w.heap.size + 1 := (by omega); clear hb6) | fail "no arm"); go_wp2_with fail; have hsp := HSP.out; subst hsp; exact bodyPost_ret (results_blk_tmp rfl _ rfl ((HZ6.out.set_ 0 _).set_ 1 _) (by kernel_rfl) (by kernel_rfl)) rfl ⟨rfl, ((HB3.out.trans (HB6.out.mono HB3.out.size)).setCell (by simp) _).setCell (by simp) _⟩
      · have hne : (er == 0) = false := (by rw [beq_eq_false_iff_ne]; exact h0); have hsp : sp = ⟨0, 0⟩ := (by rw [HWS.out, if_neg h0]); subst hsp; have z0 := HZ2.out.cell 0; have z1 := HZ2.out.cell 1; have f0 := HZ2.out.frozen 0; have f1 := HZ2.out.frozen 1; go_wp2_with fail; exact bodyPost_ret (results_blk_tmp rfl _ rfl ((HZ2.out.set_ 0 _).set_ 1 _) (by kernel_rfl) (by kernel_rfl)) rfl ⟨rfl, (HBX.out.setCell (by simp) _).setCell (by simp) _⟩
end Go.Proofs.Ytdadgljllnkppaa
