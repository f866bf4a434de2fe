/- Follow: what comes of a plan. -/
import Derived.Test.YtdadgljllnkppaaLa
import Derived.Test.YtdadgljllnkppaaMd
import Derived.Deep.OwnRows
namespace Go.Proofs.Ytdadgljllnkppaa
open Go.RowKit Go.Shelf

structure FoR where
  used : List Int
  idx : Nat
  err : Int
  deriving DecidableEq
/-- The draws that are left, from the one with an index on. -/
def fol (p : Press) (plan : List Int) : List Draw → Nat → List Int → FoR
  | [], i, u => if i < plan.length then ⟨[], i, 2⟩ else ⟨u, i, 0⟩
  | x :: l, i, u =>
    if plan.length ≤ i then ⟨[], i, 4⟩
    else if fromB (plan.getD i 0) 0 ((p.dies.length : Int) - 1) = false then ⟨[], i, 2⟩
    else if doesB (p.dieI (plan.getD i 0)) p.shrink x (u.getD (plan.getD i 0).toNat 0) = false then ⟨[], i, 11⟩
    else fol p plan l (i + 1) (u.set (plan.getD i 0).toNat (u.getD (plan.getD i 0).toNat 0 + x.len))
def followR (p : Press) (l : List Draw) (plan : List Int) : FoR := if errOf p l true = 0 then fol p plan l 0 (List.replicate p.dies.length 0) else ⟨[], 0, errOf p l true⟩
def intsA (l : List Int) : Array Value := (l.map fun i => Value.int .i64 i).toArray
theorem intsA_get (l : List Int) (j : Nat) (h : j < l.length) : (intsA l)[j]? = some (.int .i64 (l.getD j 0)) := by simp [intsA, h]
theorem intsA_set (l : List Int) (j : Nat) (x : Int) : (intsA l).setIfInBounds j (.int .i64 x) = intsA (l.set j x) := by simp [intsA, List.map_set]
theorem made_ints (n : Nat) : madeCells #[Value.int .i64 0] n = intsA (List.replicate n 0) := by
  apply Array.ext
  · simp [madeCells, intsA]
  · intro i h1 h2
    simp [madeCells, intsA, Nat.mod_one]
def RetFo (r : FoR) (w : World) (e : Ending) (w' : World) : Prop := ∃ A c, e = .returned (.tuple #[.slice A r.used.length c, .int .i64 (r.idx : Int), .int .i64 r.err]) ∧ PlanAt w' (.slice A r.used.length c) r.used ∧ Below w.heap.size w w'
theorem plan_of_blk {W : World} {g n : Nat} {l : List Int} (h : Blk W g 3 (intsA l)) (hn : n = l.length) (hm : n ≤ 100) : PlanAt W (.slice (some ⟨g, 0, none⟩) n n) l := by
  subst hn
  exact ⟨by simp [intsV], .inr ⟨g, l.length, intsA l, rfl, Nat.zero_le _, h, Nat.le_refl _, by unfold maxLen; omega, by simp [intsA], by simp [intsA, intsV]; rw [List.take_of_length_le (by simp)]⟩⟩
/-- What the used list keeps to. -/
def UsedOk (n : Nat) (k : Int) (u : List Int) : Prop := u.length = n ∧ ∀ j, 0 ≤ u.getD j 0 ∧ u.getD j 0 ≤ 1000 * k
theorem UsedOk.start (n : Nat) : UsedOk n 0 (List.replicate n 0) := ⟨by simp, fun j => by rw [List.getD_eq_getElem?_getD]; by_cases h : j < n <;> simp [h]⟩
theorem UsedOk.set {n : Nat} {k : Int} {u : List Int} (h : UsedOk n k u) (j : Nat) {x : Int} (h0 : 0 ≤ x) (h1 : x ≤ 1000) : UsedOk n (k + 1) (u.set j (u.getD j 0 + x)) := by
  refine ⟨by simp [h.1], fun i => ?_⟩
  have hj := h.2 j
  have hi := h.2 i
  simp only [List.getD_eq_getElem?_getD] at hj hi ⊢
  rw [List.getElem?_set]
  split
  · split
    · simp only [Option.getD_some]; omega
    · simp only [Option.getD_none]; omega
  · omega

structure FoS (p : Press) (A : Option Addr) (c g : Nat) (u : List Int) (w W : World) : Prop where
  below : Below w.heap.size w W
  bp : Blk W w.heap.size 26 #[.slice A p.dies.length c, .int .i64 p.shrink.lo, .int .i64 p.shrink.hi, .int .i64 p.change]
  bu : Blk W g 3 (intsA u)
  ge : w.heap.size < g
section
variable {p : Press} {A : Option Addr} {c g : Nat} {u : List Int} {w W W' : World}
theorem FoS.call (h : FoS p A c g u w W) (hb : Below W.heap.size W W') : FoS p A c g u w W' := ⟨h.below.trans (hb.mono h.below.size), h.bp.below hb h.bp.lt, h.bu.below hb h.bu.lt, h.ge⟩
theorem FoS.drew (h : FoS p A c g u w W) : FoS p A c g u w W.drew := ⟨h.below.drew, h.bp, h.bu, h.ge⟩
theorem FoS.put (h : FoS p A c g u w W) (j : Nat) (x : Int) : FoS p A c g (u.set j x) w (W.setCell ⟨g, j, none⟩ (.int .i64 x)) :=
  ⟨h.below.setCell (Nat.le_of_lt h.ge) _, h.bp.far (by have := h.ge; simp only; omega) _, by rw [← intsA_set]; exact h.bu.set_ j _, h.ge⟩
theorem FoS.cell (h : FoS p A c g u w W) (j : Nat) (hj : j < u.length) : W.cell? ⟨g, j, none⟩ = some (.int .i64 (u.getD j 0)) := (h.bu.cell j).trans (intsA_get u j hj)
end
set_option maxRecDepth 100000 in
set_option maxHeartbeats 2000000 in
theorem follow_any (w : World) (A T P : Option Addr) (c ct cp : Nat) (p : Press) (l : List Draw) (plan : List Int) (hp : p.dies.length ≤ 9223372036854775807) (hl : l.length ≤ 9223372036854775807) (hq : plan.length ≤ 9223372036854775807) (hA : DieSl w w.heap.size A p.dies) (hT : DrawSl w w.heap.size T l) (hP : IntSl w w.heap.size P plan) :
    Calls Try.prog 24 #[.agg #[.slice A p.dies.length c, .int .i64 p.shrink.lo, .int .i64 p.shrink.hi, .int .i64 p.change], .slice T l.length ct, .slice P plan.length cp] w (RetFo (followR p l plan) w) := by
  have hb0 : Below w.heap.size w (w.alloc (.cells #[.slice A p.dies.length c, .int .i64 p.shrink.lo, .int .i64 p.shrink.hi, .int .i64 p.change] 26)) := (Below.refl _ _).alloc (Nat.le_refl _) _
  have HF := Lib.hid (firstError_any (w.alloc (.cells #[.slice A p.dies.length c, .int .i64 p.shrink.lo, .int .i64 p.shrink.hi, .int .i64 p.change] 26)) A T c ct p l true hp hl (hA.on hb0 (Nat.le_refl _)) (hT.on hb0 (Nat.le_refl _)))
  have HB := Lib.hid hb0
  by_cases h0 : errOf p l true = 0
  · have hR : followR p l plan = fol p plan l 0 (List.replicate p.dies.length 0) := by unfold followR; rw [if_pos h0]
    obtain ⟨h1, h2, -⟩ := err_parts h0
    obtain ⟨⟨n1, n4⟩, -⟩ := press_parts h1
    have hl8 := (draws_parts h2).1
    have hl8' : (l.length : Int) ≤ 8 := by omega
    have HPO := Lib.hid h1
    have HDO := Lib.hid (draws_parts h2).2
    have HA := Lib.hid hA
    have HT := Lib.hid hT
    have HP := Lib.hid hP
    have HL8 := Lib.hid hl8
    have HN1 := Lib.hid n1
    have HN4 := Lib.hid n4
    have hmk := run_make_row' (P := Try.prog) 28 3 (.int .i64 0) 8 (by kernel_rfl) (by kernel_rfl) rfl .i64 .i64 p.dies.length (by omega) (by omega)
    rw [made_ints] at hmk
    rw [h0] at HF
    rw [hR]
    clear hR h0 h1 h2 hA hT hP hb0 hp hl hl8
    have hq0 : (0 : Int) ≤ plan.length := by omega
    have hq' : (plan.length : Int) ≤ 9223372036854775807 := by omega
    have hl0 : (0 : Int) ≤ l.length := by omega
    have hn4 : (p.dies.length : Int) ≤ 4 := by omega
    have hn1 : (1 : Int) ≤ p.dies.length := by omega
    go_enter Try.func24, Try.ntmps24
    go_wp2_with fail
    refine HF.out.mono ?_
    rintro e W1 ⟨rfl, hb1⟩
    have HB1 := Lib.hid (HB.out.trans (hb1.mono HB.out.size))
    have hbx := (Blk.new w 26 #[.slice A p.dies.length c, .int .i64 p.shrink.lo, .int .i64 p.shrink.hi, .int .i64 p.change]).below hb1 (Blk.new w _ _).lt
    have x0 := hbx.cell 0
    have HBX := Lib.hid hbx
    clear hb1 HF hbx HB
    go_wp2_with fail
    have hS : FoS p A c W1.heap.size (List.replicate p.dies.length 0) w (W1.alloc (.cells (intsA (List.replicate p.dies.length 0)) 3)) := ⟨HB1.out.alloc HB1.out.size _, HBX.out.alloc _, Blk.new _ _ _, HBX.out.lt⟩
    generalize W1.heap.size = g at hS ⊢
    generalize World.alloc W1 _ = W2 at hS ⊢
    have HS := Lib.hid hS
    clear x0 HBX HB1 hS hmk
    go_loopw [6, 24] (fun v i wr => ∃ (k : Nat) (u : List Int), k ≤ l.length ∧ v = .slice (some ⟨g, 0, none⟩) p.dies.length p.dies.length ∧ i = .int .i64 k ∧ Hid (FoS p A c g u w wr) ∧ Hid (UsedOk p.dies.length k u) ∧ Hid (fol p plan l 0 (List.replicate p.dies.length 0) = fol p plan (l.drop k) k u)) (fun _ i _ => l.length - (intOf i).toNat)
    case atStart => exact ⟨0, _, by omega, rfl, rfl, HS, Lib.hid (UsedOk.start _), Lib.hid rfl⟩
    case round =>
      clear HS
      obtain ⟨k, u, hk, rfl, rfl, HS, HU, HR⟩ := hrel
      by_cases hlt : k < l.length
      · obtain ⟨bT, oT, rfl, hbT, hat⟩ := HT.out (by intro e; rw [e] at hlt; simp at hlt)
        obtain ⟨t0, t1, t2⟩ := hat k hlt
        clear hat
        simp only [drawF] at t0 t1 t2
        rw [← HS.out.below.cell (p := ⟨bT, _, none⟩) hbT] at t0 t1 t2
        have hx := HDO.out l[k] (List.getElem_mem hlt)
        have HFO : Hid (fol p plan (l.drop k) k u = if plan.length ≤ k then ⟨[], k, 4⟩
            else if fromB (plan.getD k 0) 0 ((p.dies.length : Int) - 1) = false then ⟨[], k, 2⟩
            else if doesB (p.dieI (plan.getD k 0)) p.shrink l[k] (u.getD (plan.getD k 0).toNat 0) = false then ⟨[], k, 11⟩
            else fol p plan (l.drop (k + 1)) (k + 1) (u.set (plan.getD k 0).toNat (u.getD (plan.getD k 0).toNat 0 + l[k].len))) := Lib.hid (by rw [List.drop_eq_getElem_cons hlt]; rfl)
        generalize l[k] = x at *
        have HX := Lib.hid hx
        clear hx
        by_cases hpk : plan.length ≤ k
        · rw [HR.out, HFO.out, if_pos hpk]
          clear HFO HR
          go_wp2_with fail
          exact bodyPost_ret (v := .tuple #[.slice none 0 0, .int .i64 (k : Int), .int .i64 4]) (by simp [results, Try.results24, go_sem]) rfl ⟨none, 0, rfl, World.ownsRow_nil _ _ _ _, (HS.out.below.alloc HS.out.below.size _)⟩
        · rw [if_neg hpk] at HFO
          obtain ⟨bP, oP, rfl, hbP, hap⟩ := HP.out (by intro e; rw [e] at hpk; simp at hpk)
          have y0 := hap k (by omega)
          rw [← HS.out.below.cell (p := ⟨bP, _, none⟩) hbP] at y0
          have hgd : plan.getD k 0 = plan[k]'(by omega) := by simp [List.getD_eq_getElem?_getD, List.getElem?_eq_getElem (show k < plan.length by omega)]
          rw [← hgd] at y0
          clear hap hgd
          generalize plan.getD k 0 = d at *
          have hS0 := Lib.hid (HS.out.call ((Below.refl _ _).alloc (Nat.le_refl _) (.cells #[.int .i64 x.len, .int .i64 x.want.lo, .int .i64 x.want.hi] 51)))
          have y1 := cell_call y0 ((Below.refl _ _).alloc (Nat.le_refl _) (.cells #[.int .i64 x.len, .int .i64 x.want.lo, .int .i64 x.want.hi] 51))
          have hX0 := Blk.new wr 51 #[.int .i64 x.len, .int .i64 x.want.lo, .int .i64 x.want.hi]
          have hkp : (k : Int) < plan.length := by omega
          have hk0 : (0 : Int) ≤ k := by omega
          go_wp2_with fail
          clear t0 t1 t2 y0 HS
          have hzl : wr.heap.size < (World.alloc wr (.cells #[.int .i64 x.len, .int .i64 x.want.lo, .int .i64 x.want.hi] 51)).heap.size := by simp
          generalize wr.heap.size = gx at hX0 hzl ⊢
          generalize World.alloc wr _ = V at hS0 y1 hX0 hzl ⊢
          have hQ : PbS p A c w.heap.size V V := PbS.of (Below.refl _ _) hS0.out.bp
          have HX0 := Lib.hid hX0
          have HQ := Lib.hid hQ
          have HI : Hid (∀ W, Calls Try.prog 61 #[.agg #[.slice A p.dies.length c, .int .i64 p.shrink.lo, .int .i64 p.shrink.hi, .int .i64 p.change], .int .i64 d] W (Ret (.bool (fromB d 0 ((p.dies.length : Int) - 1))) W)) := Lib.hid fun W => isDie_any A _ c _ _ _ d W (by omega)
          have hS1 : PbS p A c w.heap.size V V ∧ V.cell? ⟨bP, oP + k, none⟩ = some (.int .i64 d) := ⟨hQ, y1⟩
          unfold PbS at hS1 hQ
          obtain ⟨o, ho⟩ : ∃ o, fromB d 0 ((p.dies.length : Int) - 1) = o := ⟨_, rfl⟩
          rw [ho] at HI HFO
          have HO := Lib.hid ho
          clear ho hQ
          go_region_held3 (fun W => (Below V.heap.size V W ∧ W.cell? ⟨w.heap.size, 0, none⟩ = some (.slice A p.dies.length c) ∧ W.cell? ⟨w.heap.size, 1, none⟩ = some (.int .i64 p.shrink.lo) ∧ W.cell? ⟨w.heap.size, 2, none⟩ = some (.int .i64 p.shrink.hi) ∧ W.cell? ⟨w.heap.size, 3, none⟩ = some (.int .i64 p.change)) ∧ W.cell? ⟨bP, oP + k, none⟩ = some (.int .i64 d))
            (first | exact ⟨HQ.out.drew, y1⟩ | exact ⟨HQ1.out, y2⟩ | assumption | fail "keep")
            (first
              | (go_at_call 61; (with_reducible refine (HI.out _).mono ?_); rintro e e1 ⟨rfl, hb1⟩; have HQ1 := Lib.hid (HQ.out.drew.call hb1); have y2 := cell_call y1 (Below.trans (Below.refl _ _).drew hb1); have HS1 := Lib.hid (hS0.out.call (Below.trans (Below.refl _ _).drew hb1)); have HX1 := Lib.hid (HX0.out.below (Below.trans (Below.refl _ _).drew hb1) HX0.out.lt); clear hb1)
              | fail "no arm")
          clear hS1 HI HQ y1 hS0 HX0 hX0
          cases o with
          | false =>
            have HRES : Hid (fol p plan l 0 (List.replicate p.dies.length 0) = ⟨[], k, 2⟩) := Lib.hid (by rw [HR.out, HFO.out, if_pos rfl])
            clear HFO HR
            go_wp2_with fail
            rw [HRES.out]
            exact bodyPost_ret (v := .tuple #[.slice none 0 0, .int .i64 (k : Int), .int .i64 2]) (by simp [results, Try.results24, go_sem]) rfl ⟨none, 0, rfl, World.ownsRow_nil _ _ _ _, HS1.out.below⟩
          | true =>
            rw [if_neg (by simp)] at HFO
            have hd := HO.out
            rw [fromB_iff] at hd
            obtain ⟨d0, d1⟩ := hd
            obtain ⟨kd, rfl⟩ := Int.eq_ofNat_of_zero_le d0
            have hkd : kd < p.dies.length := by omega
            obtain ⟨-, hdi, hsh, -⟩ := press_parts HPO.out
            have hdI : p.dieI (kd : Int) = p.dies[kd] := by simp [Press.dieI, hkd]
            have hub := HU.out.2 kd
            have hul : kd < u.length := by rw [HU.out.1]; exact hkd
            rw [hdI, Int.toNat_natCast] at HFO
            have z0 := HS1.out.cell kd hul
            have HMT : Hid (∀ W, Below w.heap.size w W → Calls Try.prog 63 #[.agg #[.slice A p.dies.length c, .int .i64 p.shrink.lo, .int .i64 p.shrink.hi, .int .i64 p.change], .int .i64 (kd : Int)] W (RetMount p.dies[kd] p.shrink W)) := Lib.hid fun W hW => mount_any W A c p kd hkd (HA.out.on hW (Nat.le_refl _))
            have hxo : drawOk x = true := by
              have := HX.out
              unfold drawOk
              rw [Bool.and_eq_true, fromB_iff, withinB_iff]
              exact this
            have hdk := hdi p.dies[kd] (List.getElem_mem hkd)
            obtain ⟨uv, huv⟩ : ∃ v, u.getD kd 0 = v := ⟨_, rfl⟩
            have HUV := Lib.hid huv
            rw [huv] at hub z0 HFO
            clear huv
            have HDF : Hid (∀ (W : World) (q r s q2 r2 s2 : Nat), Mounted W W.heap.size q r s q2 r2 s2 p.dies[kd] p.shrink → Calls Try.prog 73 #[.agg #[.int .i64 p.dies[kd].wide, .int .i64 p.dies[kd].wear.lo, .int .i64 p.dies[kd].wear.hi, .func (.func 134) #[] #[.pointer (some ⟨q, 0, none⟩), .pointer (some ⟨r, 0, none⟩), .pointer (some ⟨s, 0, none⟩)], .func (.func 98) #[] #[], .func (.func 134) #[] #[.pointer (some ⟨q2, 0, none⟩), .pointer (some ⟨r2, 0, none⟩), .pointer (some ⟨s2, 0, none⟩)], .func (.func 99) #[] #[]], .agg #[.int .i64 x.len, .int .i64 x.want.lo, .int .i64 x.want.hi], .int .i64 uv] W (Ret (.bool (doesB p.dies[kd] p.shrink x uv)) W)) :=
              Lib.hid fun W q r s q2 r2 s2 hM => does_any W q r s q2 r2 s2 p.dies[kd] p.shrink x uv hM hdk hsh hxo hub.1 (by omega)
            generalize p.dies[kd] = dk at *
            obtain ⟨o2, ho2⟩ : ∃ o, doesB dk p.shrink x uv = o := ⟨_, rfl⟩
            rw [ho2] at HDF HFO
            clear ho2 hdI hdi hsh hdk hxo
            have x0 := HX1.out.cell 0
            have x1 := HX1.out.cell 1
            have x2 := HX1.out.cell 2
            have HBW := Lib.hid HS1.out.below
            have hQ2 : PbS p A c w.heap.size e1 e1 := PbS.of (Below.refl _ _) HS1.out.bp
            have HQ2 := Lib.hid hQ2
            have hkd0 : (0 : Int) ≤ kd := by omega
            have hkdn : (kd : Int) < p.dies.length := by omega
            have hS2 : PbS p A c w.heap.size e1 e1 ∧ e1.cell? ⟨bP, oP + k, none⟩ = some (.int .i64 (kd : Int)) ∧ e1.cell? ⟨gx, 0, none⟩ = some (.int .i64 x.len) ∧ e1.cell? ⟨gx, 1, none⟩ = some (.int .i64 x.want.lo) ∧ e1.cell? ⟨gx, 2, none⟩ = some (.int .i64 x.want.hi) ∧ e1.cell? ⟨g, kd, none⟩ = some (.int .i64 uv) := ⟨hQ2, y2, x0, x1, x2, z0⟩
            unfold PbS at hS2
            clear hQ2 HQ1
            go_wp2_with fail
            go_region_held3 (fun W => (Below e1.heap.size e1 W ∧ W.cell? ⟨w.heap.size, 0, none⟩ = some (.slice A p.dies.length c) ∧ W.cell? ⟨w.heap.size, 1, none⟩ = some (.int .i64 p.shrink.lo) ∧ W.cell? ⟨w.heap.size, 2, none⟩ = some (.int .i64 p.shrink.hi) ∧ W.cell? ⟨w.heap.size, 3, none⟩ = some (.int .i64 p.change)) ∧ W.cell? ⟨bP, oP + k, none⟩ = some (.int .i64 (kd : Int)) ∧ W.cell? ⟨gx, 0, none⟩ = some (.int .i64 x.len) ∧ W.cell? ⟨gx, 1, none⟩ = some (.int .i64 x.want.lo) ∧ W.cell? ⟨gx, 2, none⟩ = some (.int .i64 x.want.hi) ∧ W.cell? ⟨g, kd, none⟩ = some (.int .i64 uv))
              (first | exact ⟨HQ2.out.drew, y2, x0, x1, x2, z0⟩ | exact ⟨HQ3.out, y3, HX3.out.cell 0, HX3.out.cell 1, HX3.out.cell 2, z3⟩ | exact ⟨HQ4.out, y4, HX4.out.cell 0, HX4.out.cell 1, HX4.out.cell 2, z4⟩ | assumption | fail "keep")
              (first
                | (go_at_call 63; (with_reducible refine (HMT.out _ HBW.out.drew).mono ?_); rintro e e3 ⟨q, r, s, q2, r2, s2, rfl, hM, hb3⟩; have HQ3 := Lib.hid (HQ2.out.drew.call hb3); have y3 := cell_call y2 (Below.trans (Below.refl _ _).drew hb3); have z3 := cell_call z0 (Below.trans (Below.refl _ _).drew hb3); have HS3 := Lib.hid (HS1.out.call (Below.trans (Below.refl _ _).drew hb3)); have HX3 := Lib.hid (HX1.out.below (Below.trans (Below.refl _ _).drew hb3) HX1.out.lt); have HM := Lib.hid hM; clear hb3 hM)
                | (go_at_call 73; (with_reducible refine (HDF.out _ _ _ _ _ _ _ HM.out).mono ?_); rintro e e4 ⟨rfl, hb4⟩; have HQ4 := Lib.hid (HQ3.out.call hb4); have y4 := cell_call y3 hb4; have z4 := cell_call z3 hb4; have HS4 := Lib.hid (HS3.out.call hb4); have HX4 := Lib.hid (HX3.out.below hb4 HX3.out.lt); clear hb4)
                | fail "no arm")
            clear hS2 HQ2 HQ3 HQ4 HS1 HS3 HX1 HX3 y2 y3 z0 z3 x0 x1 x2 HM HMT HDF HBW
            cases o2 with
            | false =>
              have HRES : Hid (fol p plan l 0 (List.replicate p.dies.length 0) = ⟨[], k, 11⟩) := Lib.hid (by rw [HR.out, HFO.out, if_pos rfl])
              clear HFO HR
              go_wp2_with fail
              rw [HRES.out]
              exact bodyPost_ret (v := .tuple #[.slice none 0 0, .int .i64 (k : Int), .int .i64 11]) (by simp [results, Try.results24, go_sem]) rfl ⟨none, 0, rfl, World.ownsRow_nil _ _ _ _, HS4.out.below⟩
            | true =>
              rw [if_neg (by simp)] at HFO
              have x0 := HX4.out.cell 0
              have fz := HS4.out.bu.frozen kd
              have hwr : IntKind.i64.wrap (uv + x.len) = uv + x.len := by have := HX.out; exact IntWalk.i64_in _ ⟨by omega, by omega⟩
              go_wp2_with fail
              go_region
              all_goals
                go_wp2_with fail
                go_roundw
                case rel =>
                  refine ⟨k + 1, u.set kd (uv + x.len), by omega, rfl, by go_num, Lib.hid (HS4.out.put kd _).drew, Lib.hid ?_, Lib.hid (HR.out.trans HFO.out)⟩
                  have := HU.out.set kd (x := x.len) (by have := HX.out; omega) HX.out.1.2
                  rw [HUV.out] at this
                  exact this
                case measure => simp [intOf]; omega
      · obtain rfl : k = l.length := by omega
        have hfe : fol p plan (l.drop l.length) l.length u = if l.length < plan.length then ⟨[], l.length, 2⟩ else ⟨u, l.length, 0⟩ := by rw [List.drop_length]; rfl
        by_cases hle : l.length < plan.length
        · have HRES : Hid (fol p plan l 0 (List.replicate p.dies.length 0) = ⟨[], l.length, 2⟩) := Lib.hid (by rw [HR.out, hfe, if_pos hle])
          clear HR hfe
          go_wp2_with fail
          rw [HRES.out]
          exact bodyPost_ret (v := .tuple #[.slice none 0 0, .int .i64 (l.length : Int), .int .i64 2]) (by simp [results, Try.results24, go_sem]) rfl ⟨none, 0, rfl, World.ownsRow_nil _ _ _ _, HS.out.below⟩
        · have HRES : Hid (fol p plan l 0 (List.replicate p.dies.length 0) = ⟨u, l.length, 0⟩) := Lib.hid (by rw [HR.out, hfe, if_neg hle])
          clear HR hfe
          go_wp2_with fail
          rw [HRES.out]
          exact bodyPost_ret (v := .tuple #[.slice (some ⟨g, 0, none⟩) p.dies.length p.dies.length, .int .i64 (l.length : Int), .int .i64 0]) (by simp [results, Try.results24, go_sem]) rfl ⟨some ⟨g, 0, none⟩, p.dies.length, by rw [HU.out.1], by rw [HU.out.1]; exact plan_of_blk HS.out.bu HU.out.1.symm (by omega), HS.out.below⟩
  · have hR : followR p l plan = ⟨[], 0, errOf p l true⟩ := by unfold followR; rw [if_neg h0]
    rw [hR]
    have hne : (errOf p l true == 0) = false := by rw [beq_eq_false_iff_ne]; exact h0
    generalize errOf p l true = er at HF hne ⊢
    clear h0 hA hT hP hb0 hp hl hR
    go_enter Try.func24, Try.ntmps24
    go_wp2_with fail
    refine HF.out.mono ?_
    rintro e W1 ⟨rfl, hb1⟩
    have HB1 := Lib.hid (HB.out.trans (hb1.mono HB.out.size))
    clear hb1 HF
    go_wp2_with fail
    exact bodyPost_ret (v := .tuple #[.slice none 0 0, .int .i64 0, .int .i64 er]) (by simp [results, Try.results24, go_sem]) rfl ⟨none, 0, rfl, World.ownsRow_nil _ _ _ _, HB1.out⟩
end Go.Proofs.Ytdadgljllnkppaa
