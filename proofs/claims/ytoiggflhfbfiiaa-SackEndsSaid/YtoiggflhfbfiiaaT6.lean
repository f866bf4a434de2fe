/- The law SackTrue where the batch is valid. -/
import Derived.Test.YtoiggflhfbfiiaaT5
namespace Go.Proofs.Ytoiggflhfbfiiaa
open Go.RowKit Go.Shelf

theorem partOf_bd {l : List Sack} {b : List Take} (hv : validB l b = true) (k : Nat) : -10000000 ≤ (partOf l b k).lo ∧ (partOf l b k).lo ≤ 10000000 ∧ -10000000 ≤ (partOf l b k).hi ∧ (partOf l b k).hi ≤ 10000000 := by
  have h1 := together_bd (g := partG k) (B := 800000000000000) (by omega) (fun t ht => by
    have h1 := St.water_bd ht
    have h2 := St.carbon_bd ht
    have h3 := St.smoke_bd ht
    have h4 := St.clay_bd ht
    have h5 := St.lead_bd ht
    unfold partG
    split <;> omega) (heldsOf l b) (helds_ok hv)
  have h2 := (helds_len hv).2
  have h3 : (800000000000000 : Int) * (heldsOf l b).length ≤ 6400000000000000 := by omega
  simp only [partOf, gramsOf, cdiv]
  omega
theorem inside_yes (n lo hi : Int) (w : World) (h0 : -10000000 ≤ lo) (h1 : lo ≤ 10000000) (h2 : -10000000 ≤ hi) (h3 : hi ≤ 10000000) (h : lo * 1000000000 ≤ n ∧ n ≤ hi * 1000000000) :
    Calls Try.prog 23 #[.int .i64 n, .agg #[.int .i64 lo, .int .i64 hi]] w (Ret (.bool true) w) :=
  (inside_any n lo hi w h0 h1 h2 h3).mono fun e w' ⟨h1, h2⟩ => ⟨by rw [h1]; exact ret_bool (by simpa using h), h2⟩

/-- The five sums of which the first k have been found. -/
def sumsTo (f : Nat → Int) (k : Nat) : Array Value := Array.ofFn (n := 5) fun j => if j.1 < k then .int .i64 (f j.1) else .int .i64 0
theorem sumsTo_next (f : Nat → Int) (k : Nat) (hk : k < 5) : (sumsTo f k).setIfInBounds k (.int .i64 (f k)) = sumsTo f (k + 1) := by
  have h : k = 0 ∨ k = 1 ∨ k = 2 ∨ k = 3 ∨ k = 4 := by omega
  rcases h with rfl | rfl | rfl | rfl | rfl <;> rfl
theorem sumsTo_at (f : Nat → Int) (k : Nat) (hk : k < 5) : (sumsTo f k)[k]? = some (.int .i64 0) := by
  have h : k = 0 ∨ k = 1 ∨ k = 2 ∨ k = 3 ∨ k = 4 := by omega
  rcases h with rfl | rfl | rfl | rfl | rfl <;> rfl

/-- What is in hand once the truth is made: all of it lies below block B. -/
structure TruS (w : World) (A T : Option Addr) (l : List Sack) (b : List Take) (wl wh : Int) (p9 p11 : Nat) (f : Nat → Span) (sh : Span) (S V : Option Addr) (cs : List Cor) (ws : List Int) (B : Nat) (W : World) : Prop where
  b0 : Blk W w.heap.size 25 #[.int .i64 wl, .int .i64 wh]
  sa : SackSl W B A l
  ta : TakeSl W B T b
  below : Below w.heap.size w W
  p : Blk W p9 29 (spansTo f 5)
  s : Blk W p11 25 #[.int .i64 sh.lo, .int .i64 sh.hi]
  cs : CorSl W B S cs
  ws : IntSl W B V ws
  l0 : w.heap.size < B
  l1 : p9 < B
  l2 : p11 < B
theorem TruS.keep {w : World} {A T : Option Addr} {l : List Sack} {b : List Take} {wl wh : Int} {p9 p11 : Nat} {f : Nat → Span} {sh : Span} {S V : Option Addr} {cs : List Cor} {ws : List Int} {B : Nat} {W W' : World} (h : TruS w A T l b wl wh p9 p11 f sh S V cs ws B W) (hb : Below B W W') : TruS w A T l b wl wh p9 p11 f sh S V cs ws B W' :=
  ⟨h.b0.below hb h.l0, h.sa.below hb, h.ta.below hb, h.below.trans (hb.mono (Nat.le_of_lt h.l0)), h.p.below hb h.l1, h.s.below hb h.l2, h.cs.below hb, h.ws.below hb, h.l0, h.l1, h.l2⟩
theorem TruS.call {w : World} {A T : Option Addr} {l : List Sack} {b : List Take} {wl wh : Int} {p9 p11 : Nat} {f : Nat → Span} {sh : Span} {S V : Option Addr} {cs : List Cor} {ws : List Int} {B : Nat} {W W' : World} (h : TruS w A T l b wl wh p9 p11 f sh S V cs ws B W) (hB : B ≤ W.heap.size) (hb : Below W.heap.size W W') : TruS w A T l b wl wh p9 p11 f sh S V cs ws B W' := h.keep (hb.mono hB)
theorem sum_snoc : ∀ (ws : List Int) (k : Nat) (h : k < ws.length), (ws.take (k + 1)).sum = (ws.take k).sum + ws[k]
  | [], _, h => by simp at h
  | x :: ws, 0, _ => by simp
  | x :: ws, k + 1, h => by
    have := sum_snoc ws k (by simpa using h)
    simp only [List.take_succ_cons, List.sum_cons, this, List.getElem_cons_succ]
    omega
theorem sum_bd {ws : List Int} (h : ∀ x ∈ ws, 1 ≤ x ∧ x ≤ 100000) : 0 ≤ ws.sum ∧ ws.sum ≤ ws.length * 100000 := by
  induction ws with
  | nil => simp
  | cons x ws ih =>
    have := ih fun y hy => h y (by simp [hy])
    have := h x (by simp)
    simp only [List.sum_cons, List.length_cons]
    omega

set_option maxRecDepth 100000 in
set_option maxHeartbeats 16000000 in
theorem true_main (w : World) (A T Y : Option Addr) (c d y : Nat) (l : List Sack) (b : List Take) (wl wh : Int) (ys : List Int) (hl : l.length ≤ 12) (hb : b.length ≤ 12) (hA : SackSl w w.heap.size A l) (hT : TakeSl w w.heap.size T b) (hY : U32Sl w w.heap.size Y ys) (hy : ys.length ≠ 0) (hy2 : ys.length ≤ 9223372036854775807) (hyb : ∀ y ∈ ys, 0 ≤ y ∧ y ≤ 4294967295)
    (hv : validB l b = true) : Calls Try.prog 5 #[.slice A l.length c, .slice T b.length d, .agg #[.int .i64 wl, .int .i64 wh], .slice Y ys.length y] w (Ret (.bool true) w) := by
  have HV := Lib.hid hv
  have HS : Hid (sacksOk l = true) := by rw [validB_split, Bool.and_eq_true] at hv; exact hv.1
  have HS2 : Hid (batchB l b = true) := by rw [validB_split, Bool.and_eq_true] at hv; exact hv.2
  have HY := Lib.hid hY
  have HYB := Lib.hid hyb
  clear hv hY hyb
  have HL := Lib.hid (LawS.new w A T l b wl wh hA hT); clear hA hT; go_enter Try.func5, Try.ntmps5; go_wp2_with fail
  refine (large_no A T _ _ c d _ hl hb).mono ?_
  rintro e w' ⟨rfl, rfl⟩
  go_wp2_with fail
  refine (rsacks_any _ A c l (by omega) HL.out.sa).mono ?_
  rw [HS.out]
  rintro e w1 ⟨rfl, hb'⟩
  replace HL := Lib.hid (HL.out.call hb')
  clear hb'
  go_wp2_with fail
  refine (rbatch_any _ A T c d l b (by omega) (by omega) HL.out.ta).mono ?_
  rw [HS2.out]
  rintro e w2 ⟨rfl, hb'⟩
  replace HL := Lib.hid (HL.out.call hb')
  clear hb'
  go_wp2_with fail
  have hW := weigh_yes w2 A T c d l b (by omega) (by omega) HL.out.sa HL.out.ta HV.out
  rw [spansTo5] at hW
  refine hW.mono ?_
  clear hW
  rintro e w3 ⟨rfl, hb'⟩
  replace HL := Lib.hid (HL.out.call hb')
  clear hb'
  have hpb := fun k => partOf_bd HV.out k
  have HF : Hid (∀ k, -10000000 ≤ (partOf l b k).lo ∧ (partOf l b k).lo ≤ 10000000 ∧ -10000000 ≤ (partOf l b k).hi ∧ (partOf l b k).hi ≤ 10000000) := hpb
  have HTR := Lib.hid (truth_is ys HV.out)
  clear hpb
  have HI := Lib.hid HTR.out.inside
  generalize partOf l b = f at HF HI ⊢
  go_wp2_with fail
  have P3 := Lib.hid (Blk.new w3 29 (spansTo f 5))
  have hb3 : Below w3.heap.size w3 (w3.alloc (.cells (spansTo f 5) 29)) := (Below.refl _ _).alloc (Nat.le_refl _) _
  replace HL := Lib.hid (HL.out.call hb3)
  rw [spansTo5] at hb3
  have HC := share_yes _ A T c d l b (by omega) (by omega) HL.out.sa HL.out.ta HV.out
  refine HC.mono ?_
  clear HC hb3
  rintro e w4 ⟨rfl, hb'⟩
  replace HL := Lib.hid (HL.out.call hb')
  replace P3 := Lib.hid (P3.out.below hb' P3.out.lt)
  clear hb'
  have hsb := share_bd (heldsOf l b)
  have HSH := Lib.hid HTR.out.share
  generalize shareOf (heldsOf l b) = sh at hsb HSH ⊢
  obtain ⟨s1, s2, s3, s4⟩ := hsb
  go_wp2_with fail
  have X4 := Lib.hid (Blk.new w4 25 #[.int .i64 sh.lo, .int .i64 sh.hi])
  have hb4 : Below w4.heap.size w4 (w4.alloc (.cells #[.int .i64 sh.lo, .int .i64 sh.hi] 25)) := (Below.refl _ _).alloc (Nat.le_refl _) _
  replace HL := Lib.hid (HL.out.call hb4)
  replace P3 := Lib.hid (P3.out.below hb4 P3.out.lt)
  have hY4 := (HY.out.below HL.out.below).more HL.out.below.size
  have hbx := HTR.out.valid
  have HSO := Lib.hid (sacksOk_all HS.out)
  have HTO : Hid (∀ t ∈ b, withinB t.m 1 100000 = true) := fun t ht => by
    have := validB_take HV.out t ht
    simp only [takeOk, Bool.and_eq_true] at this
    exact this.2
  refine (truth_any _ A T Y c d y l b ys hl hb HL.out.sa HL.out.ta hY4 (by omega) hy2 HYB.out HSO.out HTO.out).mono ?_
  clear hY4 hb4 hbx
  rintro e w5 ⟨S, V, cs1, cs2, rfl, hcs, hws, hb'⟩
  replace HL := Lib.hid (HL.out.call hb')
  replace P3 := Lib.hid (P3.out.below hb' P3.out.lt)
  replace X4 := Lib.hid (X4.out.below hb' X4.out.lt)
  have HX : Hid (TruS w A T l b wl wh w3.heap.size w4.heap.size f sh S V (trueS l ys l.length) (trueW b ys b.length) w5.heap.size w5) := ⟨HL.out.b0, HL.out.sa, HL.out.ta, HL.out.below, P3.out, X4.out, hcs, hws, HL.out.b0.lt, P3.out.lt, X4.out.lt⟩
  clear hb' hcs hws HL P3 X4 HSO HTO
  have hcl := trueS_len l ys l.length
  have hwl := trueW_len b ys b.length
  have HCO := Lib.hid (trueS_ok (ys := ys) (sacksOk_all HS.out))
  have hlen := hcl
  have HCL := Lib.hid hcl
  have HWL := Lib.hid hwl
  clear hcl hwl hlen
  generalize trueS l ys l.length = cs at HX HTR HI HSH HCL HCO ⊢
  generalize trueW b ys b.length = ws at HX HTR HI HSH HWL ⊢
  generalize w3.heap.size = p9 at HX ⊢
  generalize w4.heap.size = p11 at HX ⊢
  go_wp2_with fail
  have HN5 := Lib.hid (Blk.new w5 45 (sumsTo (fun k => sumOf (kindX k) (corAt cs) b ws) 0))
  have HX5 : Hid (TruS w A T l b wl wh p9 p11 f sh S V cs ws w5.heap.size (w5.alloc (.cells (sumsTo (fun k => sumOf (kindX k) (corAt cs) b ws) 0) 45))) := HX.out.keep ((Below.refl _ _).alloc (Nat.le_refl _) _)
  clear HX
  have e0 : sumsTo (fun k => sumOf (kindX k) (corAt cs) b ws) 0 = #[.int .i64 0, .int .i64 0, .int .i64 0, .int .i64 0, .int .i64 0] := rfl
  rw [e0] at HX5
  rw [e0] at HN5
  clear e0
  generalize World.alloc w5 _ = w6 at HN5 HX5 ⊢
  generalize w5.heap.size = B at HN5 HX5 ⊢
  have HBS : Hid (∀ t ∈ b, 0 ≤ t.s ∧ t.s < cs.length) := fun t ht => by
    have := validB_take HV.out t ht
    simp only [takeOk, idxB, Bool.and_eq_true, decide_eq_true_eq] at this
    have h2 := HCL.out
    omega
  have HWB := Lib.hid HTR.out.ws_bd
  go_loopw [16] (fun i wr => ∃ k : Nat, k ≤ 5 ∧ i = .int .i64 k ∧ Hid (TruS w A T l b wl wh p9 p11 f sh S V cs ws B wr) ∧ Hid (Blk wr B 45 (sumsTo (fun k => sumOf (kindX k) (corAt cs) b ws) k))) (fun i _ => 5 - (intOf i).toNat)
  case atStart => exact ⟨0, by omega, rfl, HX5, HN5⟩
  case round =>
    clear HX5 HN5
    obtain ⟨k, hk, rfl, HX, HN⟩ := hrel
    by_cases hlt : k < 5
    · have hle := HN.out.lt
      have hA := all_any wr T S V d cs1 cs2 b cs ws k hlt hb HWL.out (by have := HCL.out; omega) (HX.out.ta.more (by omega)) (HX.out.cs.more (by omega)) (HX.out.ws.more (by omega)) HBS.out (fun x hx => by have := HWB.out x hx; omega) HCO.out
      rw [HCL.out] at hA
      have HA1 := Lib.hid hA
      clear hA
      go_wp2_with fail
      refine HA1.out.mono ?_
      rintro e v1 ⟨rfl, hb'⟩
      replace HX := Lib.hid (HX.out.call (by omega) hb')
      replace HN := Lib.hid (HN.out.below hb' hle)
      clear hb' HA1
      have c0 := (HN.out.cell k).trans (sumsTo_at _ k hlt)
      have f0 := HN.out.frozen k
      have hle2 := HN.out.lt
      go_wp2_with fail
      have HX2 : Hid (TruS w A T l b wl wh p9 p11 f sh S V cs ws B (v1.setCell ⟨B, k, none⟩ (.int .i64 (sumOf (kindX k) (corAt cs) b ws)))) := HX.out.keep ((Below.refl _ _).setCell (p := ⟨B, k, none⟩) (Nat.le_refl _) _)
      have HN2 : Hid (Blk (v1.setCell ⟨B, k, none⟩ (.int .i64 (sumOf (kindX k) (corAt cs) b ws))) B 45 (sumsTo (fun k => sumOf (kindX k) (corAt cs) b ws) (k + 1))) := by
        have := HN.out.set_ k (.int .i64 (sumOf (kindX k) (corAt cs) b ws))
        rw [← sumsTo_next (fun k => sumOf (kindX k) (corAt cs) b ws) k hlt]
        exact this
      clear c0 f0
      go_roundw
      case rel => exact ⟨k + 1, by omega, by go_num, HX2, HN2⟩
      case measure => simp [intOf]; omega
    · obtain rfl : k = 5 := by omega
      clear hk hlt
      go_wp2_with fail
      go_loop [17, 18] (fun s i => ∃ k : Nat, k ≤ b.length ∧ i = .int .i64 k ∧ s = .int .i64 (ws.take k).sum) (fun _ i => b.length - (intOf i).toNat)
      case atStart => exact ⟨0, by omega, rfl, rfl⟩
      case round =>
        obtain ⟨k, hk, rfl, rfl⟩ := hrel
        by_cases hlt : k < b.length
        · have hwl : k < ws.length := by rw [HWL.out]; exact hlt
          obtain ⟨bW, oW, rfl, hbW, hs⟩ := HX.out.ws (by intro e; subst e; simp at hwl)
          have x0 := hs k hwl
          clear hs
          have hsd := sum_bd (ws := ws.take k) fun x hx => HWB.out x (List.mem_of_mem_take hx)
          have hsl : (ws.take k).length ≤ k := List.length_take_le _ _
          have hsd1 : 0 ≤ (ws.take k).sum ∧ (ws.take k).sum ≤ 1200000 := by omega
          obtain ⟨d1, d2⟩ := hsd1
          clear hsd hsl
          have HSN := Lib.hid (sum_snoc ws k hwl)
          obtain ⟨x1, x2⟩ := HWB.out _ (List.getElem_mem hwl)
          generalize ws[k] = x at x0 x1 x2 HSN
          generalize (ws.take k).sum = sm at d1 d2 HSN
          go_wp2_with fail
          go_round
          case rel => exact ⟨k + 1, by omega, by go_num, by rw [HSN.out]⟩
          case measure => simp [intOf]; omega
        · obtain rfl : k = b.length := by omega
          have HE : Hid ((ws.take b.length).sum = ws.sum) := by
            show _ = _
            rw [← HWL.out, List.take_length]
          rw [HE.out]
          clear HE
          have e5 : sumsTo (fun k => sumOf (kindX k) (corAt cs) b ws) 5 = #[.int .i64 (sumOf (kindX 0) (corAt cs) b ws), .int .i64 (sumOf (kindX 1) (corAt cs) b ws), .int .i64 (sumOf (kindX 2) (corAt cs) b ws), .int .i64 (sumOf (kindX 3) (corAt cs) b ws), .int .i64 (sumOf (kindX 4) (corAt cs) b ws)] := rfl
          rw [e5] at HN
          clear e5
          have hall := HTR.out.all
          have hlead := HTR.out.lead
          have hpos := HTR.out.lead_pos
          obtain ⟨a0, b0⟩ := HTR.out.bd 0
          obtain ⟨a1, b1⟩ := HTR.out.bd 1
          obtain ⟨a2, b2⟩ := HTR.out.bd 2
          obtain ⟨a3, b3⟩ := HTR.out.bd 3
          obtain ⟨a4, b4⟩ := HTR.out.bd 4
          obtain ⟨a5, b5⟩ := HTR.out.sum_bd
          have I0 := Lib.hid (HI.out 0)
          have I1 := Lib.hid (HI.out 1)
          have I2 := Lib.hid (HI.out 2)
          have I3 := Lib.hid (HI.out 3)
          have I4 := Lib.hid (HI.out 4)
          have HWET := Lib.hid fun (hw : withinB ⟨wl, wh⟩ 0 999 = true) (x : Int) => HTR.out.wet hw (x := x)
          clear HI
          generalize sumOf (kindX 0) (corAt cs) b ws = n0 at *
          generalize sumOf (kindX 1) (corAt cs) b ws = n1 at *
          generalize sumOf (kindX 2) (corAt cs) b ws = n2 at *
          generalize sumOf (kindX 3) (corAt cs) b ws = n3 at *
          generalize sumOf (kindX 4) (corAt cs) b ws = n4 at *
          generalize ws.sum = sm at *
          have hq1 : (n0 + n1 + n2 + n3 == sm * 1000000000) = true := by simp [hall]
          have hq2 : (n0 + n1 + n2 + n3 != sm * 1000000000) = false := by simp [hall]
          have hq3 : (n4 == n1 + n3) = true := by simp [hlead]
          have hq4 : (n4 != n1 + n3) = false := by simp [hlead]
          have hq5 : decide (n4 ≤ 0) = false := by simp; omega
          clear hall hlead
          have m1 := mul_bd s1 s2 a4 b4
          have m2 := mul_bd s3 s4 a4 b4
          have hs1 := HSH.out.1
          have hs2 := HSH.out.2
          obtain ⟨m3, m4⟩ := m1
          obtain ⟨m5, m6⟩ := m2
          have hq6 : decide (1000 * n1 < sh.lo * n4) = false := by simp; omega
          have hq7 : decide (sh.hi * n4 < 1000 * n1) = false := by simp; omega
          have F0 := Lib.hid (HF.out 0)
          have F1 := Lib.hid (HF.out 1)
          have F2 := Lib.hid (HF.out 2)
          have F3 := Lib.hid (HF.out 3)
          have F4 := Lib.hid (HF.out 4)
          clear hs1 hs2 HF
          clear hk hlt
          (have c0 := HN.out.cell 0); (have c1 := HN.out.cell 1); (have c2 := HN.out.cell 2); (have c3 := HN.out.cell 3); (have c4 := HN.out.cell 4); (have p0 := (HX.out.p.cell 0).trans (show _ = some (Value.int .i64 (f 0).lo) from rfl)); (have p1 := (HX.out.p.cell 1).trans (show _ = some (Value.int .i64 (f 0).hi) from rfl)); (have p2 := (HX.out.p.cell 2).trans (show _ = some (Value.int .i64 (f 1).lo) from rfl)); (have p3 := (HX.out.p.cell 3).trans (show _ = some (Value.int .i64 (f 1).hi) from rfl)); (have p4 := (HX.out.p.cell 4).trans (show _ = some (Value.int .i64 (f 2).lo) from rfl)); (have p5 := (HX.out.p.cell 5).trans (show _ = some (Value.int .i64 (f 2).hi) from rfl)); (have p6 := (HX.out.p.cell 6).trans (show _ = some (Value.int .i64 (f 3).lo) from rfl)); (have p7 := (HX.out.p.cell 7).trans (show _ = some (Value.int .i64 (f 3).hi) from rfl)); (have p8 := (HX.out.p.cell 8).trans (show _ = some (Value.int .i64 (f 4).lo) from rfl)); (have pp9 := (HX.out.p.cell 9).trans (show _ = some (Value.int .i64 (f 4).hi) from rfl)); (have z0 := HX.out.s.cell 0); (have z1 := HX.out.s.cell 1); (have hle := HN.out.lt); (have o0 := HX.out.b0.cell 0); (have o1 := HX.out.b0.cell 1)
          go_wp2_with fail
          refine (inside_yes _ _ _ _ F0.out.1 F0.out.2.1 F0.out.2.2.1 F0.out.2.2.2 I0.out).mono ?_
          rintro e v9 ⟨rfl, hb'⟩; (replace HX := Lib.hid (HX.out.call (Nat.le_of_lt HN.out.lt) hb')); (replace HN := Lib.hid (HN.out.below hb' HN.out.lt)); clear hb'; clear o0 o1 c0 c1 c2 c3 c4 p0 p1 p2 p3 p4 p5 p6 p7 p8 pp9 z0 z1 hle; (have c0 := HN.out.cell 0); (have c1 := HN.out.cell 1); (have c2 := HN.out.cell 2); (have c3 := HN.out.cell 3); (have c4 := HN.out.cell 4); (have p0 := (HX.out.p.cell 0).trans (show _ = some (Value.int .i64 (f 0).lo) from rfl)); (have p1 := (HX.out.p.cell 1).trans (show _ = some (Value.int .i64 (f 0).hi) from rfl)); (have p2 := (HX.out.p.cell 2).trans (show _ = some (Value.int .i64 (f 1).lo) from rfl)); (have p3 := (HX.out.p.cell 3).trans (show _ = some (Value.int .i64 (f 1).hi) from rfl)); (have p4 := (HX.out.p.cell 4).trans (show _ = some (Value.int .i64 (f 2).lo) from rfl)); (have p5 := (HX.out.p.cell 5).trans (show _ = some (Value.int .i64 (f 2).hi) from rfl)); (have p6 := (HX.out.p.cell 6).trans (show _ = some (Value.int .i64 (f 3).lo) from rfl)); (have p7 := (HX.out.p.cell 7).trans (show _ = some (Value.int .i64 (f 3).hi) from rfl)); (have p8 := (HX.out.p.cell 8).trans (show _ = some (Value.int .i64 (f 4).lo) from rfl)); (have pp9 := (HX.out.p.cell 9).trans (show _ = some (Value.int .i64 (f 4).hi) from rfl)); (have z0 := HX.out.s.cell 0); (have z1 := HX.out.s.cell 1); (have hle := HN.out.lt); (have o0 := HX.out.b0.cell 0); (have o1 := HX.out.b0.cell 1); go_wp2_with fail
          refine (inside_yes _ _ _ _ F1.out.1 F1.out.2.1 F1.out.2.2.1 F1.out.2.2.2 I1.out).mono ?_
          rintro e v9 ⟨rfl, hb'⟩; (replace HX := Lib.hid (HX.out.call (Nat.le_of_lt HN.out.lt) hb')); (replace HN := Lib.hid (HN.out.below hb' HN.out.lt)); clear hb'; clear o0 o1 c0 c1 c2 c3 c4 p0 p1 p2 p3 p4 p5 p6 p7 p8 pp9 z0 z1 hle; (have c0 := HN.out.cell 0); (have c1 := HN.out.cell 1); (have c2 := HN.out.cell 2); (have c3 := HN.out.cell 3); (have c4 := HN.out.cell 4); (have p0 := (HX.out.p.cell 0).trans (show _ = some (Value.int .i64 (f 0).lo) from rfl)); (have p1 := (HX.out.p.cell 1).trans (show _ = some (Value.int .i64 (f 0).hi) from rfl)); (have p2 := (HX.out.p.cell 2).trans (show _ = some (Value.int .i64 (f 1).lo) from rfl)); (have p3 := (HX.out.p.cell 3).trans (show _ = some (Value.int .i64 (f 1).hi) from rfl)); (have p4 := (HX.out.p.cell 4).trans (show _ = some (Value.int .i64 (f 2).lo) from rfl)); (have p5 := (HX.out.p.cell 5).trans (show _ = some (Value.int .i64 (f 2).hi) from rfl)); (have p6 := (HX.out.p.cell 6).trans (show _ = some (Value.int .i64 (f 3).lo) from rfl)); (have p7 := (HX.out.p.cell 7).trans (show _ = some (Value.int .i64 (f 3).hi) from rfl)); (have p8 := (HX.out.p.cell 8).trans (show _ = some (Value.int .i64 (f 4).lo) from rfl)); (have pp9 := (HX.out.p.cell 9).trans (show _ = some (Value.int .i64 (f 4).hi) from rfl)); (have z0 := HX.out.s.cell 0); (have z1 := HX.out.s.cell 1); (have hle := HN.out.lt); (have o0 := HX.out.b0.cell 0); (have o1 := HX.out.b0.cell 1); go_wp2_with fail
          refine (inside_yes _ _ _ _ F2.out.1 F2.out.2.1 F2.out.2.2.1 F2.out.2.2.2 I2.out).mono ?_
          rintro e v9 ⟨rfl, hb'⟩; (replace HX := Lib.hid (HX.out.call (Nat.le_of_lt HN.out.lt) hb')); (replace HN := Lib.hid (HN.out.below hb' HN.out.lt)); clear hb'; clear o0 o1 c0 c1 c2 c3 c4 p0 p1 p2 p3 p4 p5 p6 p7 p8 pp9 z0 z1 hle; (have c0 := HN.out.cell 0); (have c1 := HN.out.cell 1); (have c2 := HN.out.cell 2); (have c3 := HN.out.cell 3); (have c4 := HN.out.cell 4); (have p0 := (HX.out.p.cell 0).trans (show _ = some (Value.int .i64 (f 0).lo) from rfl)); (have p1 := (HX.out.p.cell 1).trans (show _ = some (Value.int .i64 (f 0).hi) from rfl)); (have p2 := (HX.out.p.cell 2).trans (show _ = some (Value.int .i64 (f 1).lo) from rfl)); (have p3 := (HX.out.p.cell 3).trans (show _ = some (Value.int .i64 (f 1).hi) from rfl)); (have p4 := (HX.out.p.cell 4).trans (show _ = some (Value.int .i64 (f 2).lo) from rfl)); (have p5 := (HX.out.p.cell 5).trans (show _ = some (Value.int .i64 (f 2).hi) from rfl)); (have p6 := (HX.out.p.cell 6).trans (show _ = some (Value.int .i64 (f 3).lo) from rfl)); (have p7 := (HX.out.p.cell 7).trans (show _ = some (Value.int .i64 (f 3).hi) from rfl)); (have p8 := (HX.out.p.cell 8).trans (show _ = some (Value.int .i64 (f 4).lo) from rfl)); (have pp9 := (HX.out.p.cell 9).trans (show _ = some (Value.int .i64 (f 4).hi) from rfl)); (have z0 := HX.out.s.cell 0); (have z1 := HX.out.s.cell 1); (have hle := HN.out.lt); (have o0 := HX.out.b0.cell 0); (have o1 := HX.out.b0.cell 1); go_wp2_with fail
          refine (inside_yes _ _ _ _ F3.out.1 F3.out.2.1 F3.out.2.2.1 F3.out.2.2.2 I3.out).mono ?_
          rintro e v9 ⟨rfl, hb'⟩; (replace HX := Lib.hid (HX.out.call (Nat.le_of_lt HN.out.lt) hb')); (replace HN := Lib.hid (HN.out.below hb' HN.out.lt)); clear hb'; clear o0 o1 c0 c1 c2 c3 c4 p0 p1 p2 p3 p4 p5 p6 p7 p8 pp9 z0 z1 hle; (have c0 := HN.out.cell 0); (have c1 := HN.out.cell 1); (have c2 := HN.out.cell 2); (have c3 := HN.out.cell 3); (have c4 := HN.out.cell 4); (have p0 := (HX.out.p.cell 0).trans (show _ = some (Value.int .i64 (f 0).lo) from rfl)); (have p1 := (HX.out.p.cell 1).trans (show _ = some (Value.int .i64 (f 0).hi) from rfl)); (have p2 := (HX.out.p.cell 2).trans (show _ = some (Value.int .i64 (f 1).lo) from rfl)); (have p3 := (HX.out.p.cell 3).trans (show _ = some (Value.int .i64 (f 1).hi) from rfl)); (have p4 := (HX.out.p.cell 4).trans (show _ = some (Value.int .i64 (f 2).lo) from rfl)); (have p5 := (HX.out.p.cell 5).trans (show _ = some (Value.int .i64 (f 2).hi) from rfl)); (have p6 := (HX.out.p.cell 6).trans (show _ = some (Value.int .i64 (f 3).lo) from rfl)); (have p7 := (HX.out.p.cell 7).trans (show _ = some (Value.int .i64 (f 3).hi) from rfl)); (have p8 := (HX.out.p.cell 8).trans (show _ = some (Value.int .i64 (f 4).lo) from rfl)); (have pp9 := (HX.out.p.cell 9).trans (show _ = some (Value.int .i64 (f 4).hi) from rfl)); (have z0 := HX.out.s.cell 0); (have z1 := HX.out.s.cell 1); (have hle := HN.out.lt); (have o0 := HX.out.b0.cell 0); (have o1 := HX.out.b0.cell 1); go_wp2_with fail
          refine (inside_yes _ _ _ _ F4.out.1 F4.out.2.1 F4.out.2.2.1 F4.out.2.2.2 I4.out).mono ?_
          rintro e v9 ⟨rfl, hb'⟩; (replace HX := Lib.hid (HX.out.call (Nat.le_of_lt HN.out.lt) hb')); (replace HN := Lib.hid (HN.out.below hb' HN.out.lt)); clear hb'; clear o0 o1 c0 c1 c2 c3 c4 p0 p1 p2 p3 p4 p5 p6 p7 p8 pp9 z0 z1 hle; (have c0 := HN.out.cell 0); (have c1 := HN.out.cell 1); (have c2 := HN.out.cell 2); (have c3 := HN.out.cell 3); (have c4 := HN.out.cell 4); (have p0 := (HX.out.p.cell 0).trans (show _ = some (Value.int .i64 (f 0).lo) from rfl)); (have p1 := (HX.out.p.cell 1).trans (show _ = some (Value.int .i64 (f 0).hi) from rfl)); (have p2 := (HX.out.p.cell 2).trans (show _ = some (Value.int .i64 (f 1).lo) from rfl)); (have p3 := (HX.out.p.cell 3).trans (show _ = some (Value.int .i64 (f 1).hi) from rfl)); (have p4 := (HX.out.p.cell 4).trans (show _ = some (Value.int .i64 (f 2).lo) from rfl)); (have p5 := (HX.out.p.cell 5).trans (show _ = some (Value.int .i64 (f 2).hi) from rfl)); (have p6 := (HX.out.p.cell 6).trans (show _ = some (Value.int .i64 (f 3).lo) from rfl)); (have p7 := (HX.out.p.cell 7).trans (show _ = some (Value.int .i64 (f 3).hi) from rfl)); (have p8 := (HX.out.p.cell 8).trans (show _ = some (Value.int .i64 (f 4).lo) from rfl)); (have pp9 := (HX.out.p.cell 9).trans (show _ = some (Value.int .i64 (f 4).hi) from rfl)); (have z0 := HX.out.s.cell 0); (have z1 := HX.out.s.cell 1); (have hle := HN.out.lt); (have o0 := HX.out.b0.cell 0); (have o1 := HX.out.b0.cell 1); go_wp2_with fail
          cases hw : withinB ⟨wl, wh⟩ 0 999 with
          | false =>
            refine (water_range _ A T c d l b wl wh (by omega) (by omega) (HX.out.sa.more (by omega)) (HX.out.ta.more (by omega)) HV.out hw).mono ?_
            clear hw
            (rintro e v9 ⟨rfl, hb'⟩); (replace HX := Lib.hid (HX.out.call (Nat.le_of_lt HN.out.lt) hb')); (replace HN := Lib.hid (HN.out.below hb' HN.out.lt)); clear hb'; clear o0 o1 c0 c1 c2 c3 c4 p0 p1 p2 p3 p4 p5 p6 p7 p8 pp9 z0 z1 hle; go_wp2_with fail
            (refine (awake_any _).mono ?_); rintro e w9 ⟨rfl, hb⟩; have hB := (HX.out.below.alloc HX.out.below.size _).trans (hb.mono (by have := HX.out.below.size; simp only [World.size_alloc]; omega)); clear HX hb; go_wp2_with fail; go_ret; exact ⟨rfl, hB⟩
          | true =>
            have HQ := Lib.hid (HWET.out hw)
            have hW := water_yes v9 A T c d l b wl wh (by omega) (by omega) (HX.out.sa.more (by omega)) (HX.out.ta.more (by omega)) HV.out hw
            obtain ⟨w1', w2', w3'⟩ := withinB_iff.1 hw
            simp only at w1' w2' w3'
            clear hw HWET
            have hx0 : 0 ≤ max (waterLo (heldsOf l b) wl) 0 := Int.le_max_right _ _
            have hx1 : min (waterHi (heldsOf l b) wh) 1073741824 ≤ 1073741824 := Int.min_le_right _ _
            generalize max (waterLo (heldsOf l b) wl) 0 = x at hx0 HQ hW
            generalize min (waterHi (heldsOf l b) wh) 1073741824 = z at hx1 HQ hW
            by_cases hxz : x ≤ z
            · rw [numV, if_pos hxz] at hW
              refine hW.mono ?_
              clear hW
              rintro e v9 ⟨rfl, hb'⟩
              replace HX := Lib.hid (HX.out.call (Nat.le_of_lt HN.out.lt) hb')
              replace HN := Lib.hid (HN.out.below hb' HN.out.lt)
              clear hb'
              clear o0 o1 c0 c1 c2 c3 c4 p0 p1 p2 p3 p4 p5 p6 p7 p8 pp9 z0 z1 hle
              have c0 := HN.out.cell 0
              have hle := HN.out.lt
              go_wp2_with fail
              have BX := Lib.hid (Blk.new v9 25 #[.int .i64 x, .int .i64 z])
              have HX0 := Lib.hid (HX.out.call (Nat.le_of_lt hle) (show Below v9.heap.size v9 (v9.alloc (.cells #[.int .i64 x, .int .i64 z] 25)) from (Below.refl _ _).alloc (Nat.le_refl _) _))
              clear c0 hle HX HN
              generalize World.alloc v9 _ = W0 at BX HX0 ⊢
              generalize v9.heap.size = pw at BX ⊢
              have hqq : 0 ≤ n0 / 1000000 ∧ n0 / 1000000 ≤ 800000000 := by omega
              obtain ⟨qq0, qq1⟩ := hqq
              have E1 := Lib.hid (HQ.out x (Int.le_refl _) hxz)
              have E2 := Lib.hid (HQ.out z hxz (Int.le_refl _))
              clear HQ
              generalize n0 / 1000000 = q at qq0 qq1 E1 E2 ⊢
              have o0 := HX0.out.b0.cell 0
              have o1 := HX0.out.b0.cell 1
              have u0 := BX.out.cell 0
              have u1 := BX.out.cell 1
              go_loop [22] (fun i => ∃ k : Nat, k ≤ 2 ∧ i = .int .i64 k) (fun i => 2 - (intOf i).toNat)
              case atStart => exact ⟨0, by omega, rfl⟩
              case round =>
                obtain ⟨k, hk, rfl⟩ := hrel
                by_cases hk0 : k = 0
                · subst hk0
                  obtain ⟨e1, e2⟩ := E1.out
                  obtain ⟨g1, g2⟩ := mul_bd w1' (show wl ≤ 999 by omega) (show 0 ≤ sm + x by omega) (show sm + x ≤ 1074541824 by omega)
                  obtain ⟨g3, g4⟩ := mul_bd (show 0 ≤ wh by omega) w3' (show 0 ≤ sm + x by omega) (show sm + x ≤ 1074541824 by omega)
                  have hd1 : decide (1000 * (q + 1000 * x) < wl * (sm + x) * 1000) = false := by simp; omega
                  have hd2 : decide (wh * (sm + x) * 1000 < 1000 * (q + 1000 * x)) = false := by simp; omega
                  clear e1 e2
                  go_wp2_with fail
                  go_round
                  case rel => exact ⟨1, by omega, rfl⟩
                  case measure => simp [intOf]
                · by_cases hk1 : k = 1
                  · subst hk1
                    obtain ⟨e1, e2⟩ := E2.out
                    obtain ⟨g1, g2⟩ := mul_bd w1' (show wl ≤ 999 by omega) (show 0 ≤ sm + z by omega) (show sm + z ≤ 1074541824 by omega)
                    obtain ⟨g3, g4⟩ := mul_bd (show 0 ≤ wh by omega) w3' (show 0 ≤ sm + z by omega) (show sm + z ≤ 1074541824 by omega)
                    have hd1 : decide (1000 * (q + 1000 * z) < wl * (sm + z) * 1000) = false := by simp; omega
                    have hd2 : decide (wh * (sm + z) * 1000 < 1000 * (q + 1000 * z)) = false := by simp; omega
                    clear e1 e2
                    go_wp2_with fail
                    go_round
                    case rel => exact ⟨2, by omega, rfl⟩
                    case measure => simp [intOf]
                  · obtain rfl : k = 2 := by omega
                    clear hk0 hk1 hk o0 o1 u0 u1
                    go_wp2_with fail
                    refine (awake_any _).mono ?_
                    rintro e w9 ⟨rfl, hb⟩
                    have hB := HX0.out.below.trans (hb.mono HX0.out.below.size)
                    clear HX0 hb
                    go_wp2_with fail
                    go_ret
                    exact ⟨rfl, hB⟩
            · rw [numV, if_neg hxz] at hW
              refine hW.mono ?_
              clear hW hxz
              (rintro e v9 ⟨rfl, hb'⟩); (replace HX := Lib.hid (HX.out.call (Nat.le_of_lt HN.out.lt) hb')); (replace HN := Lib.hid (HN.out.below hb' HN.out.lt)); clear hb'; clear o0 o1 c0 c1 c2 c3 c4 p0 p1 p2 p3 p4 p5 p6 p7 p8 pp9 z0 z1 hle; go_wp2_with fail
              (refine (awake_any _).mono ?_); rintro e w9 ⟨rfl, hb⟩; have hB := (HX.out.below.alloc HX.out.below.size _).trans (hb.mono (by have := HX.out.below.size; simp only [World.size_alloc]; omega)); clear HX hb; go_wp2_with fail; go_ret; exact ⟨rfl, hB⟩
end Go.Proofs.Ytoiggflhfbfiiaa
