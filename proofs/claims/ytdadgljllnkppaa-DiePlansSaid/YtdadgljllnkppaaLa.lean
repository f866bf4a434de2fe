/- Last: the first and the last number of hundreds of metres after which a lead is surely within a span. -/
import Derived.Test.YtdadgljllnkppaaWi
import Derived.Test.YtdadgljllnkppaaSe
namespace Go.Proofs.Ytdadgljllnkppaa
open Go.RowKit Go.Shelf

def thickP (d : Die) (s : Span) (lo : Int) (u : Int) : Bool := decide (1000 * lo ≤ thin d s u)
def thinP (d : Die) (s : Span) (hi : Int) (u : Int) : Bool := !decide (thick d s u ≤ 1000 * hi)
def fromN (d : Die) (s : Span) (lo : Int) : Int := firstOf (thickP d s lo) 8001
def toN (d : Die) (s : Span) (hi : Int) : Int := firstOf (thinP d s hi) 8001 - 1
def lastE (p : Press) (i : Int) (want : Span) : Int := errOf p [] (fromB i 0 ((p.dies.length : Int) - 1) && withinB want 0 20000)
structure Tri where
  a : Int
  b : Int
  e : Int
  deriving DecidableEq
def lastR (p : Press) (i : Int) (want : Span) : Tri :=
  if lastE p i want = 0 then (if fromN (p.dieI i) p.shrink want.lo ≤ toN (p.dieI i) p.shrink want.hi then ⟨fromN (p.dieI i) p.shrink want.lo, toN (p.dieI i) p.shrink want.hi, 0⟩ else ⟨0, 0, 4⟩) else ⟨0, 0, lastE p i want⟩
theorem err_parts {p : Press} {l : List Draw} {o : Bool} (h : errOf p l o = 0) : pressOk p = true ∧ drawsOk l = true ∧ o = true := by
  unfold errOf at h
  split at h
  · split at h
    · rename_i h1 h2; exact ⟨h1, h2⟩
    · cases h
  · cases h
theorem last_err {p : Press} {i : Int} {want : Span} (h : lastE p i want = 0) : pressOk p = true ∧ (0 ≤ i ∧ i ≤ (p.dies.length : Int) - 1) ∧ 0 ≤ want.lo ∧ want.lo ≤ want.hi ∧ want.hi ≤ 20000 := by
  obtain ⟨h1, -, h2⟩ := err_parts h
  simp only [Bool.and_eq_true, fromB_iff, withinB_iff] at h2
  exact ⟨h1, h2.1, h2.2⟩
theorem thickP_mono {d : Die} {s : Span} {lo : Int} (hd : DieIn d) (hs : ShrIn s) (i j : Int) (_ : 0 ≤ i) (hij : i ≤ j) (_ : j < 8001) (h : thickP d s lo i = true) : thickP d s lo j = true := by
  obtain ⟨-, -, d3, -⟩ := hd
  obtain ⟨-, -, g3⟩ := hs
  unfold thickP at h ⊢
  rw [decide_eq_true_eq] at h ⊢
  have := nano_mono (wide := d.wide) d3 g3 hij
  unfold thin at h ⊢
  omega
theorem thinP_mono {d : Die} {s : Span} {hi : Int} (hd : DieIn d) (hs : ShrIn s) (i j : Int) (_ : 0 ≤ i) (hij : i ≤ j) (_ : j < 8001) (h : thinP d s hi i = true) : thinP d s hi j = true := by
  obtain ⟨-, -, d3, d4, -⟩ := hd
  obtain ⟨-, g2, g3⟩ := hs
  unfold thinP at h ⊢
  simp only [Bool.not_eq_true', decide_eq_false_iff_not] at h ⊢
  have := nano_mono (wide := d.wide) (wear := d.wear.hi) (shrink := s.lo) (by omega) (by omega) hij
  unfold thick at h ⊢
  omega
section
variable {w : World} {q r s q2 r2 s2 g h : Nat} {d : Die} {sh want : Span}
set_option maxHeartbeats 2000000 in
theorem last1_any (u : Int) (hg : Blk w g 112 #[.int .i64 d.wide, .int .i64 d.wear.lo, .int .i64 d.wear.hi, .func (.func 134) #[] #[.pointer (some ⟨q, 0, none⟩), .pointer (some ⟨r, 0, none⟩), .pointer (some ⟨s, 0, none⟩)], .func (.func 98) #[] #[], .func (.func 134) #[] #[.pointer (some ⟨q2, 0, none⟩), .pointer (some ⟨r2, 0, none⟩), .pointer (some ⟨s2, 0, none⟩)], .func (.func 99) #[] #[]]) (hh : Blk w h 24 #[.int .i64 want.lo, .int .i64 want.hi]) (hM : Mounted w w.heap.size q r s q2 r2 s2 d sh) (hd : DieIn d) (hs : ShrIn sh) (l0 : 0 ≤ want.lo) (l1 : want.lo ≤ 20000) (u0 : 0 ≤ u) (u1 : u ≤ 8000) :
    Calls Try.prog 68 #[.int .i64 u, .pointer (some ⟨g, 0, none⟩), .pointer (some ⟨h, 0, none⟩)] w (Ret (.bool (thickP d sh want.lo u)) w) := by
  have HC := Lib.hid (isThick_any w q r s q2 r2 s2 d sh want.lo want.hi u hM hd hs l0 l1 u0 (by omega))
  have x0 := hg.cell 0
  have x1 := hg.cell 1
  have x2 := hg.cell 2
  have x3 := hg.cell 3
  have x4 := hg.cell 4
  have x5 := hg.cell 5
  have x6 := hg.cell 6
  have y0 := hh.cell 0
  have y1 := hh.cell 1
  clear hg hh hM
  go_enter Try.func68, Try.ntmps68
  go_wp2_with fail
  refine HC.out.mono ?_
  rintro e W1 ⟨rfl, hb⟩
  clear x0 x1 x2 x3 x4 x5 x6 y0 y1 HC
  go_wp2
  go_ret
  exact ⟨rfl, hb⟩
set_option maxHeartbeats 2000000 in
theorem last2_any (u : Int) (hg : Blk w g 112 #[.int .i64 d.wide, .int .i64 d.wear.lo, .int .i64 d.wear.hi, .func (.func 134) #[] #[.pointer (some ⟨q, 0, none⟩), .pointer (some ⟨r, 0, none⟩), .pointer (some ⟨s, 0, none⟩)], .func (.func 98) #[] #[], .func (.func 134) #[] #[.pointer (some ⟨q2, 0, none⟩), .pointer (some ⟨r2, 0, none⟩), .pointer (some ⟨s2, 0, none⟩)], .func (.func 99) #[] #[]]) (hh : Blk w h 24 #[.int .i64 want.lo, .int .i64 want.hi]) (hM : Mounted w w.heap.size q r s q2 r2 s2 d sh) (hd : DieIn d) (hs : ShrIn sh) (l0 : 0 ≤ want.hi) (l1 : want.hi ≤ 20000) (u0 : 0 ≤ u) (u1 : u ≤ 8000) :
    Calls Try.prog 70 #[.int .i64 u, .pointer (some ⟨g, 0, none⟩), .pointer (some ⟨h, 0, none⟩)] w (Ret (.bool (thinP d sh want.hi u)) w) := by
  have HC := Lib.hid (isThin_any w q r s q2 r2 s2 d sh want.lo want.hi u hM hd hs l0 l1 u0 (by omega))
  have x0 := hg.cell 0
  have x1 := hg.cell 1
  have x2 := hg.cell 2
  have x3 := hg.cell 3
  have x4 := hg.cell 4
  have x5 := hg.cell 5
  have x6 := hg.cell 6
  have y0 := hh.cell 0
  have y1 := hh.cell 1
  clear hg hh hM
  go_enter Try.func70, Try.ntmps70
  go_wp2_with fail
  refine HC.out.mono ?_
  rintro e W1 ⟨rfl, hb⟩
  clear x0 x1 x2 x3 x4 x5 x6 y0 y1 HC
  go_wp2
  go_ret
  exact ⟨rfl, hb⟩
theorem last1_pred (hg : Blk w g 112 #[.int .i64 d.wide, .int .i64 d.wear.lo, .int .i64 d.wear.hi, .func (.func 134) #[] #[.pointer (some ⟨q, 0, none⟩), .pointer (some ⟨r, 0, none⟩), .pointer (some ⟨s, 0, none⟩)], .func (.func 98) #[] #[], .func (.func 134) #[] #[.pointer (some ⟨q2, 0, none⟩), .pointer (some ⟨r2, 0, none⟩), .pointer (some ⟨s2, 0, none⟩)], .func (.func 99) #[] #[]]) (hh : Blk w h 24 #[.int .i64 want.lo, .int .i64 want.hi]) (hM : Mounted w w.heap.size q r s q2 r2 s2 d sh) (hd : DieIn d) (hs : ShrIn sh) (l0 : 0 ≤ want.lo) (l1 : want.lo ≤ 20000) :
    IsPred w w.heap.size (.func (.func 68) #[] #[.pointer (some ⟨g, 0, none⟩), .pointer (some ⟨h, 0, none⟩)]) 8001 (thickP d sh want.lo) :=
  ⟨_, _, rfl, enters_of Try.func68 (by kernel_rfl) rfl, fun _ u hW u0 u1 => last1_any u (hg.below hW hg.lt) (hh.below hW hh.lt) (hM.on hW (Nat.le_refl _)) hd hs l0 l1 u0 (by omega)⟩
theorem last2_pred (hg : Blk w g 112 #[.int .i64 d.wide, .int .i64 d.wear.lo, .int .i64 d.wear.hi, .func (.func 134) #[] #[.pointer (some ⟨q, 0, none⟩), .pointer (some ⟨r, 0, none⟩), .pointer (some ⟨s, 0, none⟩)], .func (.func 98) #[] #[], .func (.func 134) #[] #[.pointer (some ⟨q2, 0, none⟩), .pointer (some ⟨r2, 0, none⟩), .pointer (some ⟨s2, 0, none⟩)], .func (.func 99) #[] #[]]) (hh : Blk w h 24 #[.int .i64 want.lo, .int .i64 want.hi]) (hM : Mounted w w.heap.size q r s q2 r2 s2 d sh) (hd : DieIn d) (hs : ShrIn sh) (l0 : 0 ≤ want.hi) (l1 : want.hi ≤ 20000) :
    IsPred w w.heap.size (.func (.func 70) #[] #[.pointer (some ⟨g, 0, none⟩), .pointer (some ⟨h, 0, none⟩)]) 8001 (thinP d sh want.hi) :=
  ⟨_, _, rfl, enters_of Try.func70 (by kernel_rfl) rfl, fun _ u hW u0 u1 => last2_any u (hg.below hW hg.lt) (hh.below hW hh.lt) (hM.on hW (Nat.le_refl _)) hd hs l0 l1 u0 (by omega)⟩
end
theorem toN_succ (d : Die) (s : Span) (hi : Int) : toN d s hi + 1 = firstOf (thinP d s hi) 8001 := by unfold toN; omega
theorem fromN_bd {d : Die} {s : Span} (hd : DieIn d) (hs : ShrIn s) (lo : Int) : 0 ≤ fromN d s lo ∧ fromN d s lo ≤ 8001 := by
  have := firstOf_spec (n := 8001) (by omega) (thickP_mono (lo := lo) hd hs)
  exact ⟨this.1, this.2.1⟩
theorem toN_bd {d : Die} {s : Span} (hd : DieIn d) (hs : ShrIn s) (hi : Int) : -1 ≤ toN d s hi ∧ toN d s hi ≤ 8000 := by
  have := firstOf_spec (n := 8001) (by omega) (thinP_mono (hi := hi) hd hs)
  unfold toN
  omega
set_option maxRecDepth 100000 in
set_option maxHeartbeats 2000000 in
theorem last_any (w : World) (A : Option Addr) (c : Nat) (p : Press) (i : Int) (want : Span) (hp : p.dies.length ≤ 9223372036854775807) (hA : DieSl w w.heap.size A p.dies) :
    Calls Try.prog 22 #[.agg #[.slice A p.dies.length c, .int .i64 p.shrink.lo, .int .i64 p.shrink.hi, .int .i64 p.change], .int .i64 i, .agg #[.int .i64 want.lo, .int .i64 want.hi]] w (Ret (.tuple #[.int .i64 (lastR p i want).a, .int .i64 (lastR p i want).b, .int .i64 (lastR p i want).e]) w) := by
  have HF : Hid (∀ W o, Below w.heap.size w W → Calls Try.prog 60 #[.agg #[.slice A p.dies.length c, .int .i64 p.shrink.lo, .int .i64 p.shrink.hi, .int .i64 p.change], .slice none 0 0, .bool o] W (Ret (.int .i64 (errOf p [] o)) W)) :=
    Lib.hid fun W o hW => firstError_any W A none c 0 p [] o hp (by simp) (hA.on hW (Nat.le_refl _)) (nil_draws _ _ _)
  have HI : Hid (∀ W, Calls Try.prog 61 #[.agg #[.slice A p.dies.length c, .int .i64 p.shrink.lo, .int .i64 p.shrink.hi, .int .i64 p.change], .int .i64 i] W (Ret (.bool (fromB i 0 ((p.dies.length : Int) - 1))) W)) := Lib.hid fun W => isDie_any A _ c _ _ _ i W hp
  have HV : Hid (∀ W, Calls Try.prog 66 #[.agg #[.int .i64 want.lo, .int .i64 want.hi]] W (Ret (.bool (withinB want 0 20000)) W)) := Lib.hid fun W => validWidth_any _ _ W
  have hb0 : Below w.heap.size w ((w.alloc (.cells #[.slice A p.dies.length c, .int .i64 p.shrink.lo, .int .i64 p.shrink.hi, .int .i64 p.change] 26)).alloc (.cells #[.int .i64 want.lo, .int .i64 want.hi] 24)) := by repeat (first | exact Below.refl _ _ | assumption | refine Below.drew ?_ | refine Below.alloc ?_ (by first | omega | (simp only [World.size_alloc]; omega) | simp) _ | refine Below.setCell ?_ (by first | omega | (simp only [World.size_alloc]; omega) | simp) _)
  have hq0 : Blk ((w.alloc (.cells #[.slice A p.dies.length c, .int .i64 p.shrink.lo, .int .i64 p.shrink.hi, .int .i64 p.change] 26)).alloc (.cells #[.int .i64 want.lo, .int .i64 want.hi] 24)) w.heap.size 26 #[.slice A p.dies.length c, .int .i64 p.shrink.lo, .int .i64 p.shrink.hi, .int .i64 p.change] := (Blk.new _ _ _).alloc _
  have hz0 : Blk ((w.alloc (.cells #[.slice A p.dies.length c, .int .i64 p.shrink.lo, .int .i64 p.shrink.hi, .int .i64 p.change] 26)).alloc (.cells #[.int .i64 want.lo, .int .i64 want.hi] 24)) (w.heap.size + 1) 24 #[.int .i64 want.lo, .int .i64 want.hi] := blk_at _ _ (by simp)
  have HA := Lib.hid hA
  have HW : Hid (lastE p i want = errOf p [] (fromB i 0 ((p.dies.length : Int) - 1) && withinB want 0 20000)) := Lib.hid rfl
  have HWS : Hid (lastR p i want = if lastE p i want = 0 then (if fromN (p.dieI i) p.shrink want.lo ≤ toN (p.dieI i) p.shrink want.hi then ⟨fromN (p.dieI i) p.shrink want.lo, toN (p.dieI i) p.shrink want.hi, 0⟩ else ⟨0, 0, 4⟩) else ⟨0, 0, lastE p i want⟩) := Lib.hid rfl
  have HWE : Hid (lastE p i want = 0 → pressOk p = true ∧ (0 ≤ i ∧ i ≤ (p.dies.length : Int) - 1) ∧ 0 ≤ want.lo ∧ want.lo ≤ want.hi ∧ want.hi ≤ 20000) := Lib.hid last_err
  generalize lastE p i want = er at HW HWS HWE ⊢
  generalize lastR p i want = sp at HWS ⊢
  obtain ⟨b1, hb1⟩ : ∃ x, fromB i 0 ((p.dies.length : Int) - 1) = x := ⟨_, rfl⟩
  rw [hb1] at HI HW
  obtain ⟨b2, hb2⟩ : ∃ x, withinB want 0 20000 = x := ⟨_, rfl⟩
  rw [hb2] at HV HW
  clear hb1 hb2 hA
  cases b1 with
  | true =>
    go_enter Try.func22, Try.ntmps22
    go_wp2_with fail
    generalize World.alloc (World.alloc w _) _ = W0 at hb0 hq0 hz0 ⊢
    have hS := PbS.of (Below.refl _ W0) hq0
    have HS := Lib.hid hS
    have HB0 := Lib.hid hb0
    have HQ0 := Lib.hid hq0
    have HZ0 := Lib.hid hz0
    have hS2 : PbS p A c w.heap.size W0 W0 ∧ W0.cell? ⟨w.heap.size + 1, 0, none⟩ = some (.int .i64 want.lo) ∧ W0.cell? ⟨w.heap.size + 1, 1, none⟩ = some (.int .i64 want.hi) := ⟨hS, hz0.cell 0, hz0.cell 1⟩
    unfold PbS at hS hS2
    clear hb0 hq0 hz0
    go_region_held3 (fun W => (Below W0.heap.size W0 W ∧ W.cell? ⟨w.heap.size, 0, none⟩ = some (.slice A p.dies.length c) ∧ W.cell? ⟨w.heap.size, 1, none⟩ = some (.int .i64 p.shrink.lo) ∧ W.cell? ⟨w.heap.size, 2, none⟩ = some (.int .i64 p.shrink.hi) ∧ W.cell? ⟨w.heap.size, 3, none⟩ = some (.int .i64 p.change)) ∧ W.cell? ⟨w.heap.size + 1, 0, none⟩ = some (.int .i64 want.lo) ∧ W.cell? ⟨w.heap.size + 1, 1, none⟩ = some (.int .i64 want.hi))
      (first | exact ⟨HS.out.drew, HZ0.out.cell 0, HZ0.out.cell 1⟩ | exact ⟨HS1.out, HY1.out.cell 0, HY1.out.cell 1⟩ | exact ⟨HS3.out, HY3.out.cell 0, HY3.out.cell 1⟩ | exact ⟨HS2.out, HY2.out.cell 0, HY2.out.cell 1⟩ | assumption | fail "keep")
      (first
        | (go_at_call 61; (with_reducible refine (HI.out _).mono ?_); rintro e e1 ⟨rfl, hb1⟩; have HS1 := Lib.hid (HS.out.drew.call hb1); have HY1 := Lib.hid (HZ0.out.below HS1.out.1 HZ0.out.lt); clear hb1)
        | (go_at_call 66; (with_reducible refine (HV.out _).mono ?_); rintro e e3 ⟨rfl, hb3⟩; have HS3 := Lib.hid (HS1.out.call hb3); have HY3 := Lib.hid (HZ0.out.below HS3.out.1 HZ0.out.lt); have HBW := Lib.hid (HB0.out.trans (HS3.out.1.mono HB0.out.size)); clear hb3)
        | (go_at_call 60; (with_reducible refine (HF.out _ _ HBW.out).mono ?_); rintro e e2 ⟨rfl, hb2⟩; have HS2 := Lib.hid (HS3.out.call hb2); have HY2 := Lib.hid (HZ0.out.below HS2.out.1 HZ0.out.lt); clear hb2)
        | fail "no arm")
    clear hS2 HS3 HY1 HY2 HY3
    (try rw [Bool.true_and] at HW); (try rw [Bool.false_and] at HW); rw [← HW.out]; have HBX := Lib.hid (HB0.out.trans (HS2.out.1.mono HB0.out.size)); have HZ2 := Lib.hid (HZ0.out.below HS2.out.1 HZ0.out.lt); obtain ⟨-, x0, x1, x2, x3⟩ := HS2.out; clear hS HS HS1 HBW HF HI HV HQ0 HZ0; by_cases h0 : er = 0
    · subst h0
      obtain ⟨hpk, ⟨i0, i1⟩, v0, v1, v2⟩ := HWE.out rfl; obtain ⟨k, rfl⟩ := Int.eq_ofNat_of_zero_le i0; have hk : k < p.dies.length := (by omega); have hM := mount_any e2 A c p k hk (HA.out.on HBX.out (Nat.le_refl _)); go_wp2_with fail; refine hM.mono ?_; rintro e W3 ⟨q, r, s, q2, r2, s2, rfl, hMo, hb3⟩; obtain ⟨-, hdi, hsh, -⟩ := press_parts hpk; have hdk := hdi p.dies[k] (List.getElem_mem hk); have HDK := Lib.hid (And.intro hdk hsh); have HMo := Lib.hid hMo; have hdI : p.dieI (k : Int) = p.dies[k] := (by simp [Press.dieI, hk]); have HSP := HWS; rw [if_pos trivial, hdI] at HSP; have HB3 := Lib.hid (HBX.out.trans (hb3.mono HBX.out.size)); have HZ3 := Lib.hid (HZ2.out.below hb3 HZ2.out.lt); generalize p.dies[k] = dk at *; clear x0 x1 x2 x3 HWS HWE HW hM hMo hb3 HS2 HZ2 HBX HB0 hdi hdk hsh hpk HA hdI; go_wp2_with fail; generalize hW4 : World.alloc W3 _ = W4; have hB4 : Below W3.heap.size W3 W4 := (by rw [← hW4]; exact (Below.refl _ _).alloc (Nat.le_refl _) _); have hK4 : Blk W4 W3.heap.size 112 #[.int .i64 dk.wide, .int .i64 dk.wear.lo, .int .i64 dk.wear.hi, .func (.func 134) #[] #[.pointer (some ⟨q, 0, none⟩), .pointer (some ⟨r, 0, none⟩), .pointer (some ⟨s, 0, none⟩)], .func (.func 98) #[] #[], .func (.func 134) #[] #[.pointer (some ⟨q2, 0, none⟩), .pointer (some ⟨r2, 0, none⟩), .pointer (some ⟨s2, 0, none⟩)], .func (.func 99) #[] #[]] := (by rw [← hW4]; exact Blk.new _ _ _); have HK4 := Lib.hid hK4; have HZ4 := Lib.hid (HZ3.out.below hB4 HZ3.out.lt); have HM4 := Lib.hid (HMo.out.on hB4 (Nat.le_refl _)); have HB4 := Lib.hid (HB3.out.trans (hB4.mono HB3.out.size)); clear hB4 hK4 hW4 HB3 HZ3 HMo; have HC1 : Hid (Calls Try.prog 67 #[.int .i64 8001, .func (.func 68) #[] #[.pointer (some ⟨W3.heap.size, 0, none⟩), .pointer (some ⟨w.heap.size + 1, 0, none⟩)]] W4 (Ret (.int .i64 (fromN dk p.shrink want.lo)) W4)) := (Lib.hid (search_first W4 _ 8001 _ (by omega) (by omega) (last1_pred HK4.out HZ4.out HM4.out HDK.out.1 HDK.out.2 v0 (by omega)) (thickP_mono HDK.out.1 HDK.out.2))); have HC2 : Hid (∀ V, Below W4.heap.size W4 V → Calls Try.prog 67 #[.int .i64 8001, .func (.func 70) #[] #[.pointer (some ⟨W3.heap.size, 0, none⟩), .pointer (some ⟨w.heap.size + 1, 0, none⟩)]] V (Ret (.int .i64 (toN dk p.shrink want.hi + 1)) V)) := (Lib.hid fun V hV => (by rw [toN_succ]; exact search_first V _ 8001 _ (by omega) (by omega) (last2_pred (HK4.out.below hV HK4.out.lt) (HZ4.out.below hV HZ4.out.lt) (HM4.out.on hV (Nat.le_refl _)) HDK.out.1 HDK.out.2 (by omega) v2) (thinP_mono HDK.out.1 HDK.out.2))); obtain ⟨f1, hf1⟩ : ∃ x, fromN dk p.shrink want.lo = x := ⟨_, rfl⟩; obtain ⟨f2, hf2⟩ : ∃ x, toN dk p.shrink want.hi = x := ⟨_, rfl⟩; have hbd1 := fromN_bd HDK.out.1 HDK.out.2 want.lo; have hbd2 := toN_bd HDK.out.1 HDK.out.2 want.hi; rw [hf1] at HC1 hbd1; rw [hf2] at HC2 hbd2; rw [hf1, hf2] at HSP; have hwr : IntKind.i64.wrap (f2 + 1 - 1) = f2 := (by rw [wr (by omega) (by omega)]; omega); have hwr2 : IntKind.i64.wrap f2 = f2 := wr (by omega) (by omega); clear hf1 hf2 HK4 HZ4 HM4 HDK; go_wp2_with fail; refine HC1.out.mono ?_; rintro e W5 ⟨rfl, hb5⟩; go_wp2_with fail; refine (HC2.out _ hb5).mono ?_; rintro e W6 ⟨rfl, hb6⟩; have HB6 := Lib.hid (HB4.out.trans ((hb5.trans (hb6.mono hb5.size)).mono HB4.out.size)); clear hb5 hb6 HC1 HC2 HB4; by_cases hcmp : f1 ≤ f2; (have hsp := HSP.out; rw [if_pos hcmp] at hsp; subst hsp; go_wp2_with fail; exact bodyPost_ret (v := .tuple #[.int .i64 f1, .int .i64 f2, .int .i64 0]) (by simp [results, Try.results22, go_sem]) rfl ⟨rfl, HB6.out⟩); (have hsp := HSP.out; rw [if_neg (by omega)] at hsp; subst hsp; go_wp2_with fail; exact bodyPost_ret (v := .tuple #[.int .i64 0, .int .i64 0, .int .i64 4]) (by simp [results, Try.results22, go_sem]) rfl ⟨rfl, HB6.out⟩)
    · have hne : (er == 0) = false := (by rw [beq_eq_false_iff_ne]; exact h0); have hsp := HWS.out; rw [if_neg h0] at hsp; subst hsp; go_wp2_with fail; exact bodyPost_ret (v := .tuple #[.int .i64 0, .int .i64 0, .int .i64 er]) (by simp [results, Try.results22, go_sem]) rfl ⟨rfl, HBX.out⟩
  | false =>
    go_enter Try.func22, Try.ntmps22
    go_wp2_with fail
    generalize World.alloc (World.alloc w _) _ = W0 at hb0 hq0 hz0 ⊢
    have hS := PbS.of (Below.refl _ W0) hq0
    have HS := Lib.hid hS
    have HB0 := Lib.hid hb0
    have HQ0 := Lib.hid hq0
    have HZ0 := Lib.hid hz0
    obtain ⟨-, x0, x1, x2, x3⟩ := hS
    have hS : True := trivial
    clear hb0 hq0 hz0
    first
      | (go_region_with (first
            | (go_at_call 61; (with_reducible refine (HI.out _).mono ?_); rintro e e1 ⟨rfl, hb1⟩; have HS1 := Lib.hid (HS.out.drew.call hb1); have HBW := Lib.hid (HB0.out.trans (HS1.out.1.mono HB0.out.size)); obtain ⟨-, y0, y1, y2, y3⟩ := HS1.out; clear hb1)
            | (go_at_call 60; (with_reducible refine (HF.out _ _ HBW.out).mono ?_); rintro e e2 ⟨rfl, hb2⟩; have HS2 := Lib.hid (HS1.out.call hb2); clear hb2)))
      | fail "reg"
    all_goals
      (try rw [Bool.true_and] at HW); (try rw [Bool.false_and] at HW); rw [← HW.out]; have HBX := Lib.hid (HB0.out.trans (HS2.out.1.mono HB0.out.size)); have HZ2 := Lib.hid (HZ0.out.below HS2.out.1 HZ0.out.lt); obtain ⟨-, x0, x1, x2, x3⟩ := HS2.out; clear hS HS HS1 HBW HF HI HV HQ0 HZ0; by_cases h0 : er = 0
      · subst h0
        obtain ⟨hpk, ⟨i0, i1⟩, v0, v1, v2⟩ := HWE.out rfl; obtain ⟨k, rfl⟩ := Int.eq_ofNat_of_zero_le i0; have hk : k < p.dies.length := (by omega); have hM := mount_any e2 A c p k hk (HA.out.on HBX.out (Nat.le_refl _)); go_wp2_with fail; refine hM.mono ?_; rintro e W3 ⟨q, r, s, q2, r2, s2, rfl, hMo, hb3⟩; obtain ⟨-, hdi, hsh, -⟩ := press_parts hpk; have hdk := hdi p.dies[k] (List.getElem_mem hk); have HDK := Lib.hid (And.intro hdk hsh); have HMo := Lib.hid hMo; have hdI : p.dieI (k : Int) = p.dies[k] := (by simp [Press.dieI, hk]); have HSP := HWS; rw [if_pos trivial, hdI] at HSP; have HB3 := Lib.hid (HBX.out.trans (hb3.mono HBX.out.size)); have HZ3 := Lib.hid (HZ2.out.below hb3 HZ2.out.lt); generalize p.dies[k] = dk at *; clear x0 x1 x2 x3 HWS HWE HW hM hMo hb3 HS2 HZ2 HBX HB0 hdi hdk hsh hpk HA hdI; go_wp2_with fail; generalize hW4 : World.alloc W3 _ = W4; have hB4 : Below W3.heap.size W3 W4 := (by rw [← hW4]; exact (Below.refl _ _).alloc (Nat.le_refl _) _); have hK4 : Blk W4 W3.heap.size 112 #[.int .i64 dk.wide, .int .i64 dk.wear.lo, .int .i64 dk.wear.hi, .func (.func 134) #[] #[.pointer (some ⟨q, 0, none⟩), .pointer (some ⟨r, 0, none⟩), .pointer (some ⟨s, 0, none⟩)], .func (.func 98) #[] #[], .func (.func 134) #[] #[.pointer (some ⟨q2, 0, none⟩), .pointer (some ⟨r2, 0, none⟩), .pointer (some ⟨s2, 0, none⟩)], .func (.func 99) #[] #[]] := (by rw [← hW4]; exact Blk.new _ _ _); have HK4 := Lib.hid hK4; have HZ4 := Lib.hid (HZ3.out.below hB4 HZ3.out.lt); have HM4 := Lib.hid (HMo.out.on hB4 (Nat.le_refl _)); have HB4 := Lib.hid (HB3.out.trans (hB4.mono HB3.out.size)); clear hB4 hK4 hW4 HB3 HZ3 HMo; have HC1 : Hid (Calls Try.prog 67 #[.int .i64 8001, .func (.func 68) #[] #[.pointer (some ⟨W3.heap.size, 0, none⟩), .pointer (some ⟨w.heap.size + 1, 0, none⟩)]] W4 (Ret (.int .i64 (fromN dk p.shrink want.lo)) W4)) := (Lib.hid (search_first W4 _ 8001 _ (by omega) (by omega) (last1_pred HK4.out HZ4.out HM4.out HDK.out.1 HDK.out.2 v0 (by omega)) (thickP_mono HDK.out.1 HDK.out.2))); have HC2 : Hid (∀ V, Below W4.heap.size W4 V → Calls Try.prog 67 #[.int .i64 8001, .func (.func 70) #[] #[.pointer (some ⟨W3.heap.size, 0, none⟩), .pointer (some ⟨w.heap.size + 1, 0, none⟩)]] V (Ret (.int .i64 (toN dk p.shrink want.hi + 1)) V)) := (Lib.hid fun V hV => (by rw [toN_succ]; exact search_first V _ 8001 _ (by omega) (by omega) (last2_pred (HK4.out.below hV HK4.out.lt) (HZ4.out.below hV HZ4.out.lt) (HM4.out.on hV (Nat.le_refl _)) HDK.out.1 HDK.out.2 (by omega) v2) (thinP_mono HDK.out.1 HDK.out.2))); obtain ⟨f1, hf1⟩ : ∃ x, fromN dk p.shrink want.lo = x := ⟨_, rfl⟩; obtain ⟨f2, hf2⟩ : ∃ x, toN dk p.shrink want.hi = x := ⟨_, rfl⟩; have hbd1 := fromN_bd HDK.out.1 HDK.out.2 want.lo; have hbd2 := toN_bd HDK.out.1 HDK.out.2 want.hi; rw [hf1] at HC1 hbd1; rw [hf2] at HC2 hbd2; rw [hf1, hf2] at HSP; have hwr : IntKind.i64.wrap (f2 + 1 - 1) = f2 := (by rw [wr (by omega) (by omega)]; omega); have hwr2 : IntKind.i64.wrap f2 = f2 := wr (by omega) (by omega); clear hf1 hf2 HK4 HZ4 HM4 HDK; go_wp2_with fail; refine HC1.out.mono ?_; rintro e W5 ⟨rfl, hb5⟩; go_wp2_with fail; refine (HC2.out _ hb5).mono ?_; rintro e W6 ⟨rfl, hb6⟩; have HB6 := Lib.hid (HB4.out.trans ((hb5.trans (hb6.mono hb5.size)).mono HB4.out.size)); clear hb5 hb6 HC1 HC2 HB4; by_cases hcmp : f1 ≤ f2; (have hsp := HSP.out; rw [if_pos hcmp] at hsp; subst hsp; go_wp2_with fail; exact bodyPost_ret (v := .tuple #[.int .i64 f1, .int .i64 f2, .int .i64 0]) (by simp [results, Try.results22, go_sem]) rfl ⟨rfl, HB6.out⟩); (have hsp := HSP.out; rw [if_neg (by omega)] at hsp; subst hsp; go_wp2_with fail; exact bodyPost_ret (v := .tuple #[.int .i64 0, .int .i64 0, .int .i64 4]) (by simp [results, Try.results22, go_sem]) rfl ⟨rfl, HB6.out⟩)
      · have hne : (er == 0) = false := (by rw [beq_eq_false_iff_ne]; exact h0); have hsp := HWS.out; rw [if_neg h0] at hsp; subst hsp; go_wp2_with fail; exact bodyPost_ret (v := .tuple #[.int .i64 0, .int .i64 0, .int .i64 er]) (by simp [results, Try.results22, go_sem]) rfl ⟨rfl, HBX.out⟩
end Go.Proofs.Ytdadgljllnkppaa
