/- Walk of the document's own Last. -/
import Derived.Test.YtkokacdaiklfjaaRw
import Derived.Test.YtkokacdaiklfjaaLa
namespace Go.Proofs.Ytkokacdaiklfjaa
open Go.RowKit Go.Shelf

theorem lastE_press {p : Press} {i : Int} {s : Span} (h : pressOk p = false) : lastE p i s = 1 := by unfold lastE errOf; rw [h]; rfl
theorem lastE_ok {p : Press} {i : Int} {s : Span} (h : pressOk p = true) : lastE p i s = if (fromB i 0 ((p.dies.length : Int) - 1) && withinB s 0 20000) = true then 0 else 2 := by
  unfold lastE errOf
  rw [if_pos h]
  have : drawsOk [] = true := rfl
  simp only [this, true_and]
/-- Where a number of hundreds of metres lies. -/
theorem first_iff {p : Int → Bool} {n : Int} (hn : 0 ≤ n) (hm : ∀ i j, 0 ≤ i → i ≤ j → j < n → p i = true → p j = true) {x : Int} (h0 : 0 ≤ x) (h1 : x < n) : p x = true ↔ firstOf p n ≤ x := by
  obtain ⟨a, b, c, d⟩ := firstOf_spec hn hm
  constructor
  · intro h
    by_cases hx : x < firstOf p n
    · rw [c x h0 hx] at h; cases h
    · omega
  · intro h; exact d x h h1
theorem good_iff {d : Die} {s : Span} {want : Span} (hd : DieIn d) (hs : ShrIn s) {x : Int} (h0 : 0 ≤ x) (h1 : x < 8001) : (1000 * want.lo ≤ thin d s x ↔ fromN d s want.lo ≤ x) ∧ (thick d s x ≤ 1000 * want.hi ↔ x ≤ toN d s want.hi) := by
  have a := first_iff (n := 8001) (by omega) (thickP_mono (lo := want.lo) hd hs) h0 h1
  have b := first_iff (n := 8001) (by omega) (thinP_mono (hi := want.hi) hd hs) h0 h1
  have c := toN_succ d s want.hi
  rw [← c] at b
  constructor
  · rw [← show thickP d s want.lo x = true ↔ 1000 * want.lo ≤ thin d s x from decide_eq_true_iff]
    exact a
  · have e : thinP d s want.hi x = true ↔ ¬ thick d s x ≤ 1000 * want.hi := by simp [thinP]
    rw [e] at b
    constructor
    · intro h
      by_cases hx : x ≤ toN d s want.hi
      · exact hx
      · exact absurd h (b.2 (by omega))
    · intro h
      by_cases hx : thick d s x ≤ 1000 * want.hi
      · exact hx
      · have := b.1 hx; omega
def frTo (a b n : Int) : Int × Int := if a ≤ b ∧ a < n then (a, min b (n - 1)) else (-1, -1)
theorem frTo_zero {a b : Int} (h : 0 ≤ a) : frTo a b 0 = (-1, -1) := by unfold frTo; rw [if_neg (by omega)]
theorem frTo_in {a b m : Int} (h0 : 0 ≤ a) (h1 : a ≤ m) (h2 : m ≤ b) : (frTo a b (m + 1)).1 = (if (frTo a b m).1 < 0 then m else (frTo a b m).1) ∧ (frTo a b (m + 1)).2 = m := by
  have e1 : frTo a b (m + 1) = (a, m) := by
    unfold frTo
    rw [if_pos ⟨by omega, by omega⟩]
    congr 1
    omega
  rw [e1]
  by_cases h : a < m
  · have e2 : (frTo a b m).1 = a := by
      unfold frTo
      rw [if_pos ⟨by omega, h⟩]
    rw [e2, if_neg (by omega)]
    exact ⟨rfl, rfl⟩
  · have e2 : (frTo a b m).1 = -1 := by
      unfold frTo
      rw [if_neg (fun x => h x.2)]
    rw [e2, if_pos (by omega)]
    exact ⟨by simp only; omega, rfl⟩
theorem frTo_out {a b m : Int} (h : ¬ (a ≤ m ∧ m ≤ b)) : frTo a b (m + 1) = frTo a b m := by
  unfold frTo
  by_cases h1 : a ≤ b ∧ a < m
  · rw [if_pos (by omega), if_pos h1]
    congr 1
    omega
  · rw [if_neg (by omega), if_neg h1]
theorem frTo_end {a b : Int} (_ : 0 ≤ a) (hb : b ≤ 8000) (_ : a ≤ 8001) : (a ≤ b → (frTo a b 8001).1 = a ∧ (frTo a b 8001).2 = b) ∧ (¬ a ≤ b → frTo a b 8001 = (-1, -1)) := by
  unfold frTo
  constructor
  · intro h
    rw [if_pos ⟨h, by omega⟩]
    exact ⟨rfl, by simp only; omega⟩
  · intro h
    rw [if_neg (fun x => h x.1)]
def RlS (p : Press) (A : Option Addr) (c q : Nat) (V : World) (x : Span) (W : World) : Prop := PbS p A c q V W ∧ W.cell? ⟨q + 1, 0, none⟩ = some (.int .i64 x.lo) ∧ W.cell? ⟨q + 1, 1, none⟩ = some (.int .i64 x.hi)
set_option maxRecDepth 100000 in
set_option maxHeartbeats 4000000 in
theorem rlast_any (w : World) (A : Option Addr) (c : Nat) (p : Press) (i : Int) (want : Span) (hp : p.dies.length ≤ 9223372036854775807) (hA : DieSl w w.heap.size A p.dies) :
    Calls Try.prog 15 #[.agg #[.slice A p.dies.length c, .int .i64 p.shrink.lo, .int .i64 p.shrink.hi, .int .i64 p.change], .int .i64 i, .agg #[.int .i64 want.lo, .int .i64 want.hi]] w (Ret (.tuple #[.int .i64 (lastR p i want).a, .int .i64 (lastR p i want).b, .int .i64 (lastR p i want).e]) w) := by
  have hb0 : Below w.heap.size w ((w.alloc (.cells #[.slice A p.dies.length c, .int .i64 p.shrink.lo, .int .i64 p.shrink.hi, .int .i64 p.change] 26)).alloc (.cells #[.int .i64 want.lo, .int .i64 want.hi] 24)) := by repeat (first | exact Below.refl _ _ | assumption | refine Below.drew ?_ | refine Below.alloc ?_ (by first | omega | (simp only [World.size_alloc]; omega) | simp) _ | refine Below.setCell ?_ (by first | omega | (simp only [World.size_alloc]; omega) | simp) _)
  have hq0 : Blk ((w.alloc (.cells #[.slice A p.dies.length c, .int .i64 p.shrink.lo, .int .i64 p.shrink.hi, .int .i64 p.change] 26)).alloc (.cells #[.int .i64 want.lo, .int .i64 want.hi] 24)) w.heap.size 26 #[.slice A p.dies.length c, .int .i64 p.shrink.lo, .int .i64 p.shrink.hi, .int .i64 p.change] := (Blk.new _ _ _).alloc _
  have hz0 : Blk ((w.alloc (.cells #[.slice A p.dies.length c, .int .i64 p.shrink.lo, .int .i64 p.shrink.hi, .int .i64 p.change] 26)).alloc (.cells #[.int .i64 want.lo, .int .i64 want.hi] 24)) (w.heap.size + 1) 24 #[.int .i64 want.lo, .int .i64 want.hi] := blk_at _ _ (by simp)
  have HPR : Hid (∀ W, Below w.heap.size w W → Calls Try.prog 21 #[.agg #[.slice A p.dies.length c, .int .i64 p.shrink.lo, .int .i64 p.shrink.hi, .int .i64 p.change]] W (Ret (.bool (pressOk p)) W)) := Lib.hid fun W hW => rpress_any W A c p hp (hA.on hW (Nat.le_refl _))
  have HA := Lib.hid hA
  have hpi : (p.dies.length : Int) ≤ 9223372036854775807 := by omega
  have hp0 : (0 : Int) ≤ p.dies.length := by omega
  cases h1 : pressOk p with
  | false =>
    have hS : lastR p i want = ⟨0, 0, 1⟩ := by unfold lastR; rw [lastE_press h1]; rfl
    rw [hS]
    rw [h1] at HPR
    clear h1 hS hA
    go_enter Try.func15, Try.ntmps15
    go_wp2_with fail
    generalize World.alloc (World.alloc w _) _ = W0 at hb0 hq0 hz0 ⊢
    refine (HPR.out _ hb0).mono ?_
    rintro e W1 ⟨rfl, hb⟩
    have HB1 := Lib.hid (hb0.trans (hb.mono hb0.size))
    clear hb hb0 hq0 hz0
    go_wp2_with fail
    exact bodyPost_ret (v := .tuple #[.int .i64 0, .int .i64 0, .int .i64 1]) (by simp [results, Try.results15, go_sem]) rfl ⟨rfl, HB1.out⟩
  | true =>
    have HS : Hid (lastR p i want = if (fromB i 0 ((p.dies.length : Int) - 1) && withinB want 0 20000) = true then (if fromN (p.dieI i) p.shrink want.lo ≤ toN (p.dieI i) p.shrink want.hi then ⟨fromN (p.dieI i) p.shrink want.lo, toN (p.dieI i) p.shrink want.hi, 0⟩ else ⟨0, 0, 4⟩) else ⟨0, 0, 2⟩) := Lib.hid (by
      unfold lastR
      rw [lastE_ok h1]
      cases (fromB i 0 ((p.dies.length : Int) - 1) && withinB want 0 20000) <;> rfl)
    generalize lastR p i want = sp at HS ⊢
    rw [h1] at HPR
    have HOK := Lib.hid h1
    obtain ⟨o1, ho1⟩ : ∃ x, fromB i 0 ((p.dies.length : Int) - 1) = x := ⟨_, rfl⟩
    obtain ⟨o2, ho2⟩ : ∃ x, withinB want 0 20000 = x := ⟨_, rfl⟩
    have HO1 := Lib.hid ho1
    have HO2 := Lib.hid ho2
    rw [ho1, ho2] at HS
    clear h1 hA ho1 ho2
    go_enter Try.func15, Try.ntmps15
    go_wp2_with fail
    generalize World.alloc (World.alloc w _) _ = W0 at hb0 hq0 hz0 ⊢
    refine (HPR.out _ hb0).mono ?_
    rintro e W1 ⟨rfl, hb⟩
    have HB1 := Lib.hid (hb0.trans (hb.mono hb0.size))
    have HZ1 := Lib.hid (hz0.below hb hz0.lt)
    have HQ1 := Lib.hid (hq0.below hb hq0.lt)
    clear hb hb0 hq0 hz0
    have x0 := HQ1.out.cell 0
    have y0 := HZ1.out.cell 0
    have y1 := HZ1.out.cell 1
    have HIN : Hid (∀ V a b c, Calls Try.prog 42 #[.int .i64 a, .int .i64 b, .int .i64 c] V fun e w' => e = .returned (.bool (fromB a b c)) ∧ V = w') := Lib.hid fun V a b c => rin_any a b c V
    go_wp2_with fail
    refine (HIN.out _ _ _ _).mono ?_
    rw [HO1.out]
    rintro e W2 ⟨rfl, rfl⟩
    cases o1 with
    | false => have hsp := HS.out; go_wp2_with fail; subst hsp; exact bodyPost_ret (v := .tuple #[.int .i64 0, .int .i64 0, .int .i64 2]) (by simp [results, Try.results15, go_sem]) rfl ⟨rfl, HB1.out⟩
    | true =>
      go_wp2_with fail
      refine (rspan_any _ _ _ _ _).mono ?_
      rw [HO2.out]
      rintro e W2 ⟨rfl, hb⟩
      replace HQ1 := Lib.hid (HQ1.out.below hb HQ1.out.lt)
      replace HZ1 := Lib.hid (HZ1.out.below hb HZ1.out.lt)
      replace HB1 := Lib.hid (HB1.out.trans (hb.mono HB1.out.size))
      clear hb x0 y0 y1
      cases o2 with
      | false => have hsp := HS.out; go_wp2_with fail; subst hsp; exact bodyPost_ret (v := .tuple #[.int .i64 0, .int .i64 0, .int .i64 2]) (by simp [results, Try.results15, go_sem]) rfl ⟨rfl, HB1.out⟩
      | true =>
        have h1 := HO1.out
        have h2 := HO2.out
        rw [fromB_iff] at h1
        rw [withinB_iff] at h2
        obtain ⟨k, rfl⟩ := Int.eq_ofNat_of_zero_le h1.1
        have hk : k < p.dies.length := by omega
        obtain ⟨-, hdi, hsh, -⟩ := press_parts HOK.out
        have hdk := hdi p.dies[k] (List.getElem_mem hk)
        have hdI : p.dieI (k : Int) = p.dies[k] := by simp [Press.dieI, hk]
        have HTN : Hid (∀ V u, Below w.heap.size w V → 0 ≤ u → u ≤ 9000 → Calls Try.prog 27 #[.agg #[.slice A p.dies.length c, .int .i64 p.shrink.lo, .int .i64 p.shrink.hi, .int .i64 p.change], .int .i64 (k : Int), .int .i64 u] V (Ret (.int .i64 (thin p.dies[k] p.shrink u)) V)) := Lib.hid fun V u hV u0 u1 => rthin_any V A c p k u hk (HA.out.on hV (Nat.le_refl _)) hdk hsh u0 u1
        have HTK : Hid (∀ V u, Below w.heap.size w V → 0 ≤ u → u ≤ 9000 → Calls Try.prog 28 #[.agg #[.slice A p.dies.length c, .int .i64 p.shrink.lo, .int .i64 p.shrink.hi, .int .i64 p.change], .int .i64 (k : Int), .int .i64 u] V (Ret (.int .i64 (thick p.dies[k] p.shrink u)) V)) := Lib.hid fun V u hV u0 u1 => rthick_any V A c p k u hk (HA.out.on hV (Nat.le_refl _)) hdk hsh u0 u1
        have HGI : Hid (∀ u, 0 ≤ u → u < 8001 → (1000 * want.lo ≤ thin p.dies[k] p.shrink u ↔ fromN p.dies[k] p.shrink want.lo ≤ u) ∧ (thick p.dies[k] p.shrink u ≤ 1000 * want.hi ↔ u ≤ toN p.dies[k] p.shrink want.hi)) := Lib.hid fun u a b => good_iff hdk hsh a b
        have hf := fromN_bd hdk hsh want.lo
        have ht := toN_bd hdk hsh want.hi
        rw [hdI] at HS
        generalize fromN p.dies[k] p.shrink want.lo = fa at *
        generalize toN p.dies[k] p.shrink want.hi = tb at *
        generalize p.dies[k] = dk at *
        have hq1 : IntKind.i64.wrap (1000 * want.lo) = 1000 * want.lo := wr (by omega) (by omega)
        have hq2 : IntKind.i64.wrap (1000 * want.hi) = 1000 * want.hi := wr (by omega) (by omega)
        clear hdi hsh hdk hdI HPR HO1 HO2 HIN
        go_wp2_with fail
        go_loopw [9, 10, 11] (fun f t n wr => ∃ m : Int, 0 ≤ m ∧ m ≤ 8001 ∧ f = .int .i64 (frTo fa tb m).1 ∧ t = .int .i64 (frTo fa tb m).2 ∧ n = .int .i64 m ∧ Hid (Below w.heap.size w wr) ∧ Hid (Blk wr w.heap.size 26 #[.slice A p.dies.length c, .int .i64 p.shrink.lo, .int .i64 p.shrink.hi, .int .i64 p.change]) ∧ Hid (Blk wr (w.heap.size + 1) 24 #[.int .i64 want.lo, .int .i64 want.hi])) (fun _ _ n _ => (8001 - intOf n).toNat)
        case atStart => exact ⟨0, by omega, by omega, by rw [frTo_zero hf.1], by rw [frTo_zero hf.1], rfl, HB1, HQ1, HZ1⟩
        case round =>
          clear HB1 HQ1 HZ1
          obtain ⟨m, m0, m1, rfl, rfl, rfl, HB1, HQ1, HZ1⟩ := hrel
          by_cases hlt : m ≤ 8000
          · have hGI := HGI.out m m0 (by omega)
            have HTN1 : Hid (∀ V, Below w.heap.size w V → Calls Try.prog 27 #[.agg #[.slice A p.dies.length c, .int .i64 p.shrink.lo, .int .i64 p.shrink.hi, .int .i64 p.change], .int .i64 (k : Int), .int .i64 m] V (Ret (.int .i64 (thin dk p.shrink m)) V)) := Lib.hid fun V hV => HTN.out V m hV m0 (by omega)
            have HTK1 : Hid (∀ V, Below w.heap.size w V → Calls Try.prog 28 #[.agg #[.slice A p.dies.length c, .int .i64 p.shrink.lo, .int .i64 p.shrink.hi, .int .i64 p.change], .int .i64 (k : Int), .int .i64 m] V (Ret (.int .i64 (thick dk p.shrink m)) V)) := Lib.hid fun V hV => HTK.out V m hV m0 (by omega)
            generalize thin dk p.shrink m = tn at *
            generalize thick dk p.shrink m = tk at *
            have HIF : Hid ((fa ≤ m → m ≤ tb → (frTo fa tb (m + 1)).1 = (if (frTo fa tb m).1 < 0 then m else (frTo fa tb m).1) ∧ (frTo fa tb (m + 1)).2 = m) ∧ (¬ (fa ≤ m ∧ m ≤ tb) → frTo fa tb (m + 1) = frTo fa tb m)) := Lib.hid ⟨fun a b => frTo_in hf.1 a b, frTo_out⟩
            obtain ⟨f0, hf0⟩ : ∃ x, (frTo fa tb m).1 = x := ⟨_, rfl⟩
            obtain ⟨t0, ht0⟩ : ∃ x, (frTo fa tb m).2 = x := ⟨_, rfl⟩
            have HFT := Lib.hid (And.intro hf0 ht0)
            rw [hf0] at HIF ⊢
            rw [ht0]
            clear hf0 ht0
            have hS0 := PbS.of (Below.refl _ wr) HQ1.out
            have HS0 := Lib.hid hS0
            by_cases g1 : fa ≤ m
            · have e1 : decide (1000 * want.lo ≤ tn) = true := decide_eq_true (hGI.1.2 g1)
              by_cases g2 : m ≤ tb
              · have e2 : decide (tk ≤ 1000 * want.hi) = true := decide_eq_true (hGI.2.2 g2)
                obtain ⟨n1, n2⟩ := HIF.out.1 g1 g2
                have HN := Lib.hid (And.intro n1 n2)
                clear hGI HIF HFT g1 g2 n1 n2 h1 h2 hf ht
                have hS2 : PbS p A c w.heap.size wr wr ∧ wr.cell? ⟨w.heap.size + 1, 0, none⟩ = some (.int .i64 want.lo) ∧ wr.cell? ⟨w.heap.size + 1, 1, none⟩ = some (.int .i64 want.hi) := ⟨hS0, HZ1.out.cell 0, HZ1.out.cell 1⟩
                unfold PbS at hS2
                clear hS0
                go_wp2_with fail
                go_region_held3 (fun W => (Below wr.heap.size wr W ∧ W.cell? ⟨w.heap.size, 0, none⟩ = some (.slice A p.dies.length c) ∧ W.cell? ⟨w.heap.size, 1, none⟩ = some (.int .i64 p.shrink.lo) ∧ W.cell? ⟨w.heap.size, 2, none⟩ = some (.int .i64 p.shrink.hi) ∧ W.cell? ⟨w.heap.size, 3, none⟩ = some (.int .i64 p.change)) ∧ W.cell? ⟨w.heap.size + 1, 0, none⟩ = some (.int .i64 want.lo) ∧ W.cell? ⟨w.heap.size + 1, 1, none⟩ = some (.int .i64 want.hi)) (first | exact ⟨HS0.out.drew, HZ1.out.cell 0, HZ1.out.cell 1⟩ | exact ⟨HS2.out, HZ2.out.cell 0, HZ2.out.cell 1⟩ | exact ⟨HS3.out, HZ3.out.cell 0, HZ3.out.cell 1⟩ | assumption | fail "keep") (first | (go_at_call 27; (with_reducible refine (HTN1.out _ HB1.out.drew).mono ?_); rintro e W2 ⟨rfl, hb⟩; have HS2 := Lib.hid (HS0.out.drew.call hb); have HB2 := Lib.hid (HB1.out.trans (HS2.out.1.mono HB1.out.size)); have HZ2 := Lib.hid (HZ1.out.below HS2.out.1 HZ1.out.lt); clear hb) | (go_at_call 28; (with_reducible refine (HTK1.out _ HB2.out).mono ?_); rintro e W3 ⟨rfl, hb⟩; have HS3 := Lib.hid (HS2.out.call hb); have HB3 := Lib.hid (HB1.out.trans (HS3.out.1.mono HB1.out.size)); have HZ3 := Lib.hid (HZ1.out.below HS3.out.1 HZ1.out.lt); have HQ3 := Lib.hid (HQ1.out.below HS3.out.1 HQ1.out.lt); clear hb) | fail "no arm")
                clear hS2
                by_cases g3 : f0 < 0
                · have HNN : Hid ((frTo fa tb (m + 1)).1 = m ∧ (frTo fa tb (m + 1)).2 = m) := Lib.hid ⟨by rw [HN.out.1, if_pos g3], HN.out.2⟩
                  go_wp2_with fail
                  go_roundw
                  case rel => exact ⟨m + 1, by omega, by omega, by rw [HNN.out.1], by rw [HNN.out.2], by go_num, HB3, HQ3, HZ3⟩
                  case measure => simp [intOf]; omega
                · have HNN : Hid ((frTo fa tb (m + 1)).1 = f0 ∧ (frTo fa tb (m + 1)).2 = m) := Lib.hid ⟨by rw [HN.out.1, if_neg g3], HN.out.2⟩
                  go_wp2_with fail
                  go_roundw
                  case rel => exact ⟨m + 1, by omega, by omega, by rw [HNN.out.1], by rw [HNN.out.2], by go_num, HB3, HQ3, HZ3⟩
                  case measure => simp [intOf]; omega
              · have e2 : decide (tk ≤ 1000 * want.hi) = false := decide_eq_false (fun h => g2 (hGI.2.1 h))
                have HN := Lib.hid (HIF.out.2 (fun h => g2 h.2))
                clear hGI HIF g1 g2 h1 h2 hf ht
                have hS2 : PbS p A c w.heap.size wr wr ∧ wr.cell? ⟨w.heap.size + 1, 0, none⟩ = some (.int .i64 want.lo) ∧ wr.cell? ⟨w.heap.size + 1, 1, none⟩ = some (.int .i64 want.hi) := ⟨hS0, HZ1.out.cell 0, HZ1.out.cell 1⟩
                unfold PbS at hS2
                clear hS0
                go_wp2_with fail
                go_region_held3 (fun W => (Below wr.heap.size wr W ∧ W.cell? ⟨w.heap.size, 0, none⟩ = some (.slice A p.dies.length c) ∧ W.cell? ⟨w.heap.size, 1, none⟩ = some (.int .i64 p.shrink.lo) ∧ W.cell? ⟨w.heap.size, 2, none⟩ = some (.int .i64 p.shrink.hi) ∧ W.cell? ⟨w.heap.size, 3, none⟩ = some (.int .i64 p.change)) ∧ W.cell? ⟨w.heap.size + 1, 0, none⟩ = some (.int .i64 want.lo) ∧ W.cell? ⟨w.heap.size + 1, 1, none⟩ = some (.int .i64 want.hi)) (first | exact ⟨HS0.out.drew, HZ1.out.cell 0, HZ1.out.cell 1⟩ | exact ⟨HS2.out, HZ2.out.cell 0, HZ2.out.cell 1⟩ | exact ⟨HS3.out, HZ3.out.cell 0, HZ3.out.cell 1⟩ | assumption | fail "keep") (first | (go_at_call 27; (with_reducible refine (HTN1.out _ HB1.out.drew).mono ?_); rintro e W2 ⟨rfl, hb⟩; have HS2 := Lib.hid (HS0.out.drew.call hb); have HB2 := Lib.hid (HB1.out.trans (HS2.out.1.mono HB1.out.size)); have HZ2 := Lib.hid (HZ1.out.below HS2.out.1 HZ1.out.lt); clear hb) | (go_at_call 28; (with_reducible refine (HTK1.out _ HB2.out).mono ?_); rintro e W3 ⟨rfl, hb⟩; have HS3 := Lib.hid (HS2.out.call hb); have HB3 := Lib.hid (HB1.out.trans (HS3.out.1.mono HB1.out.size)); have HZ3 := Lib.hid (HZ1.out.below HS3.out.1 HZ1.out.lt); have HQ3 := Lib.hid (HQ1.out.below HS3.out.1 HQ1.out.lt); clear hb) | fail "no arm")
                clear hS2
                go_wp2_with fail
                go_roundw
                case rel => exact ⟨m + 1, by omega, by omega, by rw [HN.out, HFT.out.1], by rw [HN.out, HFT.out.2], by go_num, HB3, HQ3, HZ3⟩
                case measure => simp [intOf]; omega
            · have e1 : decide (1000 * want.lo ≤ tn) = false := decide_eq_false (fun h => g1 (hGI.1.1 h))
              have HN := Lib.hid (HIF.out.2 (fun h => g1 h.1))
              clear hGI HIF g1 h1 h2 hf ht
              clear hS0
              go_wp2_with fail
              refine wp_region_held_drew (S := RlS p A c w.heap.size wr want) (by kernel_rfl) ⟨HS0.out.drew, HZ1.out.cell 0, HZ1.out.cell 1⟩ (fun hH0 => ?_)
              simp only [List.size_toArray, List.length_cons, List.length_nil, Nat.reduceAdd, Array.replicate_succ, Array.replicate_zero, List.push_toArray, List.nil_append, List.cons_append]
              refine wpAnyH_take (i := 0 ) (v := ?_) rfl (by kernel_rfl) (by kernel_rfl) (by kernel_rfl) (fun _ _ _ h => h) (Or.inl ⟨by rfl, ?_⟩) (by assumption) ?_; rotate_left; (· (intro w hSw; obtain ⟨⟨-, p0, p1, p2, p3⟩, q0, q1⟩ := hSw; go_simp); first | done | with_reducible rfl); (try simp only [Act.put, List.getElem_toArray, List.getElem_cons_zero, List.setIfInBounds_toArray, List.set_cons_zero, List.set_cons_succ])
              refine wpAnyH_take (i := 1 ) (v := ?_) rfl (by kernel_rfl) (by kernel_rfl) (by kernel_rfl) (fun _ _ _ h => h) (Or.inl ⟨by rfl, ?_⟩) (by assumption) ?_; rotate_left; (· (intro w hSw; obtain ⟨⟨-, p0, p1, p2, p3⟩, q0, q1⟩ := hSw; go_simp); first | done | with_reducible rfl); (try simp only [Act.put, List.getElem_toArray, List.getElem_cons_succ, List.getElem_cons_zero, List.setIfInBounds_toArray, List.set_cons_zero, List.set_cons_succ])
              refine wpAnyH_take (i := 2 ) (v := ?_) rfl (by kernel_rfl) (by kernel_rfl) (by kernel_rfl) (fun _ _ _ h => h) (Or.inl ⟨by rfl, ?_⟩) (by assumption) ?_; rotate_left; (· (intro w hSw; obtain ⟨⟨-, p0, p1, p2, p3⟩, q0, q1⟩ := hSw; go_simp); first | done | with_reducible rfl); (try simp only [Act.put, List.getElem_toArray, List.getElem_cons_succ, List.getElem_cons_zero, List.setIfInBounds_toArray, List.set_cons_zero, List.set_cons_succ])
              refine wpAnyH_take (i := 4 ) (v := ?_) rfl (by kernel_rfl) (by kernel_rfl) (by kernel_rfl) (fun _ _ _ h => h) (Or.inl ⟨by rfl, ?_⟩) (by assumption) ?_; rotate_left; (· (intro w hSw; obtain ⟨⟨-, p0, p1, p2, p3⟩, q0, q1⟩ := hSw; go_simp); first | done | with_reducible rfl); (try simp only [Act.put, List.getElem_toArray, List.getElem_cons_succ, List.getElem_cons_zero, List.setIfInBounds_toArray, List.set_cons_zero, List.set_cons_succ])
              refine wpAnyH_take (i := 5 ) (v := ?_) rfl (by kernel_rfl) (by kernel_rfl) (by kernel_rfl) (fun _ _ _ h => h) (Or.inl ⟨by rfl, ?_⟩) (by assumption) ?_; rotate_left; (· (intro w hSw; obtain ⟨⟨-, p0, p1, p2, p3⟩, q0, q1⟩ := hSw; go_simp); first | done | with_reducible rfl); (try simp only [Act.put, List.getElem_toArray, List.getElem_cons_succ, List.getElem_cons_zero, List.setIfInBounds_toArray, List.set_cons_zero, List.set_cons_succ])
              refine wpAnyH_take (i := 6 ) (v := ?_) rfl (by kernel_rfl) (by kernel_rfl) (by kernel_rfl) (fun _ _ _ h => h) (Or.inl ⟨by rfl, ?_⟩) (by assumption) ?_; rotate_left; (· (intro w hSw; obtain ⟨⟨-, p0, p1, p2, p3⟩, q0, q1⟩ := hSw; go_simp); first | done | with_reducible rfl); (try simp only [Act.put, List.getElem_toArray, List.getElem_cons_succ, List.getElem_cons_zero, List.setIfInBounds_toArray, List.set_cons_zero, List.set_cons_succ])
              refine wpAnyH_ready (rs := [3]) (by kernel_rfl) (by simp) ?_
              refine AllReadyH.cons rfl (fun K hK => ?_) ?_
              · go_simp
                refine (HTN1.out _ HB1.out.drew).mono ?_
                rintro e W2 ⟨rfl, hb⟩
                have HS2 := Lib.hid (HS0.out.drew.call hb)
                have HB2 := Lib.hid (HB1.out.trans (HS2.out.1.mono HB1.out.size))
                have HZ2 := Lib.hid (HZ1.out.below HS2.out.1 HZ1.out.lt)
                have HQ2 := Lib.hid (HQ1.out.below HS2.out.1 HQ1.out.lt)
                clear hb
                refine hK.out _ _ ⟨HS2.out, HZ2.out.cell 0, HZ2.out.cell 1⟩ (fun hH1 => ?_)
                clear hK K hH0
                try simp only [List.setIfInBounds_toArray, List.set_cons_zero, List.set_cons_succ]
                refine wpAnyH_take (i := 7 ) (v := ?_) rfl (by kernel_rfl) (by kernel_rfl) (by kernel_rfl) (fun _ _ _ h => h) (Or.inl ⟨by rfl, ?_⟩) (by assumption) ?_; rotate_left; (· (intro w hSw; obtain ⟨⟨-, p0, p1, p2, p3⟩, q0, q1⟩ := hSw; go_simp); first | done | with_reducible rfl); (try simp only [Act.put, List.getElem_toArray, List.getElem_cons_succ, List.getElem_cons_zero, List.setIfInBounds_toArray, List.set_cons_zero, List.set_cons_succ])
                refine wpAnyH_take (i := 8 ) (v := ?_) rfl (by kernel_rfl) (by kernel_rfl) (by kernel_rfl) (fun _ _ _ h => h) (Or.inl ⟨by rfl, ?_⟩) (by assumption) ?_; rotate_left; (· (intro w hSw; obtain ⟨⟨-, p0, p1, p2, p3⟩, q0, q1⟩ := hSw; go_simp); first | done | with_reducible rfl); (try simp only [Act.put, List.getElem_toArray, List.getElem_cons_succ, List.getElem_cons_zero, List.setIfInBounds_toArray, List.set_cons_zero, List.set_cons_succ])
                refine wpAnyH_take (i := 9) (v := undef) rfl (by kernel_rfl) (by kernel_rfl) (by kernel_rfl) (fun _ _ _ h => h) (Or.inr ⟨by rfl, rfl⟩) (by assumption) ?_; (try simp only [Act.put, List.getElem_toArray, List.getElem_cons_succ, List.getElem_cons_zero, List.setIfInBounds_toArray, List.set_cons_zero, List.set_cons_succ])
                refine wpAnyH_take (i := 10) (v := undef) rfl (by kernel_rfl) (by kernel_rfl) (by kernel_rfl) (fun _ _ _ h => h) (Or.inr ⟨by rfl, rfl⟩) (by assumption) ?_; (try simp only [Act.put, List.getElem_toArray, List.getElem_cons_succ, List.getElem_cons_zero, List.setIfInBounds_toArray, List.set_cons_zero, List.set_cons_succ])
                refine wpAnyH_take (i := 11) (v := undef) rfl (by kernel_rfl) (by kernel_rfl) (by kernel_rfl) (fun _ _ _ h => h) (Or.inr ⟨by rfl, rfl⟩) (by assumption) ?_; (try simp only [Act.put, List.getElem_toArray, List.getElem_cons_succ, List.getElem_cons_zero, List.setIfInBounds_toArray, List.set_cons_zero, List.set_cons_succ])
                refine wpAnyH_take (i := 12) (v := undef) rfl (by kernel_rfl) (by kernel_rfl) (by kernel_rfl) (fun _ _ _ h => h) (Or.inr ⟨by rfl, rfl⟩) (by assumption) ?_; (try simp only [Act.put, List.getElem_toArray, List.getElem_cons_succ, List.getElem_cons_zero, List.setIfInBounds_toArray, List.set_cons_zero, List.set_cons_succ])
                refine wpAnyH_take (i := 13) (v := undef) rfl (by kernel_rfl) (by kernel_rfl) (by kernel_rfl) (fun _ _ _ h => h) (Or.inr ⟨by rfl, rfl⟩) (by assumption) ?_; (try simp only [Act.put, List.getElem_toArray, List.getElem_cons_succ, List.getElem_cons_zero, List.setIfInBounds_toArray, List.set_cons_zero, List.set_cons_succ])
                refine wpAnyH_take (i := 14) (v := undef) rfl (by kernel_rfl) (by kernel_rfl) (by kernel_rfl) (fun _ _ _ h => h) (Or.inr ⟨by rfl, rfl⟩) (by assumption) ?_; (try simp only [Act.put, List.getElem_toArray, List.getElem_cons_succ, List.getElem_cons_zero, List.setIfInBounds_toArray, List.set_cons_zero, List.set_cons_succ])
                refine wpAnyH_take (i := 15) (v := undef) rfl (by kernel_rfl) (by kernel_rfl) (by kernel_rfl) (fun _ _ _ h => h) (Or.inr ⟨by rfl, rfl⟩) (by assumption) ?_; (try simp only [Act.put, List.getElem_toArray, List.getElem_cons_succ, List.getElem_cons_zero, List.setIfInBounds_toArray, List.set_cons_zero, List.set_cons_succ])
                refine wpAnyH_take (i := 16) (v := undef) rfl (by kernel_rfl) (by kernel_rfl) (by kernel_rfl) (fun _ _ _ h => h) (Or.inr ⟨by rfl, rfl⟩) (by assumption) ?_; (try simp only [Act.put, List.getElem_toArray, List.getElem_cons_succ, List.getElem_cons_zero, List.setIfInBounds_toArray, List.set_cons_zero, List.set_cons_succ])
                refine wpAnyH_take (i := 17 ) (v := ?_) rfl (by kernel_rfl) (by kernel_rfl) (by kernel_rfl) (fun _ _ _ h => h) (Or.inl ⟨by rfl, ?_⟩) (by assumption) ?_; rotate_left; (· (intro w hSw; obtain ⟨⟨-, p0, p1, p2, p3⟩, q0, q1⟩ := hSw; go_simp); first | done | with_reducible rfl); (try simp only [Act.put, List.getElem_toArray, List.getElem_cons_succ, List.getElem_cons_zero, List.setIfInBounds_toArray, List.set_cons_zero, List.set_cons_succ])
                refine wpAnyH_done (by kernel_rfl) ?_ _
                go_wp2_with fail
                go_roundw
                case rel => exact ⟨m + 1, by omega, by omega, by rw [HN.out, HFT.out.1], by rw [HN.out, HFT.out.2], by go_num, HB2, HQ2, HZ2⟩
                case measure => simp [intOf]; omega
              · exact AllReadyH.nil
          · obtain rfl : m = 8001 := by omega
            have HR := Lib.hid (frTo_end hf.1 ht.2 (show fa ≤ 8001 from hf.2))
            have hsp : sp = if fa ≤ tb then ⟨fa, tb, 0⟩ else ⟨0, 0, 4⟩ := HS.out
            by_cases hab : fa ≤ tb
            · obtain ⟨r1, r2⟩ := HR.out.1 hab
              rw [if_pos hab] at hsp
              have hn0 : ¬ fa < 0 := by omega
              rw [r1, r2]
              clear HR HS
              go_wp2_with fail
              subst hsp
              exact bodyPost_ret (v := .tuple #[.int .i64 fa, .int .i64 tb, .int .i64 0]) (by simp [results, Try.results15, go_sem]) rfl ⟨rfl, HB1.out⟩
            · rw [if_neg (by omega)] at hsp
              rw [HR.out.2 hab]
              clear HR HS
              go_wp2_with fail
              subst hsp
              exact bodyPost_ret (v := .tuple #[.int .i64 0, .int .i64 0, .int .i64 4]) (by simp [results, Try.results15, go_sem]) rfl ⟨rfl, HB1.out⟩
end Go.Proofs.Ytkokacdaiklfjaa
