/- Walks: Use. -/
import Derived.Test.YtngoagfkcjkeoaaLv
namespace Go.Proofs.Ytngoagfkcjkeoaa
open Go.RowKit Go.Shelf

theorem there9 {W : World} {g o : Nat} {t : TypeId} {cs : Array Value} (h : Blk W g t cs) (ho : o + 2 ≤ cs.size) : W.there g o 2 := fun j hj => by
  rw [h.cell, h.frozen]
  refine ⟨?_, rfl⟩
  rw [Array.getElem?_eq_getElem (show o + j < cs.size by omega)]
  rfl
theorem sets9_below {B g : Nat} {w W : World} {x y : Value} (h : Below B w W) (hg : B ≤ g) : Below B w (W.setCells g 0 [x, y]) := (h.setCell (p := ⟨g, 0, none⟩) hg x).setCell (p := ⟨g, 1, none⟩) hg y
theorem sets9_blk {W : World} {g : Nat} {x y : Value} {t : TypeId} {a b : Value} (h : Blk W g t #[a, b]) : Blk (W.setCells g 0 [x, y]) g t #[x, y] := (h.set_ 0 x).set_ 1 y
/-- What Use returns. -/
def UseR (need : List Int) (l : List Pile) (b pile lo hi ee : Int) : Prop :=
  (errE need l b ≠ 0 ∧ lo = 0 ∧ hi = 0 ∧ ee = errE need l b) ∨ (errE need l b = 0 ∧ fromB pile 0 (l.length - 1) = false ∧ lo = 0 ∧ hi = 0 ∧ ee = 2) ∨
  (errE need l b = 0 ∧ fromB pile 0 (l.length - 1) = true ∧ canB need l b = false ∧ lo = 0 ∧ hi = 0 ∧ ee = 10) ∨
  (errE need l b = 0 ∧ canB need l b = true ∧ ee = 0 ∧ ∃ (p : Nat) (h : p < l.length) (r : Int), pile = p ∧ GreatOf (lessF need l b p h) l[p].many r ∧ lo = l[p].many - r ∧ hi = min l[p].many (needS need l[p].shades.toNat * b))
def RetUse (need : List Int) (l : List Pile) (b pile : Int) (w : World) (e : Ending) (w' : World) : Prop := ∃ lo hi ee, e = .returned (.tuple #[.agg #[.int .i64 lo, .int .i64 hi], .int .i64 ee]) ∧ UseR need l b pile lo hi ee ∧ Below w.heap.size w w'
set_option maxRecDepth 100000 in
set_option maxHeartbeats 8000000 in
theorem use_any (w : World) (A B : Option Addr) (c d : Nat) (need : List Int) (l : List Pile) (b pile : Int) (hn : need.length ≤ 9223372036854775807) (hl : l.length ≤ 9223372036854775807) (hA : IntSl w w.heap.size A need) (hB : PileSl w w.heap.size B l) :
    Calls Try.prog 19 #[.slice A need.length c, .slice B l.length d, .int .i64 b, .int .i64 pile] w (RetUse need l b pile w) := by
  have hb0 : Below w.heap.size w (w.alloc (.cells #[.int .i64 0, .int .i64 0] 35)) := (Below.refl _ _).alloc (Nat.le_refl _) _
  have HA := Lib.hid hA
  have HBS := Lib.hid hB
  have HV := Lib.hid (errorOf_any _ A B c d need l b hn hl (hA.on hb0 (Nat.le_refl _)) (hB.on hb0 (Nat.le_refl _)))
  have HK0 := Lib.hid (And.intro hb0 (Blk.new w 35 #[.int .i64 0, .int .i64 0]))
  have HOK : Hid (errE need l b = 0 → boxOk need l = true ∧ 0 ≤ b ∧ b ≤ 1048576) := Lib.hid errE_0
  have HR : Hid (∀ lo hi ee W, UseR need l b pile lo hi ee → Below w.heap.size w W → RetUse need l b pile w (.returned (.tuple #[.agg #[.int .i64 lo, .int .i64 hi], .int .i64 ee])) W) := Lib.hid fun lo hi ee W h1 h2 => ⟨lo, hi, ee, rfl, h1, h2⟩
  have hl0 : (0 : Int) ≤ l.length := by omega
  have hl1 : (l.length : Int) ≤ 9223372036854775807 := by omega
  have hwl : IntKind.i64.wrap ((l.length : Int) - 1) = (l.length : Int) - 1 := IntWalk.i64_in _ ⟨by omega, by omega⟩
  generalize RetUse need l b pile w = Q at *
  clear hA hB hb0
  go_enter Try.func19, Try.ntmps19
  go_upto_region 1 with fail
  generalize World.alloc w _ = w0 at *
  go_wp2_with fail
  refine HV.out.mono ?_
  rintro e w1 ⟨rfl, hb1⟩
  have HK1 := Lib.hid (And.intro (HK0.out.1.trans (hb1.mono HK0.out.1.size)) (HK0.out.2.below hb1 HK0.out.2.lt))
  clear hb1 HV HK0
  by_cases h0 : errE need l b = 0
  · have HE0 := Lib.hid h0
    obtain ⟨hok, hb0, hb1⟩ := HOK.out h0
    obtain ⟨hN, hP, hc1, hc8⟩ := ok_in hok
    have hn48 : ∀ n ∈ need, 0 ≤ n ∧ n ≤ 48 := by
      unfold boxOk at hok
      rw [Bool.and_eq_true] at hok
      exact (need_parts hok.1).2.1
    have HNI := Lib.hid hN
    have HPI := Lib.hid hP
    have HN48 := Lib.hid hn48
    have HC := Lib.hid (count_in hN hP)
    have HTA := Lib.hid (tallyOf_any w1 A B c d need l hN hP (HA.out.on HK1.out.1 (Nat.le_refl _)) (HBS.out.on HK1.out.1 (Nat.le_refl _)))
    clear hok hN hP hn48 HOK
    have c0 := HK1.out.2.cell 0
    have c1 := HK1.out.2.cell 1
    have f0 := HK1.out.2.frozen 0
    have f1 := HK1.out.2.frozen 1
    rw [h0]
    clear h0
    go_wp2_with fail
    refine (isFrom_any _ _ _ _).mono ?_
    rintro e w' ⟨rfl, rfl⟩
    cases hf : fromB pile 0 ((l.length : Int) - 1) with
    | false =>
      have hf2 := hf
      clear hf
      go_wp2_with fail
      have e8 := (HK1.out.2.set_ 0 (.int .i64 0)).set_ 1 (.int .i64 0)
      have eB := (HK1.out.1.setCell (p := ⟨w.heap.size, 0, none⟩) (Nat.le_refl _) (.int .i64 0)).setCell (p := ⟨w.heap.size, 1, none⟩) (Nat.le_refl _) (.int .i64 0)
      generalize World.setCell (World.setCell w1 _ _) _ _ = W9 at e8 eB ⊢
      have d0 := e8.cell 0
      have d1 := e8.cell 1
      exact bodyPost_ret (v := .tuple #[.agg #[.int .i64 0, .int .i64 0], .int .i64 2]) (by simp [results, Try.results19, go_sem, d0, d1]) rfl (HR.out 0 0 2 W9 (.inr (.inl ⟨HE0.out, hf2, rfl, rfl, rfl⟩)) eB)
    | true =>
      have HF := Lib.hid hf
      clear c0 c1 f0 f1
      go_wp2_with fail
      refine HTA.out.mono ?_
      rintro e w2 ⟨r, rfl, hT, hb2⟩
      have HT := Lib.hid hT
      have HK2 := Lib.hid (And.intro (HK1.out.1.trans (hb2.mono HK1.out.1.size)) (HK1.out.2.below hb2 HK1.out.2.lt))
      clear hT hb2 HK1 HTA
      go_wp2_with fail
      have h9 := canFill_any w2 r need.length (cfOf need l) b hc8 HT.out HC.out ⟨by omega, by omega⟩
      rw [lacking_eq] at h9
      refine h9.mono ?_
      rintro e w3 ⟨rfl, hb3⟩
      change Below w2.heap.size w2 w3 at hb3
      have HK3 := Lib.hid (And.intro (HK2.out.1.trans (hb3.mono HK2.out.1.size)) (HK2.out.2.below hb3 HK2.out.2.lt))
      clear hb3 HK2 HT h9
      have HCB : Hid ((lackingS need l b == 0) = canB need l b) := Lib.hid rfl
      rw [HCB.out]
      cases hcb : canB need l b with
      | false =>
        have HCF := Lib.hid hcb
        clear hcb
        have c0 := HK3.out.2.cell 0
        have c1 := HK3.out.2.cell 1
        have f0 := HK3.out.2.frozen 0
        have f1 := HK3.out.2.frozen 1
        go_wp2_with fail
        have e8 := (HK3.out.2.set_ 0 (.int .i64 0)).set_ 1 (.int .i64 0)
        have eB := (HK3.out.1.setCell (p := ⟨w.heap.size, 0, none⟩) (Nat.le_refl _) (.int .i64 0)).setCell (p := ⟨w.heap.size, 1, none⟩) (Nat.le_refl _) (.int .i64 0)
        generalize World.setCell (World.setCell w3 _ _) _ _ = W9 at e8 eB ⊢
        have d0 := e8.cell 0
        have d1 := e8.cell 1
        exact bodyPost_ret (v := .tuple #[.agg #[.int .i64 0, .int .i64 0], .int .i64 10]) (by simp [results, Try.results19, go_sem, d0, d1]) rfl (HR.out 0 0 10 W9 (.inr (.inr (.inl ⟨HE0.out, HF.out, HCF.out, rfl, rfl, rfl⟩))) eB)
      | true =>
        have HCT := Lib.hid hcb
        clear hcb HCB
        have hf3 := fromB_iff.1 HF.out
        obtain ⟨p, rfl⟩ := Int.eq_ofNat_of_zero_le hf3.1
        have hp : p < l.length := by omega
        have hpi : (p : Int) < l.length := by omega
        have hp0 : (0 : Int) ≤ p := by omega
        obtain ⟨b0, off0, rfl, hbb, hat⟩ := HBS.out (by intro e; rw [e] at hp; simp at hp)
        obtain ⟨⟨s0, s1⟩, m0, m1⟩ := HPI.out.2 l[p] (List.getElem_mem hp)
        have HUN := Lib.hid fun (W : World) ha hbW => unused_any W A (some ⟨b0, off0, none⟩) d c p need l b HNI.out HPI.out hp ⟨hb0, hb1⟩ ha hbW
        have HW := Lib.hid fun (W : World) ha => wanted_any W A c need b hc8 HN48.out ⟨hb0, hb1⟩ ha
        have hNM : NeedIn (need.map (b * ·)) := ⟨by rw [List.length_map]; exact hc8, fun n hn => by
          obtain ⟨x, hx, rfl⟩ := List.mem_map.1 hn
          obtain ⟨h1, h2⟩ := HN48.out x hx
          have m0 : 0 ≤ b * x := Int.mul_nonneg hb0 h1
          have m1 : b * x ≤ 1048576 * 48 := Int.mul_le_mul hb1 h2 h1 (by omega)
          omega⟩
        obtain ⟨sh, hsh⟩ := Int.eq_ofNat_of_zero_le s0
        have HND : Hid (∀ (W : World) A2 c2, IntSl W W.heap.size A2 (need.map (b * ·)) → Calls Try.prog 53 #[.slice A2 need.length c2, .func (.func 54) #[.int .i64 (sh : Int)] #[]] W fun e w' => e = .returned (.int .i64 (needS need sh * b)) ∧ W = w') := Lib.hid fun W A2 c2 hsl => by
          have := needs_any W A2 c2 sh (need.map (b * ·)) (by omega) hNM hsl
          rw [List.length_map, show needS (need.map (b * ·)) sh = needS need sh * b from needF_map b need sh 0] at this
          exact this
        have HRD : Hid (∀ W9 : World, Below w.heap.size w W9 → W9.cell? ⟨b0, off0 + p * 2, none⟩ = some (.int .i64 (sh : Int)) ∧ W9.cell? ⟨b0, off0 + p * 2 + 1, none⟩ = some (.int .i64 l[p].many)) := Lib.hid fun W9 h9 => ⟨(h9.cell (p := ⟨b0, _, none⟩) hbb).trans (by rw [← hsh]; exact (hat p hp).1), (h9.cell (p := ⟨b0, _, none⟩) hbb).trans (hat p hp).2⟩
        have HBP := Lib.hid (show ∀ W : World, Below w.heap.size w W → PileSl W W.heap.size (some ⟨b0, off0, none⟩) l from fun W h => HBS.out.on h (Nat.le_refl _))
        have HR9 : Hid (∀ r W, GreatOf (lessF need l b p hp) l[p].many r → Below w.heap.size w W → Q (.returned (.tuple #[.agg #[.int .i64 (l[p].many - r), .int .i64 (if needS need sh * b < l[p].many then needS need sh * b else l[p].many)], .int .i64 0])) W) := Lib.hid fun r W h1 h2 => HR.out _ _ _ W (.inr (.inr (.inr ⟨HE0.out, HCT.out, rfl, p, hp, r, rfl, h1, rfl, by rw [hsh, Int.toNat_natCast, Int.min_def]; split <;> split <;> omega⟩))) h2
        have HRU : Hid (∀ W e W', RetUn need l b p hp W e W' → ∃ r, e = .returned (.int .i64 r) ∧ GreatOf (lessF need l b p hp) l[p].many r ∧ Below W.heap.size W W') := Lib.hid fun W e W' h => h
        clear hat s0 s1 hNM hf3 HR HE0 HCT hsh
        generalize l[p].many = mn at *
        generalize needS need sh * b = nd at *
        clear HN48 HC HBS
        go_upto_region 8 with fail
        have HD := Lib.hid (And.intro HK3.out.1.drew (HK3.out.2.below (Below.refl _ _).drew HK3.out.2.lt))
        refine wp_region_held_drew (S := fun W9 => Below w.heap.size w W9) (by kernel_rfl) HD.out.1 (fun hH0 => ?_)
        generalize World.drew _ = V0 at *
        simp only [List.size_toArray, List.length_cons, List.length_nil, Nat.reduceAdd, Array.replicate_succ, Array.replicate_zero, List.push_toArray, List.nil_append, List.cons_append]
        refine wpAnyH_take (i := 0 ) (v := ?_) rfl (by kernel_rfl) (by kernel_rfl) (by kernel_rfl) (fun _ _ _ h => h) (Or.inl ⟨by rfl, ?_⟩) (by assumption) ?_; rotate_left; (· (intro w0 hSw; obtain ⟨y0, y1⟩ := HRD.out _ hSw; clear hSw; go_simp); first | done | with_reducible rfl); (try simp only [Act.put, List.getElem_toArray, List.getElem_cons_zero, List.setIfInBounds_toArray, List.set_cons_zero, List.set_cons_succ])
        refine wpAnyH_take (i := 1 ) (v := ?_) rfl (by kernel_rfl) (by kernel_rfl) (by kernel_rfl) (fun _ _ _ h => h) (Or.inl ⟨by rfl, ?_⟩) (by assumption) ?_; rotate_left; (· (intro w0 hSw; obtain ⟨y0, y1⟩ := HRD.out _ hSw; clear hSw; go_simp); first | done | with_reducible rfl); (try simp only [Act.put, List.getElem_toArray, List.getElem_cons_succ, List.getElem_cons_zero, List.setIfInBounds_toArray, List.set_cons_zero, List.set_cons_succ])
        refine wpAnyH_take (i := 3 ) (v := ?_) rfl (by kernel_rfl) (by kernel_rfl) (by kernel_rfl) (fun _ _ _ h => h) (Or.inl ⟨by rfl, ?_⟩) (by assumption) ?_; rotate_left; (· (intro w0 hSw; obtain ⟨y0, y1⟩ := HRD.out _ hSw; clear hSw; go_simp); first | done | with_reducible rfl); (try simp only [Act.put, List.getElem_toArray, List.getElem_cons_succ, List.getElem_cons_zero, List.setIfInBounds_toArray, List.set_cons_zero, List.set_cons_succ])
        refine wpAnyH_take (i := 4 ) (v := ?_) rfl (by kernel_rfl) (by kernel_rfl) (by kernel_rfl) (fun _ _ _ h => h) (Or.inl ⟨by rfl, ?_⟩) (by assumption) ?_; rotate_left; (· (intro w0 hSw; obtain ⟨y0, y1⟩ := HRD.out _ hSw; clear hSw; go_simp); first | done | with_reducible rfl); (try simp only [Act.put, List.getElem_toArray, List.getElem_cons_succ, List.getElem_cons_zero, List.setIfInBounds_toArray, List.set_cons_zero, List.set_cons_succ])
        refine wpAnyH_take (i := 5 ) (v := ?_) rfl (by kernel_rfl) (by kernel_rfl) (by kernel_rfl) (fun _ _ _ h => h) (Or.inl ⟨by rfl, ?_⟩) (by assumption) ?_; rotate_left; (· (intro w0 hSw; obtain ⟨y0, y1⟩ := HRD.out _ hSw; clear hSw; go_simp); first | done | with_reducible rfl); (try simp only [Act.put, List.getElem_toArray, List.getElem_cons_succ, List.getElem_cons_zero, List.setIfInBounds_toArray, List.set_cons_zero, List.set_cons_succ])
        refine wpAnyH_take (i := 6 ) (v := ?_) rfl (by kernel_rfl) (by kernel_rfl) (by kernel_rfl) (fun _ _ _ h => h) (Or.inl ⟨by rfl, ?_⟩) (by assumption) ?_; rotate_left; (· (intro w0 hSw; obtain ⟨y0, y1⟩ := HRD.out _ hSw; clear hSw; go_simp); first | done | with_reducible rfl); (try simp only [Act.put, List.getElem_toArray, List.getElem_cons_succ, List.getElem_cons_zero, List.setIfInBounds_toArray, List.set_cons_zero, List.set_cons_succ])
        refine wpAnyH_take (i := 7 ) (v := ?_) rfl (by kernel_rfl) (by kernel_rfl) (by kernel_rfl) (fun _ _ _ h => h) (Or.inl ⟨by rfl, ?_⟩) (by assumption) ?_; rotate_left; (· (intro w0 hSw; obtain ⟨y0, y1⟩ := HRD.out _ hSw; clear hSw; go_simp); first | done | with_reducible rfl); (try simp only [Act.put, List.getElem_toArray, List.getElem_cons_succ, List.getElem_cons_zero, List.setIfInBounds_toArray, List.set_cons_zero, List.set_cons_succ])
        refine wpAnyH_take (i := 8 ) (v := ?_) rfl (by kernel_rfl) (by kernel_rfl) (by kernel_rfl) (fun _ _ _ h => h) (Or.inl ⟨by rfl, ?_⟩) (by assumption) ?_; rotate_left; (· (intro w0 hSw; obtain ⟨y0, y1⟩ := HRD.out _ hSw; clear hSw; go_simp); first | done | with_reducible rfl); (try simp only [Act.put, List.getElem_toArray, List.getElem_cons_succ, List.getElem_cons_zero, List.setIfInBounds_toArray, List.set_cons_zero, List.set_cons_succ])
        refine wpAnyH_ready (rs := [2]) (by kernel_rfl) (by simp) ?_
        refine AllReadyH.cons (by simp only [List.getElem?_toArray, List.getElem?_cons_succ, List.getElem?_cons_zero]; rfl) (fun K hK => ?_) AllReadyH.nil
        go_simp
        refine (HW.out _ (HA.out.on HD.out.1 (Nat.le_refl _))).mono ?_
        rintro e X9 ⟨A2, c2, rfl, hsl, hb2⟩
        have HSL := Lib.hid hsl
        have HDX := Lib.hid (And.intro (HD.out.1.trans (hb2.mono HD.out.1.size)) (HD.out.2.below hb2 HD.out.2.lt))
        clear hsl hb2
        refine hK.out _ _ HDX.out.1 (fun hH1 => ?_)
        clear hK K
        try simp only [List.setIfInBounds_toArray, List.set_cons_zero, List.set_cons_succ]
        refine wpAnyH_ready (rs := [9]) (by kernel_rfl) (by simp) ?_
        refine AllReadyH.cons (by simp only [List.getElem?_toArray, List.getElem?_cons_succ, List.getElem?_cons_zero]; rfl) (fun K hK => ?_) AllReadyH.nil
        go_simp
        refine (HND.out _ _ _ HSL.out).mono ?_
        rintro e Y9 ⟨rfl, rfl⟩
        refine hK.out _ _ HDX.out.1 (fun hH2 => ?_)
        clear hK K
        try simp only [List.setIfInBounds_toArray, List.set_cons_zero, List.set_cons_succ]
        refine wpAnyH_take (i := 10 ) (v := ?_) rfl (by kernel_rfl) (by kernel_rfl) (by kernel_rfl) (fun _ _ _ h => h) (Or.inl ⟨by rfl, ?_⟩) (by assumption) ?_; rotate_left; (· (intro w0 hSw; obtain ⟨y0, y1⟩ := HRD.out _ hSw; clear hSw; go_simp); first | done | with_reducible rfl); (try simp only [Act.put, List.getElem_toArray, List.getElem_cons_succ, List.getElem_cons_zero, List.setIfInBounds_toArray, List.set_cons_zero, List.set_cons_succ])
        refine wpAnyH_done (by kernel_rfl) ?_ _
        clear HW HND HSL HD
        go_upto_region 9 with fail
        have HE := Lib.hid (And.intro HDX.out.1.drew (HDX.out.2.below (Below.refl _ _).drew HDX.out.2.lt))
        clear HDX
        refine wp_region_held_drew (S := fun W9 => Below w.heap.size w W9) (by kernel_rfl) HE.out.1 (fun hH0 => ?_)
        generalize World.drew _ = V0 at *
        simp only [List.size_toArray, List.length_cons, List.length_nil, Nat.reduceAdd, Array.replicate_succ, Array.replicate_zero, List.push_toArray, List.nil_append, List.cons_append]
        refine wpAnyH_take (i := 0 ) (v := ?_) rfl (by kernel_rfl) (by kernel_rfl) (by kernel_rfl) (fun _ _ _ h => h) (Or.inl ⟨by rfl, ?_⟩) (by assumption) ?_; rotate_left; (· (intro w0 hSw; obtain ⟨y0, y1⟩ := HRD.out _ hSw; clear hSw; go_simp); first | done | with_reducible rfl); (try simp only [Act.put, List.getElem_toArray, List.getElem_cons_zero, List.setIfInBounds_toArray, List.set_cons_zero, List.set_cons_succ])
        refine wpAnyH_take (i := 1 ) (v := ?_) rfl (by kernel_rfl) (by kernel_rfl) (by kernel_rfl) (fun _ _ _ h => h) (Or.inl ⟨by rfl, ?_⟩) (by assumption) ?_; rotate_left; (· (intro w0 hSw; obtain ⟨y0, y1⟩ := HRD.out _ hSw; clear hSw; go_simp); first | done | with_reducible rfl); (try simp only [Act.put, List.getElem_toArray, List.getElem_cons_succ, List.getElem_cons_zero, List.setIfInBounds_toArray, List.set_cons_zero, List.set_cons_succ])
        refine wpAnyH_take (i := 2 ) (v := ?_) rfl (by kernel_rfl) (by kernel_rfl) (by kernel_rfl) (fun _ _ _ h => h) (Or.inl ⟨by rfl, ?_⟩) (by assumption) ?_; rotate_left; (· (intro w0 hSw; obtain ⟨y0, y1⟩ := HRD.out _ hSw; clear hSw; go_simp); first | done | with_reducible rfl); (try simp only [Act.put, List.getElem_toArray, List.getElem_cons_succ, List.getElem_cons_zero, List.setIfInBounds_toArray, List.set_cons_zero, List.set_cons_succ])
        refine wpAnyH_take (i := 3 ) (v := ?_) rfl (by kernel_rfl) (by kernel_rfl) (by kernel_rfl) (fun _ _ _ h => h) (Or.inl ⟨by rfl, ?_⟩) (by assumption) ?_; rotate_left; (· (intro w0 hSw; obtain ⟨y0, y1⟩ := HRD.out _ hSw; clear hSw; go_simp); first | done | with_reducible rfl); (try simp only [Act.put, List.getElem_toArray, List.getElem_cons_succ, List.getElem_cons_zero, List.setIfInBounds_toArray, List.set_cons_zero, List.set_cons_succ])
        refine wpAnyH_take (i := 4 ) (v := ?_) rfl (by kernel_rfl) (by kernel_rfl) (by kernel_rfl) (fun _ _ _ h => h) (Or.inl ⟨by rfl, ?_⟩) (by assumption) ?_; rotate_left; (· (intro w0 hSw; obtain ⟨y0, y1⟩ := HRD.out _ hSw; clear hSw; go_simp); first | done | with_reducible rfl); (try simp only [Act.put, List.getElem_toArray, List.getElem_cons_succ, List.getElem_cons_zero, List.setIfInBounds_toArray, List.set_cons_zero, List.set_cons_succ])
        refine wpAnyH_take (i := 5 ) (v := ?_) rfl (by kernel_rfl) (by kernel_rfl) (by kernel_rfl) (fun _ _ _ h => h) (Or.inl ⟨by rfl, ?_⟩) (by assumption) ?_; rotate_left; (· (intro w0 hSw; obtain ⟨y0, y1⟩ := HRD.out _ hSw; clear hSw; go_simp); first | done | with_reducible rfl); (try simp only [Act.put, List.getElem_toArray, List.getElem_cons_succ, List.getElem_cons_zero, List.setIfInBounds_toArray, List.set_cons_zero, List.set_cons_succ])
        refine wpAnyH_take (i := 6 ) (v := ?_) rfl (by kernel_rfl) (by kernel_rfl) (by kernel_rfl) (fun _ _ _ h => h) (Or.inl ⟨by rfl, ?_⟩) (by assumption) ?_; rotate_left; (· (intro w0 hSw; obtain ⟨y0, y1⟩ := HRD.out _ hSw; clear hSw; go_simp); first | done | with_reducible rfl); (try simp only [Act.put, List.getElem_toArray, List.getElem_cons_succ, List.getElem_cons_zero, List.setIfInBounds_toArray, List.set_cons_zero, List.set_cons_succ])
        refine wpAnyH_take (i := 7 ) (v := ?_) rfl (by kernel_rfl) (by kernel_rfl) (by kernel_rfl) (fun _ _ _ h => h) (Or.inl ⟨by rfl, ?_⟩) (by assumption) ?_; rotate_left; (· (intro w0 hSw; obtain ⟨y0, y1⟩ := HRD.out _ hSw; clear hSw; go_simp); first | done | with_reducible rfl); (try simp only [Act.put, List.getElem_toArray, List.getElem_cons_succ, List.getElem_cons_zero, List.setIfInBounds_toArray, List.set_cons_zero, List.set_cons_succ])
        refine wpAnyH_take (i := 8 ) (v := ?_) rfl (by kernel_rfl) (by kernel_rfl) (by kernel_rfl) (fun _ _ _ h => h) (Or.inl ⟨by rfl, ?_⟩) (by assumption) ?_; rotate_left; (· (intro w0 hSw; obtain ⟨y0, y1⟩ := HRD.out _ hSw; clear hSw; go_simp); first | done | with_reducible rfl); (try simp only [Act.put, List.getElem_toArray, List.getElem_cons_succ, List.getElem_cons_zero, List.setIfInBounds_toArray, List.set_cons_zero, List.set_cons_succ])
        refine wpAnyH_take (i := 11 ) (v := ?_) rfl (by kernel_rfl) (by kernel_rfl) (by kernel_rfl) (fun _ _ _ h => h) (Or.inl ⟨by rfl, ?_⟩) (by assumption) ?_; rotate_left; (· (intro w0 hSw; obtain ⟨y0, y1⟩ := HRD.out _ hSw; clear hSw; go_simp); first | done | with_reducible rfl); (try simp only [Act.put, List.getElem_toArray, List.getElem_cons_succ, List.getElem_cons_zero, List.setIfInBounds_toArray, List.set_cons_zero, List.set_cons_succ])
        refine wpAnyH_take (i := 12 ) (v := ?_) rfl (by kernel_rfl) (by kernel_rfl) (by kernel_rfl) (fun _ _ _ h => h) (Or.inl ⟨by rfl, ?_⟩) (by assumption) ?_; rotate_left; (· (intro w0 hSw; obtain ⟨y0, y1⟩ := HRD.out _ hSw; clear hSw; go_simp); first | done | with_reducible rfl); (try simp only [Act.put, List.getElem_toArray, List.getElem_cons_succ, List.getElem_cons_zero, List.setIfInBounds_toArray, List.set_cons_zero, List.set_cons_succ])
        refine wpAnyH_take (i := 13 ) (v := ?_) rfl (by kernel_rfl) (by kernel_rfl) (by kernel_rfl) (fun _ _ _ h => h) (Or.inl ⟨by rfl, ?_⟩) (by assumption) ?_; rotate_left; (· (intro w0 hSw; obtain ⟨y0, y1⟩ := HRD.out _ hSw; clear hSw; go_simp); first | done | with_reducible rfl); (try simp only [Act.put, List.getElem_toArray, List.getElem_cons_succ, List.getElem_cons_zero, List.setIfInBounds_toArray, List.set_cons_zero, List.set_cons_succ])
        refine wpAnyH_take (i := 14 ) (v := ?_) rfl (by kernel_rfl) (by kernel_rfl) (by kernel_rfl) (fun _ _ _ h => h) (Or.inl ⟨by rfl, ?_⟩) (by assumption) ?_; rotate_left; (· (intro w0 hSw; obtain ⟨y0, y1⟩ := HRD.out _ hSw; clear hSw; go_simp); first | done | with_reducible rfl); (try simp only [Act.put, List.getElem_toArray, List.getElem_cons_succ, List.getElem_cons_zero, List.setIfInBounds_toArray, List.set_cons_zero, List.set_cons_succ])
        refine wpAnyH_take (i := 15 ) (v := ?_) rfl (by kernel_rfl) (by kernel_rfl) (by kernel_rfl) (fun _ _ _ h => h) (Or.inl ⟨by rfl, ?_⟩) (by assumption) ?_; rotate_left; (· (intro w0 hSw; obtain ⟨y0, y1⟩ := HRD.out _ hSw; clear hSw; go_simp); first | done | with_reducible rfl); (try simp only [Act.put, List.getElem_toArray, List.getElem_cons_succ, List.getElem_cons_zero, List.setIfInBounds_toArray, List.set_cons_zero, List.set_cons_succ])
        refine wpAnyH_take (i := 16 ) (v := ?_) rfl (by kernel_rfl) (by kernel_rfl) (by kernel_rfl) (fun _ _ _ h => h) (Or.inl ⟨by rfl, ?_⟩) (by assumption) ?_; rotate_left; (· (intro w0 hSw; obtain ⟨y0, y1⟩ := HRD.out _ hSw; clear hSw; go_simp); first | done | with_reducible rfl); (try simp only [Act.put, List.getElem_toArray, List.getElem_cons_succ, List.getElem_cons_zero, List.setIfInBounds_toArray, List.set_cons_zero, List.set_cons_succ])
        refine wpAnyH_take (i := 17 ) (v := ?_) rfl (by kernel_rfl) (by kernel_rfl) (by kernel_rfl) (fun _ _ _ h => h) (Or.inl ⟨by rfl, ?_⟩) (by assumption) ?_; rotate_left; (· (intro w0 hSw; obtain ⟨y0, y1⟩ := HRD.out _ hSw; clear hSw; go_simp); first | done | with_reducible rfl); (try simp only [Act.put, List.getElem_toArray, List.getElem_cons_succ, List.getElem_cons_zero, List.setIfInBounds_toArray, List.set_cons_zero, List.set_cons_succ])
        refine wpAnyH_ready (rs := [9]) (by kernel_rfl) (by simp) ?_
        refine AllReadyH.cons (by simp only [List.getElem?_toArray, List.getElem?_cons_succ, List.getElem?_cons_zero]; rfl) (fun K hK => ?_) AllReadyH.nil
        go_simp
        refine (HUN.out _ (HA.out.on HE.out.1 (Nat.le_refl _)) (HBP.out _ HE.out.1)).mono ?_
        rintro e Y9 hret
        obtain ⟨r, rfl, hg, hb2⟩ := HRU.out _ _ _ hret
        have hr0 := hg.1.1
        have hr1 := hg.1.2
        have HG := Lib.hid hg
        have hwr : IntKind.i64.wrap (mn - r) = mn - r := IntWalk.i64_in _ ⟨by omega, by omega⟩
        have HEX := Lib.hid (And.intro (HE.out.1.trans (hb2.mono HE.out.1.size)) (HE.out.2.below hb2 HE.out.2.lt))
        clear hret hg hb2
        refine hK.out _ _ HEX.out.1 (fun hH1 => ?_)
        clear hK K
        try simp only [List.setIfInBounds_toArray, List.set_cons_zero, List.set_cons_succ]
        refine wpAnyH_take (i := 10 ) (v := ?_) rfl (by kernel_rfl) (by kernel_rfl) (by kernel_rfl) (fun _ _ _ h => h) (Or.inl ⟨by rfl, ?_⟩) (by assumption) ?_; rotate_left; (· (intro w0 hSw; obtain ⟨y0, y1⟩ := HRD.out _ hSw; clear hSw; go_simp); first | done | with_reducible rfl); (try simp only [Act.put, List.getElem_toArray, List.getElem_cons_succ, List.getElem_cons_zero, List.setIfInBounds_toArray, List.set_cons_zero, List.set_cons_succ])
        refine wpAnyH_take (i := 18 ) (v := ?_) rfl (by kernel_rfl) (by kernel_rfl) (by kernel_rfl) (fun _ _ _ h => h) (Or.inl ⟨by rfl, ?_⟩) (by assumption) ?_; rotate_left; (· (intro w0 hSw; obtain ⟨y0, y1⟩ := HRD.out _ hSw; clear hSw; go_simp); first | done | with_reducible rfl); (try simp only [Act.put, List.getElem_toArray, List.getElem_cons_succ, List.getElem_cons_zero, List.setIfInBounds_toArray, List.set_cons_zero, List.set_cons_succ])
        refine wpAnyH_ready (rs := [19]) (by kernel_rfl) (by simp) ?_
        refine AllReadyH.cons (by simp only [List.getElem?_toArray, List.getElem?_cons_succ, List.getElem?_cons_zero]; rfl) (fun K hK => ?_) AllReadyH.nil
        rw [if_pos (by rfl)]
        refine wp_store_mid 35 (.tmp 8) (.tmp 65) (by rfl) w.heap.size 0 #[.int .i64 (mn - r), .int .i64 (if nd < mn then nd else mn)] (by rfl) (by rfl) (there9 (o := 0) HEX.out.2 (by simp)) (by kernel_rfl) (by simp [Value.oneCell']) ?_
        replace HEX := Lib.hid (And.intro (sets9_below (x := .int .i64 (mn - r)) (y := .int .i64 (if nd < mn then nd else mn)) HEX.out.1 (Nat.le_refl _)) (sets9_blk (x := .int .i64 (mn - r)) (y := .int .i64 (if nd < mn then nd else mn)) HEX.out.2))
        refine hK.out _ _ HEX.out.1 (fun hH2 => ?_)
        clear hK K
        try simp only [List.setIfInBounds_toArray, List.set_cons_zero, List.set_cons_succ]
        refine wpAnyH_take (i := 20 ) (v := ?_) rfl (by kernel_rfl) (by kernel_rfl) (by kernel_rfl) (fun _ _ _ h => h) (Or.inl ⟨by rfl, ?_⟩) (by assumption) ?_; rotate_left; (· (intro w0 hSw; obtain ⟨y0, y1⟩ := HRD.out _ hSw; clear hSw; go_simp); first | done | with_reducible rfl); (try simp only [Act.put, List.getElem_toArray, List.getElem_cons_succ, List.getElem_cons_zero, List.setIfInBounds_toArray, List.set_cons_zero, List.set_cons_succ])
        refine wpAnyH_done (by kernel_rfl) ?_ _
        generalize (if nd < mn then nd else mn) = mi at *
        go_wp2_with fail
        have d0 := HEX.out.2.cell 0
        have d1 := HEX.out.2.cell 1
        exact bodyPost_ret (v := .tuple #[.agg #[.int .i64 (mn - r), .int .i64 mi], .int .i64 0]) (by simp [results, Try.results19, go_sem, d0, d1]) rfl (HR9.out r _ HG.out HEX.out.1)
  · have HE9 := Lib.hid h0
    have h0' : (errE need l b != 0) = true := by rw [bne_iff_ne]; exact h0
    have c0 := HK1.out.2.cell 0
    have c1 := HK1.out.2.cell 1
    have f0 := HK1.out.2.frozen 0
    have f1 := HK1.out.2.frozen 1
    clear h0
    go_wp2_with fail
    have e8 := (HK1.out.2.set_ 0 (.int .i64 0)).set_ 1 (.int .i64 0)
    have eB := (HK1.out.1.setCell (p := ⟨w.heap.size, 0, none⟩) (Nat.le_refl _) (.int .i64 0)).setCell (p := ⟨w.heap.size, 1, none⟩) (Nat.le_refl _) (.int .i64 0)
    generalize World.setCell (World.setCell w1 _ _) _ _ = W9 at e8 eB ⊢
    have d0 := e8.cell 0
    have d1 := e8.cell 1
    exact bodyPost_ret (v := .tuple #[.agg #[.int .i64 0, .int .i64 0], .int .i64 (errE need l b)]) (by simp [results, Try.results19, go_sem, d0, d1]) rfl (HR.out 0 0 (errE need l b) W9 (.inl ⟨HE9.out, rfl, rfl, rfl⟩) eB)
end Go.Proofs.Ytngoagfkcjkeoaa
