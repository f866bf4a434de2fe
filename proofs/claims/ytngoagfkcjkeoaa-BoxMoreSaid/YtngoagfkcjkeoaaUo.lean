/- Walks: the document's Use. -/
import Derived.Test.YtngoagfkcjkeoaaMp
import Derived.Test.YtngoagfkcjkeoaaLw
namespace Go.Proofs.Ytngoagfkcjkeoaa
open Go.RowKit Go.Shelf

theorem ok_other {need : List Int} {l l' : List Pile} (h : boxOk need l = true) (hl : l'.length ≤ 8) (hm : ∀ p ∈ l', p ∈ l) : boxOk need l' = true := by
  unfold boxOk at *
  rw [Bool.and_eq_true] at *
  obtain ⟨-, h2⟩ := pile_parts h.2
  refine ⟨h.1, ?_⟩
  unfold pilesOk
  rw [Bool.and_eq_true, decide_eq_true_eq, List.all_eq_true]
  exact ⟨hl, fun p hp => by rw [decide_eq_true_eq]; exact h2 p (hm p hp)⟩
/-- All piles but one. -/
def otherP (l : List Pile) (p : Nat) : List Pile := l.take p ++ l.drop (p + 1)
theorem other_has (l : List Pile) (p : Nat) (h : p < l.length) (s : Nat) : hasS l s = hasS (otherP l p) s + (if meetB l[p].shades s then l[p].many else 0) := by
  have e : l = l.take p ++ (l[p] :: l.drop (p + 1)) := by rw [← List.drop_eq_getElem_cons h, List.take_append_drop]
  have e2 : hasS l s = hasS (l.take p ++ (l[p] :: l.drop (p + 1))) s := congrArg (fun x => hasS x s) e
  rw [has_app] at e2
  rw [e2, otherP, has_app]
  show _ + ((if meetB l[p].shades s then l[p].many else 0) + hasS (l.drop (p + 1)) s) = _
  omega
theorem other_set (l : List Pile) (p : Nat) (h : p < l.length) (s : Nat) (n : Int) : hasS (l.set p ⟨l[p].shades, n⟩) s = hasS (otherP l p) s + (if meetB l[p].shades s then n else 0) := by
  rw [has_set_eq l p _ s h, other_has l p h s]
  dsimp only
  omega
/-- What the other piles lack, is what a pile must give. -/
theorem other_great {need : List Int} {l : List Pile} {b : Int} (hm : ∀ p ∈ l, 0 ≤ p.many) (hc : canB need l b = true) {p : Nat} (hp : p < l.length) : GreatOf (lessF need l b p hp) l[p].many (l[p].many - (lackR need (otherP l p) b).2) := by
  have hn0 := lack_nonneg need (otherP l p) b
  have hall := can_iff.1 hc
  have hmn := hm _ (List.getElem_mem hp)
  have hle : (lackR need (otherP l p) b).2 ≤ l[p].many := by
    rcases Int.lt_or_le 0 (lackR need (otherP l p) b).2 with h | h
    · obtain ⟨⟨s1, s2⟩, s3, -⟩ := lackR_spec h
      have h1 := hall _ s1 s2
      rw [other_has l p hp] at h1
      unfold lackS at s3
      split at h1 <;> omega
    · omega
  refine ⟨⟨by omega, by omega⟩, .inr ?_, fun x h1 h2 => ?_⟩
  · unfold lessF
    rw [can_iff]
    intro s s1 s2
    rw [other_set l p hp]
    have h1 := hall s s1 s2
    rw [other_has l p hp] at h1
    have h3 := worst_le (lackS need (otherP l p) b) (setsS need.length) (0, 0) s (mem_sets.2 ⟨s1, s2⟩)
    change lackS need (otherP l p) b s ≤ (lackR need (otherP l p) b).2 at h3
    unfold lackS at h3
    split at h1
    · rename_i hmt
      rw [if_pos hmt]
      omega
    · rename_i hmt
      rw [if_neg hmt]
      omega
  · cases hx : lessF need l b p hp x with
    | false => rfl
    | true =>
      exfalso
      unfold lessF at hx
      rcases Int.lt_or_le 0 (lackR need (otherP l p) b).2 with h | h
      · obtain ⟨⟨s1, s2⟩, s3, -⟩ := lackR_spec h
        have h3 := can_iff.1 hx _ s1 s2
        rw [other_set l p hp] at h3
        have h4 := hall _ s1 s2
        rw [other_has l p hp] at h4
        unfold lackS at s3
        split at h3
        · omega
        · rename_i hmt
          rw [if_neg hmt] at h4
          omega
      · omega
theorem use_uniq {need : List Int} {l : List Pile} {b pile lo hi ee lo' hi' ee' : Int} (h : UseR need l b pile lo hi ee) (k : UseR need l b pile lo' hi' ee') : lo = lo' ∧ hi = hi' ∧ ee = ee' := by
  rcases h with ⟨a1, rfl, rfl, rfl⟩ | ⟨a1, a2, rfl, rfl, rfl⟩ | ⟨a1, a2, a3, rfl, rfl, rfl⟩ | ⟨a1, a2, rfl, p, hp, r, rfl, a3, rfl, rfl⟩
  · rcases k with ⟨b1, rfl, rfl, rfl⟩ | ⟨b1, -⟩ | ⟨b1, -⟩ | ⟨b1, -⟩
    · exact ⟨rfl, rfl, rfl⟩
    all_goals exact absurd b1 a1
  · rcases k with ⟨b1, -⟩ | ⟨b1, b2, rfl, rfl, rfl⟩ | ⟨b1, b2, -⟩ | ⟨b1, b2, rfl, q, hq, r', rfl, b3, rfl, rfl⟩
    · exact absurd a1 b1
    · exact ⟨rfl, rfl, rfl⟩
    · rw [a2] at b2; cases b2
    · rw [fromB_iff.2 ⟨by omega, by omega⟩] at a2; cases a2
  · rcases k with ⟨b1, -⟩ | ⟨b1, b2, -⟩ | ⟨b1, b2, b3, rfl, rfl, rfl⟩ | ⟨b1, b2, -⟩
    · exact absurd a1 b1
    · rw [a2] at b2; cases b2
    · exact ⟨rfl, rfl, rfl⟩
    · rw [a3] at b2; cases b2
  · rcases k with ⟨b1, -⟩ | ⟨b1, b2, -⟩ | ⟨b1, b2, b3, -⟩ | ⟨b1, b2, rfl, q, hq, r', e, b3, rfl, rfl⟩
    · exact absurd a1 b1
    · rw [fromB_iff.2 ⟨by omega, by omega⟩] at b2; cases b2
    · rw [a2] at b3; cases b3
    · obtain rfl : p = q := by omega
      obtain rfl := great_uniq a3 b3
      exact ⟨rfl, rfl, rfl⟩
theorem piles_take9 {W : World} {b off : Nat} {l : List Pile} (h : PilesAt W b off l) (k : Nat) : PilesAt W b off (l.take k) := fun i hi => by
  rw [List.length_take] at hi
  rw [List.getElem_take]
  exact h i (by omega)
theorem piles_drop9 {W : World} {b off : Nat} {l : List Pile} (h : PilesAt W b off l) (k : Nat) : PilesAt W b (off + k * 2) (l.drop k) := fun i hi => by
  rw [List.length_drop] at hi
  rw [List.getElem_drop, show off + k * 2 + i * 2 = off + (k + i) * 2 by omega]
  exact h (k + i) (by omega)
theorem own_pilesA {w : World} {B k : Nat} {v : Value} {l : List Pile} (h : w.ownsRow B 46 2 v k (pileV l)) (hk : l.length = k) : ∃ A cap, v = .slice A k cap ∧ PileSl w w.heap.size A l := by
  rcases h.2 with ⟨rfl, h2⟩ | ⟨g, cap, cur, rfl, -, -, -⟩
  · exact ⟨none, 0, by rw [h2], fun hne => absurd (List.eq_nil_of_length_eq_zero (by omega)) hne⟩
  · exact ⟨_, cap, rfl, own_piles9 h hk⟩
set_option maxRecDepth 100000 in
set_option maxHeartbeats 8000000 in
theorem ruse_any (w : World) (A B : Option Addr) (c d : Nat) (need : List Int) (l : List Pile) (b pile : Int) (hn : need.length ≤ 9223372036854775807) (hl : l.length ≤ 9223372036854775807) (hcap : l.length ≤ d) (hA : IntSl w w.heap.size A need) (hB : PileSl w w.heap.size B l) :
    Calls Try.prog 20 #[.slice A need.length c, .slice B l.length d, .int .i64 b, .int .i64 pile] w (RetUse need l b pile w) := by
  have hb0 : Below w.heap.size w (w.alloc (.cells #[.int .i64 0, .int .i64 0] 35)) := (Below.refl _ _).alloc (Nat.le_refl _) _
  have HA := Lib.hid hA
  have HBS := Lib.hid hB
  have HV := Lib.hid (rcheck_any _ A B c d need l b hn hl (hA.on hb0 (Nat.le_refl _)) (hB.on hb0 (Nat.le_refl _)))
  have HK0 := Lib.hid (And.intro hb0 (Blk.new w 35 #[.int .i64 0, .int .i64 0]))
  have HOK : Hid (errE need l b = 0 → boxOk need l = true ∧ 0 ≤ b ∧ b ≤ 1048576) := Lib.hid errE_0
  have HR : Hid (∀ lo hi ee W, UseR need l b pile lo hi ee → Below w.heap.size w W → RetUse need l b pile w (.returned (.tuple #[.agg #[.int .i64 lo, .int .i64 hi], .int .i64 ee])) W) := Lib.hid fun lo hi ee W h1 h2 => ⟨lo, hi, ee, rfl, h1, h2⟩
  have hl0 : (0 : Int) ≤ l.length := by omega
  have hl1 : (l.length : Int) ≤ 9223372036854775807 := by omega
  have hwl : IntKind.i64.wrap ((l.length : Int) - 1) = (l.length : Int) - 1 := IntWalk.i64_in _ ⟨by omega, by omega⟩
  obtain ⟨i0, hi, hz0, hz1, hz2⟩ := info9 pileInfo9
  have HI := Lib.hid (And.intro hi (And.intro hz0 (And.intro hz1 hz2)))
  clear hi hz0 hz1 hz2
  generalize RetUse need l b pile w = Q at *
  clear hA hB hb0
  go_enter Try.func20, Try.ntmps20
  go_upto_region 1 with fail
  generalize World.alloc w _ = w0 at *
  go_wp2_with fail
  refine HV.out.mono ?_
  rintro e w1 ⟨rfl, hb1⟩
  have HK1 := Lib.hid (And.intro (HK0.out.1.trans (hb1.mono HK0.out.1.size)) (HK0.out.2.below hb1 HK0.out.2.lt))
  clear hb1 HV HK0
  by_cases h0 : errE need l b = 0
  · have HE0 := Lib.hid h0
    obtain ⟨hok, hb0, hb1⟩ := HOK.out h0
    obtain ⟨hN, hP, hc1, hc8⟩ := ok_in hok
    have hn48 : ∀ n ∈ need, 0 ≤ n ∧ n ≤ 48 := by
      have h9 := hok
      unfold boxOk at h9
      rw [Bool.and_eq_true] at h9
      exact (need_parts h9.1).2.1
    have HN48 := Lib.hid hn48
    have HNI := Lib.hid hN
    have HPI := Lib.hid hP
    have HBOK := Lib.hid hok
    have HLK := Lib.hid (rlack_any w1 A B c d need l b hok ⟨hb0, hb1⟩ (HA.out.on HK1.out.1 (Nat.le_refl _)) (HBS.out.on HK1.out.1 (Nat.le_refl _)))
    have HCL : Hid (canB need l b = true ↔ (lackR need l b).2 = 0) := Lib.hid can_lack
    have HNN := Lib.hid (lack_nonneg need l b)
    clear hok hN hP hn48 HOK
    have c0 := HK1.out.2.cell 0
    have c1 := HK1.out.2.cell 1
    have f0 := HK1.out.2.frozen 0
    have f1 := HK1.out.2.frozen 1
    rw [h0]
    clear h0
    go_wp2_with fail
    refine (rin_any _ _ _ _).mono ?_
    rintro e w' ⟨rfl, rfl⟩
    cases hf : fromB pile 0 ((l.length : Int) - 1) with
    | false =>
      have hf2 := hf
      clear hf
      go_wp2_with fail
      have e8 := (HK1.out.2.set_ 0 (.int .i64 0)).set_ 1 (.int .i64 0)
      have eB := (HK1.out.1.setCell (p := ⟨w.heap.size, 0, none⟩) (Nat.le_refl _) (.int .i64 0)).setCell (p := ⟨w.heap.size, 1, none⟩) (Nat.le_refl _) (.int .i64 0)
      generalize World.setCell (World.setCell w1 _ _) _ _ = W9 at e8 eB ⊢
      have d0 := e8.cell 0
      have d1 := e8.cell 1
      exact bodyPost_ret (v := .tuple #[.agg #[.int .i64 0, .int .i64 0], .int .i64 2]) (by simp [results, Try.results20, go_sem, d0, d1]) rfl (HR.out 0 0 2 W9 (.inr (.inl ⟨HE0.out, hf2, rfl, rfl, rfl⟩)) eB)
    | true =>
      have HF := Lib.hid hf
      clear c0 c1 f0 f1
      go_wp2_with fail
      refine HLK.out.mono ?_
      rintro e w2 ⟨rfl, hb2⟩
      have HK3 := Lib.hid (And.intro (HK1.out.1.trans (hb2.mono HK1.out.1.size)) (HK1.out.2.below hb2 HK1.out.2.lt))
      clear hb2 HK1 HLK
      by_cases hpos : 0 < (lackR need l b).2
      · have hcan : canB need l b = false := by
          cases h : canB need l b with
          | false => rfl
          | true => have := HCL.out.1 h; omega
        have HCF := Lib.hid hcan
        have c0 := HK3.out.2.cell 0
        have c1 := HK3.out.2.cell 1
        have f0 := HK3.out.2.frozen 0
        have f1 := HK3.out.2.frozen 1
        clear hcan HCL HNN
        go_wp2_with fail
        have e8 := (HK3.out.2.set_ 0 (.int .i64 0)).set_ 1 (.int .i64 0)
        have eB := (HK3.out.1.setCell (p := ⟨w.heap.size, 0, none⟩) (Nat.le_refl _) (.int .i64 0)).setCell (p := ⟨w.heap.size, 1, none⟩) (Nat.le_refl _) (.int .i64 0)
        generalize World.setCell (World.setCell w2 _ _) _ _ = W9 at e8 eB ⊢
        have d0 := e8.cell 0
        have d1 := e8.cell 1
        exact bodyPost_ret (v := .tuple #[.agg #[.int .i64 0, .int .i64 0], .int .i64 10]) (by simp [results, Try.results20, go_sem, d0, d1]) rfl (HR.out 0 0 10 W9 (.inr (.inr (.inl ⟨HE0.out, HF.out, HCF.out, rfl, rfl, rfl⟩))) eB)
      · have hcan : canB need l b = true := HCL.out.2 (by have := HNN.out; omega)
        have hf3 := fromB_iff.1 HF.out
        obtain ⟨p, rfl⟩ := Int.eq_ofNat_of_zero_le hf3.1
        have hp : p < l.length := by omega
        have hpi : (p : Int) < l.length := by omega
        have hp0 : (0 : Int) ≤ p := by omega
        have hpd : (p : Int) ≤ d := by omega
        have hpl : (p : Int) + 1 ≤ l.length := by omega
        have hll9 : (l.length : Int) ≤ d := by omega
        have hl8 := HPI.out.1
        have hwp : IntKind.i64.wrap ((p : Int) + 1) = (p : Int) + 1 := IntWalk.i64_in _ ⟨by omega, by omega⟩
        have hp1 : (0 : Int) ≤ (p : Int) + 1 := by omega
        obtain ⟨gb, offb, rfl, hgb, hat⟩ := HBS.out (by intro e; rw [e] at hp; simp at hp)
        obtain ⟨⟨s0, s1⟩, m0, m1⟩ := HPI.out.2 l[p] (List.getElem_mem hp)
        obtain ⟨sh, hsh⟩ := Int.eq_ofNat_of_zero_le s0
        have hsh8 : sh < 256 := by omega
        have HGR := Lib.hid (other_great (fun q hq => (HPI.out.2 q hq).2.1) hcan hp)
        have hol : (otherP l p).length = l.length - 1 := by unfold otherP; rw [List.length_append, List.length_take, List.length_drop]; omega
        have HOO : Hid (boxOk need (otherP l p) = true) := Lib.hid (ok_other HBOK.out (by omega) fun q hq => by
          unfold otherP at hq
          rcases List.mem_append.1 hq with hq | hq
          · exact List.mem_of_mem_take hq
          · exact List.mem_of_mem_drop hq)
        have HRL : Hid (∀ (W : World) AO cap, IntSl W W.heap.size A need → PileSl W W.heap.size AO (otherP l p) → Calls Try.prog 46 #[.slice A need.length c, .slice AO (l.length - 1) cap, .int .i64 b] W (Ret (.tuple #[.int .i64 ((lackR need (otherP l p) b).1 : Int), .int .i64 (lackR need (otherP l p) b).2]) W)) := Lib.hid fun W AO cap h1 h2 => by
          have := rlack_any W A AO c cap need (otherP l p) b HOO.out ⟨hb0, hb1⟩ h1 h2
          rwa [hol] at this
        have HND : Hid (∀ W : World, Below w.heap.size w W → Calls Try.prog 24 #[.slice A need.length c, .int .i64 (sh : Int)] W fun e w' => e = .returned (.int .i64 (needS need sh)) ∧ W = w') := Lib.hid fun W h => rNeeds_any W A c sh need hsh8 HNI.out (HA.out.on h (Nat.le_refl _))
        obtain ⟨n0, n1⟩ := need_bd HNI.out sh
        have n2 := (needF_bd need sh 0 HN48.out).2
        change needS need sh ≤ _ at n2
        have b0 : 0 ≤ b * needS need sh := Int.mul_nonneg hb0 n0
        have b1 : b * needS need sh ≤ 1048576 * 384 := Int.mul_le_mul hb1 (by omega) n0 (by omega)
        have hwm : IntKind.i64.wrap (b * needS need sh) = b * needS need sh := IntWalk.i64_in _ ⟨by omega, by omega⟩
        have HR9 : Hid (∀ W, Below w.heap.size w W → Q (.returned (.tuple #[.agg #[.int .i64 (lackR need (otherP l p) b).2, .int .i64 (if b * needS need sh < l[p].many then b * needS need sh else l[p].many)], .int .i64 0])) W) := Lib.hid fun W h2 => HR.out _ _ _ W (.inr (.inr (.inr ⟨HE0.out, hcan, rfl, p, hp, _, rfl, HGR.out, by omega, by rw [hsh, Int.toNat_natCast, Int.min_def, Int.mul_comm]; split <;> split <;> omega⟩))) h2
        have HRD : Hid (∀ W9 : World, Below w.heap.size w W9 → W9.cell? ⟨gb, offb + p * 2, none⟩ = some (.int .i64 (sh : Int)) ∧ W9.cell? ⟨gb, offb + p * 2 + 1, none⟩ = some (.int .i64 l[p].many)) := Lib.hid fun W9 h9 => ⟨(h9.cell (p := ⟨gb, _, none⟩) hgb).trans (by rw [← hsh]; exact (hat p hp).1), (h9.cell (p := ⟨gb, _, none⟩) hgb).trans (hat p hp).2⟩
        have HNW : Hid (∀ W, Below w.heap.size w W → ∀ (j : Nat) u, (pileV (l.take p))[j]? = some u → W.cell? ((⟨gb, offb, none⟩ : Addr).add j) = some u) := Lib.hid fun W hW => pile_cells9 (piles_take9 (PilesAt.below hat hW hgb) p)
        have HNX : Hid (∀ W, Below w.heap.size w W → ∀ (j : Nat) u, (pileV (l.drop (p + 1)))[j]? = some u → W.cell? ((⟨gb, offb + (p + 1) * 2, none⟩ : Addr).add j) = some u) := Lib.hid fun W hW => pile_cells9 (piles_drop9 (PilesAt.below hat hW hgb) (p + 1))
        have HPV : Hid (pileV (l.take p) ++ pileV (l.drop (p + 1)) = pileV (otherP l p)) := Lib.hid (by
          have : ∀ (a b : List Pile), pileV (a ++ b) = pileV a ++ pileV b := by
            intro a b
            induction a with
            | nil => rfl
            | cons q a ih => simp only [List.cons_append, pileV, ih]
          rw [otherP, this])
        have hlt : (pileV (l.take p)).length = p * 2 := by rw [pileV_len, List.length_take, Nat.min_eq_left (Nat.le_of_lt hp)]
        have hwH : w.heap.size ≤ w2.heap.size := HK3.out.1.size
        have hgu9 := HK3.out.2.lt
        have HHOL := Lib.hid hol
        clear hat s0 s1 m0 m1 hf3 HR hcan HCL HNN HGR HOO HPI HNI HN48 HBOK HBS hol hsh n0 n1 n2 b0 b1
        generalize l[p].many = mn at *
        generalize needS need sh = ns at *
        generalize lackR need (otherP l p) b = lk at *
        obtain ⟨lk1, lk2⟩ := lk
        dsimp only at HRL HR9
        go_upto_region 9 with fail
        have HD := Lib.hid (Below.refl w2.heap.size w2).drew
        by_cases hd1 : d = p + 1
        · subst hd1
          have hpd1 : (p : Int) ≤ (p : Int) + 1 := by omega
          have hlp1 : l.length = p + 1 := by omega
          have hdrop : l.drop (p + 1) = [] := by rw [← hlp1]; exact List.drop_length
          have HLN := Lib.hid (And.intro hlp1 hdrop)
          clear hlp1 hdrop
          refine wp_region_held_drew (S := fun W9 => Below w2.heap.size w2 W9) (by kernel_rfl) HD.out (fun hH0 => ?_)
          generalize World.drew _ = V0 at *
          simp only [List.size_toArray, List.length_cons, List.length_nil, Nat.reduceAdd, Array.replicate_succ, Array.replicate_zero, List.push_toArray, List.nil_append, List.cons_append]
          refine wpAnyH_take (i := 1 ) (v := ?_) rfl (by kernel_rfl) (by kernel_rfl) (by kernel_rfl) (fun _ _ _ h => h) (Or.inl ⟨by rfl, ?_⟩) (by assumption) ?_; rotate_left; (· (intro w0 hSw; obtain ⟨y0, y1⟩ := HRD.out _ (HK3.out.1.trans (Below.mono hSw HK3.out.1.size)); clear hSw; go_simp); first | done | with_reducible rfl); (try simp only [Act.put, List.getElem_toArray, List.setIfInBounds_toArray, List.set_cons_zero, List.set_cons_succ])
          refine wpAnyH_take (i := 2 ) (v := ?_) rfl (by kernel_rfl) (by kernel_rfl) (by kernel_rfl) (fun _ _ _ h => h) (Or.inl ⟨by rfl, ?_⟩) (by assumption) ?_; rotate_left; (· (intro w0 hSw; obtain ⟨y0, y1⟩ := HRD.out _ (HK3.out.1.trans (Below.mono hSw HK3.out.1.size)); clear hSw; go_simp); first | done | with_reducible rfl); (try simp only [Act.put, List.getElem_toArray, List.getElem_cons_succ, List.getElem_cons_zero, List.setIfInBounds_toArray, List.set_cons_zero, List.set_cons_succ])
          refine wpAnyH_take (i := 3 ) (v := ?_) rfl (by kernel_rfl) (by kernel_rfl) (by kernel_rfl) (fun _ _ _ h => h) (Or.inl ⟨by rfl, ?_⟩) (by assumption) ?_; rotate_left; (· (intro w0 hSw; obtain ⟨y0, y1⟩ := HRD.out _ (HK3.out.1.trans (Below.mono hSw HK3.out.1.size)); clear hSw; go_simp); first | done | with_reducible rfl); (try simp only [Act.put, List.getElem_toArray, List.getElem_cons_succ, List.getElem_cons_zero, List.setIfInBounds_toArray, List.set_cons_zero, List.set_cons_succ])
          refine wpAnyH_take (i := 5 ) (v := ?_) rfl (by kernel_rfl) (by kernel_rfl) (by kernel_rfl) (fun _ _ _ h => h) (Or.inl ⟨by rfl, ?_⟩) (by assumption) ?_; rotate_left; (· (intro w0 hSw; obtain ⟨y0, y1⟩ := HRD.out _ (HK3.out.1.trans (Below.mono hSw HK3.out.1.size)); clear hSw; go_simp); first | done | with_reducible rfl); (try simp only [Act.put, List.getElem_toArray, List.getElem_cons_succ, List.getElem_cons_zero, List.setIfInBounds_toArray, List.set_cons_zero, List.set_cons_succ])
          refine wpAnyH_take (i := 6 ) (v := ?_) rfl (by kernel_rfl) (by kernel_rfl) (by kernel_rfl) (fun _ _ _ h => h) (Or.inl ⟨by rfl, ?_⟩) (by assumption) ?_; rotate_left; (· (intro w0 hSw; obtain ⟨y0, y1⟩ := HRD.out _ (HK3.out.1.trans (Below.mono hSw HK3.out.1.size)); clear hSw; go_simp); first | done | with_reducible rfl); (try simp only [Act.put, List.getElem_toArray, List.getElem_cons_succ, List.getElem_cons_zero, List.setIfInBounds_toArray, List.set_cons_zero, List.set_cons_succ])
          refine wpAnyH_take (i := 7 ) (v := ?_) rfl (by kernel_rfl) (by kernel_rfl) (by kernel_rfl) (fun _ _ _ h => h) (Or.inl ⟨by rfl, ?_⟩) (by assumption) ?_; rotate_left; (· (intro w0 hSw; obtain ⟨y0, y1⟩ := HRD.out _ (HK3.out.1.trans (Below.mono hSw HK3.out.1.size)); clear hSw; go_simp); first | done | with_reducible rfl); (try simp only [Act.put, List.getElem_toArray, List.getElem_cons_succ, List.getElem_cons_zero, List.setIfInBounds_toArray, List.set_cons_zero, List.set_cons_succ])
          refine wpAnyH_take (i := 8 ) (v := ?_) rfl (by kernel_rfl) (by kernel_rfl) (by kernel_rfl) (fun _ _ _ h => h) (Or.inl ⟨by rfl, ?_⟩) (by assumption) ?_; rotate_left; (· (intro w0 hSw; obtain ⟨y0, y1⟩ := HRD.out _ (HK3.out.1.trans (Below.mono hSw HK3.out.1.size)); clear hSw; go_simp); first | done | with_reducible rfl); (try simp only [Act.put, List.getElem_toArray, List.getElem_cons_succ, List.getElem_cons_zero, List.setIfInBounds_toArray, List.set_cons_zero, List.set_cons_succ])
          refine wpAnyH_ready (rs := [0]) (by kernel_rfl) (by simp) ?_
          refine AllReadyH.cons (by simp only [List.getElem?_toArray, List.getElem?_cons_zero]; rfl) (fun K hK => ?_) AllReadyH.nil
          go_simp
          have HO := Lib.hid (own_zero9 (t := 46) V0 w2.heap.size HD.out.size 2)
          replace HD := Lib.hid (HD.out.alloc HD.out.size (.cells #[] 46))
          generalize hV1 : World.alloc V0 _ = V1 at *
          clear hV1
          refine hK.out _ _ HD.out (fun hH1 => ?_)
          clear hK K
          try simp only [List.setIfInBounds_toArray, List.set_cons_zero]
          refine wpAnyH_ready (rs := [4]) (by kernel_rfl) (by simp) ?_
          refine AllReadyH.cons (by simp only [List.getElem?_toArray, List.getElem?_cons_succ, List.getElem?_cons_zero]; rfl) (fun K hK => ?_) AllReadyH.nil
          rw [if_pos (by rfl)]
          refine wp_append_own _ _ _ 23 (by rfl) w2.heap.size 46 i0 _ 2 16 und_piles9 HI.out.1 HI.out.2.1 HI.out.2.2.1 HI.out.2.2.2 rfl (by decide) (.slice (some ⟨V0.heap.size, 0, none⟩) 0 0) 0 _ (by rfl) HO.out ⟨gb, offb, none⟩ p (p + 1) (pileV (l.take p)) (by rfl) hlt (HNW.out V1 (HK3.out.1.trans (HD.out.mono HK3.out.1.size))) (pileV_one _)  (by unfold maxLen; omega) (by omega) HD.out.size ?_
          intro v1 V2 hown hgr hnn
          clear hnn
          simp only [Act.put, List.setIfInBounds_toArray, List.set_cons_zero, List.set_cons_succ]
          replace HD := Lib.hid (Below.grown HD.out hgr HD.out.size fun j e => (HO.out.lt j e).1)
          replace HO := Lib.hid hown
          clear hown hgr
          rw [Nat.zero_add, List.nil_append] at HO
          refine hK.out _ _ HD.out (fun hH2 => ?_)
          clear hK K
          try simp only [List.setIfInBounds_toArray, List.set_cons_zero, List.set_cons_succ]
          refine wpAnyH_ready (rs := [9]) (by kernel_rfl) (by simp) ?_
          refine AllReadyH.cons (by simp only [List.getElem?_toArray, List.getElem?_cons_succ, List.getElem?_cons_zero]; rfl) (fun K hK => ?_) AllReadyH.nil
          rw [if_pos (by rfl)]
          refine wp_append_own _ _ _ 23 (by rfl) w2.heap.size 46 i0 _ 2 16 und_piles9 HI.out.1 HI.out.2.1 HI.out.2.2.1 HI.out.2.2.2 rfl (by decide) v1 p _ (by rfl) HO.out ⟨gb, offb, none⟩ 0 0 [] (by rfl) (by rfl) (fun j u hj => by simp at hj) (fun u hu => by simp at hu)  (by unfold maxLen; omega) (by omega) HD.out.size ?_
          intro v2 V3 hown hgr hnn
          clear hnn
          simp only [Act.put, List.setIfInBounds_toArray, List.set_cons_zero, List.set_cons_succ]
          replace HD := Lib.hid (Below.grown HD.out hgr HD.out.size fun j e => (HO.out.lt j e).1)
          replace HO := Lib.hid hown
          clear hown hgr
          refine hK.out _ _ HD.out (fun hH3 => ?_)
          clear hK K
          try simp only [List.setIfInBounds_toArray, List.set_cons_zero, List.set_cons_succ]
          refine wpAnyH_take (i := 10 ) (v := ?_) rfl (by kernel_rfl) (by kernel_rfl) (by kernel_rfl) (fun _ _ _ h => h) (Or.inl ⟨by rfl, ?_⟩) (by assumption) ?_; rotate_left; (· (intro w0 hSw; obtain ⟨y0, y1⟩ := HRD.out _ (HK3.out.1.trans (Below.mono hSw HK3.out.1.size)); clear hSw; go_simp); first | done | with_reducible rfl); (try simp only [Act.put, List.getElem_toArray, List.getElem_cons_succ, List.getElem_cons_zero, List.setIfInBounds_toArray, List.set_cons_zero, List.set_cons_succ])
          refine wpAnyH_done (by kernel_rfl) ?_ _
          rw [show p + 0 = l.length - 1 by rw [HLN.out.1]; omega, show pileV (l.take p) ++ [] = pileV (otherP l p) by rw [← HPV.out, HLN.out.2]; simp [pileV]] at HO
          obtain ⟨AO, co, rfl, hpo⟩ := own_pilesA HO.out HHOL.out
          have HK4 := Lib.hid (And.intro (HK3.out.1.trans (HD.out.mono HK3.out.1.size)) (HK3.out.2.below HD.out HK3.out.2.lt))
          have HPO := Lib.hid hpo
          clear hpo HO HNW HNX HPV HK3 hH0 hH1 hH2 hH3
          go_wp2_with fail
          refine (HRL.out _ AO co (HA.out.on HK4.out.1 (Nat.le_refl _)) HPO.out).mono ?_
          rintro e w5 ⟨rfl, hb5⟩
          have HK5 := Lib.hid (And.intro (HK4.out.1.trans (hb5.mono HK4.out.1.size)) (HK4.out.2.below hb5 HK4.out.2.lt))
          clear hb5 HPO HRL HK4 HD
          go_upto_region 11 with fail
          have HE := Lib.hid (And.intro HK5.out.1.drew (HK5.out.2.below (Below.refl _ _).drew HK5.out.2.lt))
          clear HK5
          refine wp_region_held_drew (S := fun W9 => Below w.heap.size w W9) (by kernel_rfl) HE.out.1 (fun hH0 => ?_)
          generalize World.drew _ = V0 at *
          simp only [List.size_toArray, List.length_cons, List.length_nil, Nat.reduceAdd, Array.replicate_succ, Array.replicate_zero, List.push_toArray, List.nil_append, List.cons_append]
          refine wpAnyH_take (i := 0 ) (v := ?_) rfl (by kernel_rfl) (by kernel_rfl) (by kernel_rfl) (fun _ _ _ h => h) (Or.inl ⟨by rfl, ?_⟩) (by assumption) ?_; rotate_left; (· (intro w0 hSw; obtain ⟨y0, y1⟩ := HRD.out _ hSw; clear hSw; go_simp); first | done | with_reducible rfl); (try simp only [Act.put, List.getElem_toArray, List.getElem_cons_zero, List.setIfInBounds_toArray, List.set_cons_zero, List.set_cons_succ])
          refine wpAnyH_take (i := 1 ) (v := ?_) rfl (by kernel_rfl) (by kernel_rfl) (by kernel_rfl) (fun _ _ _ h => h) (Or.inl ⟨by rfl, ?_⟩) (by assumption) ?_; rotate_left; (· (intro w0 hSw; obtain ⟨y0, y1⟩ := HRD.out _ hSw; clear hSw; go_simp); first | done | with_reducible rfl); (try simp only [Act.put, List.getElem_toArray, List.getElem_cons_succ, List.getElem_cons_zero, List.setIfInBounds_toArray, List.set_cons_zero, List.set_cons_succ])
          refine wpAnyH_take (i := 2 ) (v := ?_) rfl (by kernel_rfl) (by kernel_rfl) (by kernel_rfl) (fun _ _ _ h => h) (Or.inl ⟨by rfl, ?_⟩) (by assumption) ?_; rotate_left; (· (intro w0 hSw; obtain ⟨y0, y1⟩ := HRD.out _ hSw; clear hSw; go_simp); first | done | with_reducible rfl); (try simp only [Act.put, List.getElem_toArray, List.getElem_cons_succ, List.getElem_cons_zero, List.setIfInBounds_toArray, List.set_cons_zero, List.set_cons_succ])
          refine wpAnyH_take (i := 3 ) (v := ?_) rfl (by kernel_rfl) (by kernel_rfl) (by kernel_rfl) (fun _ _ _ h => h) (Or.inl ⟨by rfl, ?_⟩) (by assumption) ?_; rotate_left; (· (intro w0 hSw; obtain ⟨y0, y1⟩ := HRD.out _ hSw; clear hSw; go_simp); first | done | with_reducible rfl); (try simp only [Act.put, List.getElem_toArray, List.getElem_cons_succ, List.getElem_cons_zero, List.setIfInBounds_toArray, List.set_cons_zero, List.set_cons_succ])
          refine wpAnyH_take (i := 4 ) (v := ?_) rfl (by kernel_rfl) (by kernel_rfl) (by kernel_rfl) (fun _ _ _ h => h) (Or.inl ⟨by rfl, ?_⟩) (by assumption) ?_; rotate_left; (· (intro w0 hSw; obtain ⟨y0, y1⟩ := HRD.out _ hSw; clear hSw; go_simp); first | done | with_reducible rfl); (try simp only [Act.put, List.getElem_toArray, List.getElem_cons_succ, List.getElem_cons_zero, List.setIfInBounds_toArray, List.set_cons_zero, List.set_cons_succ])
          refine wpAnyH_take (i := 5 ) (v := ?_) rfl (by kernel_rfl) (by kernel_rfl) (by kernel_rfl) (fun _ _ _ h => h) (Or.inl ⟨by rfl, ?_⟩) (by assumption) ?_; rotate_left; (· (intro w0 hSw; obtain ⟨y0, y1⟩ := HRD.out _ hSw; clear hSw; go_simp); first | done | with_reducible rfl); (try simp only [Act.put, List.getElem_toArray, List.getElem_cons_succ, List.getElem_cons_zero, List.setIfInBounds_toArray, List.set_cons_zero, List.set_cons_succ])
          refine wpAnyH_take (i := 6 ) (v := ?_) rfl (by kernel_rfl) (by kernel_rfl) (by kernel_rfl) (fun _ _ _ h => h) (Or.inl ⟨by rfl, ?_⟩) (by assumption) ?_; rotate_left; (· (intro w0 hSw; obtain ⟨y0, y1⟩ := HRD.out _ hSw; clear hSw; go_simp); first | done | with_reducible rfl); (try simp only [Act.put, List.getElem_toArray, List.getElem_cons_succ, List.getElem_cons_zero, List.setIfInBounds_toArray, List.set_cons_zero, List.set_cons_succ])
          refine wpAnyH_take (i := 7 ) (v := ?_) rfl (by kernel_rfl) (by kernel_rfl) (by kernel_rfl) (fun _ _ _ h => h) (Or.inl ⟨by rfl, ?_⟩) (by assumption) ?_; rotate_left; (· (intro w0 hSw; obtain ⟨y0, y1⟩ := HRD.out _ hSw; clear hSw; go_simp); first | done | with_reducible rfl); (try simp only [Act.put, List.getElem_toArray, List.getElem_cons_succ, List.getElem_cons_zero, List.setIfInBounds_toArray, List.set_cons_zero, List.set_cons_succ])
          refine wpAnyH_take (i := 8 ) (v := ?_) rfl (by kernel_rfl) (by kernel_rfl) (by kernel_rfl) (fun _ _ _ h => h) (Or.inl ⟨by rfl, ?_⟩) (by assumption) ?_; rotate_left; (· (intro w0 hSw; obtain ⟨y0, y1⟩ := HRD.out _ hSw; clear hSw; go_simp); first | done | with_reducible rfl); (try simp only [Act.put, List.getElem_toArray, List.getElem_cons_succ, List.getElem_cons_zero, List.setIfInBounds_toArray, List.set_cons_zero, List.set_cons_succ])
          refine wpAnyH_take (i := 9 ) (v := ?_) rfl (by kernel_rfl) (by kernel_rfl) (by kernel_rfl) (fun _ _ _ h => h) (Or.inl ⟨by rfl, ?_⟩) (by assumption) ?_; rotate_left; (· (intro w0 hSw; obtain ⟨y0, y1⟩ := HRD.out _ hSw; clear hSw; go_simp); first | done | with_reducible rfl); (try simp only [Act.put, List.getElem_toArray, List.getElem_cons_succ, List.getElem_cons_zero, List.setIfInBounds_toArray, List.set_cons_zero, List.set_cons_succ])
          refine wpAnyH_take (i := 10 ) (v := ?_) rfl (by kernel_rfl) (by kernel_rfl) (by kernel_rfl) (fun _ _ _ h => h) (Or.inl ⟨by rfl, ?_⟩) (by assumption) ?_; rotate_left; (· (intro w0 hSw; obtain ⟨y0, y1⟩ := HRD.out _ hSw; clear hSw; go_simp); first | done | with_reducible rfl); (try simp only [Act.put, List.getElem_toArray, List.getElem_cons_succ, List.getElem_cons_zero, List.setIfInBounds_toArray, List.set_cons_zero, List.set_cons_succ])
          refine wpAnyH_take (i := 11 ) (v := ?_) rfl (by kernel_rfl) (by kernel_rfl) (by kernel_rfl) (fun _ _ _ h => h) (Or.inl ⟨by rfl, ?_⟩) (by assumption) ?_; rotate_left; (· (intro w0 hSw; obtain ⟨y0, y1⟩ := HRD.out _ hSw; clear hSw; go_simp); first | done | with_reducible rfl); (try simp only [Act.put, List.getElem_toArray, List.getElem_cons_succ, List.getElem_cons_zero, List.setIfInBounds_toArray, List.set_cons_zero, List.set_cons_succ])
          refine wpAnyH_take (i := 12 ) (v := ?_) rfl (by kernel_rfl) (by kernel_rfl) (by kernel_rfl) (fun _ _ _ h => h) (Or.inl ⟨by rfl, ?_⟩) (by assumption) ?_; rotate_left; (· (intro w0 hSw; obtain ⟨y0, y1⟩ := HRD.out _ hSw; clear hSw; go_simp); first | done | with_reducible rfl); (try simp only [Act.put, List.getElem_toArray, List.getElem_cons_succ, List.getElem_cons_zero, List.setIfInBounds_toArray, List.set_cons_zero, List.set_cons_succ])
          refine wpAnyH_ready (rs := [13]) (by kernel_rfl) (by simp) ?_
          refine AllReadyH.cons (by simp only [List.getElem?_toArray, List.getElem?_cons_succ, List.getElem?_cons_zero]; rfl) (fun K hK => ?_) AllReadyH.nil
          go_simp
          refine (HND.out _ HE.out.1).mono ?_
          rintro e X9 ⟨rfl, rfl⟩
          refine hK.out _ _ HE.out.1 (fun hH1 => ?_)
          clear hK K
          try simp only [List.setIfInBounds_toArray, List.set_cons_zero, List.set_cons_succ]
          refine wpAnyH_take (i := 14 ) (v := ?_) rfl (by kernel_rfl) (by kernel_rfl) (by kernel_rfl) (fun _ _ _ h => h) (Or.inl ⟨by rfl, ?_⟩) (by assumption) ?_; rotate_left; (· (intro w0 hSw; obtain ⟨y0, y1⟩ := HRD.out _ hSw; clear hSw; go_simp); first | done | with_reducible rfl); (try simp only [Act.put, List.getElem_toArray, List.getElem_cons_succ, List.getElem_cons_zero, List.setIfInBounds_toArray, List.set_cons_zero, List.set_cons_succ])
          refine wpAnyH_take (i := 15 ) (v := ?_) rfl (by kernel_rfl) (by kernel_rfl) (by kernel_rfl) (fun _ _ _ h => h) (Or.inl ⟨by rfl, ?_⟩) (by assumption) ?_; rotate_left; (· (intro w0 hSw; obtain ⟨y0, y1⟩ := HRD.out _ hSw; clear hSw; go_simp); first | done | with_reducible rfl); (try simp only [Act.put, List.getElem_toArray, List.getElem_cons_succ, List.getElem_cons_zero, List.setIfInBounds_toArray, List.set_cons_zero, List.set_cons_succ])
          refine wpAnyH_take (i := 16 ) (v := ?_) rfl (by kernel_rfl) (by kernel_rfl) (by kernel_rfl) (fun _ _ _ h => h) (Or.inl ⟨by rfl, ?_⟩) (by assumption) ?_; rotate_left; (· (intro w0 hSw; obtain ⟨y0, y1⟩ := HRD.out _ hSw; clear hSw; go_simp); first | done | with_reducible rfl); (try simp only [Act.put, List.getElem_toArray, List.getElem_cons_succ, List.getElem_cons_zero, List.setIfInBounds_toArray, List.set_cons_zero, List.set_cons_succ])
          refine wpAnyH_ready (rs := [17]) (by kernel_rfl) (by simp) ?_
          refine AllReadyH.cons (by simp only [List.getElem?_toArray, List.getElem?_cons_succ, List.getElem?_cons_zero]; rfl) (fun K hK => ?_) AllReadyH.nil
          rw [if_pos (by rfl)]
          refine wp_store_mid 35 (.tmp 8) (.tmp 74) (by rfl) w.heap.size 0 #[.int .i64 lk2, .int .i64 (if b * ns < mn then b * ns else mn)] (by rfl) (by rfl) (there9 (o := 0) HE.out.2 (by simp)) (by kernel_rfl) (by simp [Value.oneCell']) ?_
          replace HE := Lib.hid (And.intro (sets9_below (x := .int .i64 lk2) (y := .int .i64 (if b * ns < mn then b * ns else mn)) HE.out.1 (Nat.le_refl _)) (sets9_blk (x := .int .i64 lk2) (y := .int .i64 (if b * ns < mn then b * ns else mn)) HE.out.2))
          refine hK.out _ _ HE.out.1 (fun hH2 => ?_)
          clear hK K
          try simp only [List.setIfInBounds_toArray, List.set_cons_zero, List.set_cons_succ]
          refine wpAnyH_take (i := 18 ) (v := ?_) rfl (by kernel_rfl) (by kernel_rfl) (by kernel_rfl) (fun _ _ _ h => h) (Or.inl ⟨by rfl, ?_⟩) (by assumption) ?_; rotate_left; (· (intro w0 hSw; obtain ⟨y0, y1⟩ := HRD.out _ hSw; clear hSw; go_simp); first | done | with_reducible rfl); (try simp only [Act.put, List.getElem_toArray, List.getElem_cons_succ, List.getElem_cons_zero, List.setIfInBounds_toArray, List.set_cons_zero, List.set_cons_succ])
          refine wpAnyH_done (by kernel_rfl) ?_ _
          generalize (if b * ns < mn then b * ns else mn) = mi at *
          go_wp2_with fail
          have d0 := HE.out.2.cell 0
          have d1 := HE.out.2.cell 1
          exact bodyPost_ret (v := .tuple #[.agg #[.int .i64 lk2, .int .i64 mi], .int .i64 0]) (by simp [results, Try.results20, go_sem, d0, d1]) rfl (HR9.out _ HE.out.1)
        · refine wp_region_held_drew (S := fun W9 => Below w2.heap.size w2 W9) (by kernel_rfl) HD.out (fun hH0 => ?_)
          generalize World.drew _ = V0 at *
          simp only [List.size_toArray, List.length_cons, List.length_nil, Nat.reduceAdd, Array.replicate_succ, Array.replicate_zero, List.push_toArray, List.nil_append, List.cons_append]
          refine wpAnyH_take (i := 1 ) (v := ?_) rfl (by kernel_rfl) (by kernel_rfl) (by kernel_rfl) (fun _ _ _ h => h) (Or.inl ⟨by rfl, ?_⟩) (by assumption) ?_; rotate_left; (· (intro w0 hSw; obtain ⟨y0, y1⟩ := HRD.out _ (HK3.out.1.trans (Below.mono hSw HK3.out.1.size)); clear hSw; go_simp); first | done | with_reducible rfl); (try simp only [Act.put, List.getElem_toArray, List.setIfInBounds_toArray, List.set_cons_zero, List.set_cons_succ])
          refine wpAnyH_take (i := 2 ) (v := ?_) rfl (by kernel_rfl) (by kernel_rfl) (by kernel_rfl) (fun _ _ _ h => h) (Or.inl ⟨by rfl, ?_⟩) (by assumption) ?_; rotate_left; (· (intro w0 hSw; obtain ⟨y0, y1⟩ := HRD.out _ (HK3.out.1.trans (Below.mono hSw HK3.out.1.size)); clear hSw; go_simp); first | done | with_reducible rfl); (try simp only [Act.put, List.getElem_toArray, List.getElem_cons_succ, List.getElem_cons_zero, List.setIfInBounds_toArray, List.set_cons_zero, List.set_cons_succ])
          refine wpAnyH_take (i := 3 ) (v := ?_) rfl (by kernel_rfl) (by kernel_rfl) (by kernel_rfl) (fun _ _ _ h => h) (Or.inl ⟨by rfl, ?_⟩) (by assumption) ?_; rotate_left; (· (intro w0 hSw; obtain ⟨y0, y1⟩ := HRD.out _ (HK3.out.1.trans (Below.mono hSw HK3.out.1.size)); clear hSw; go_simp); first | done | with_reducible rfl); (try simp only [Act.put, List.getElem_toArray, List.getElem_cons_succ, List.getElem_cons_zero, List.setIfInBounds_toArray, List.set_cons_zero, List.set_cons_succ])
          refine wpAnyH_take (i := 5 ) (v := ?_) rfl (by kernel_rfl) (by kernel_rfl) (by kernel_rfl) (fun _ _ _ h => h) (Or.inl ⟨by rfl, ?_⟩) (by assumption) ?_; rotate_left; (· (intro w0 hSw; obtain ⟨y0, y1⟩ := HRD.out _ (HK3.out.1.trans (Below.mono hSw HK3.out.1.size)); clear hSw; go_simp); first | done | with_reducible rfl); (try simp only [Act.put, List.getElem_toArray, List.getElem_cons_succ, List.getElem_cons_zero, List.setIfInBounds_toArray, List.set_cons_zero, List.set_cons_succ])
          refine wpAnyH_take (i := 6 ) (v := ?_) rfl (by kernel_rfl) (by kernel_rfl) (by kernel_rfl) (fun _ _ _ h => h) (Or.inl ⟨by rfl, ?_⟩) (by assumption) ?_; rotate_left; (· (intro w0 hSw; obtain ⟨y0, y1⟩ := HRD.out _ (HK3.out.1.trans (Below.mono hSw HK3.out.1.size)); clear hSw; go_simp); first | done | with_reducible rfl); (try simp only [Act.put, List.getElem_toArray, List.getElem_cons_succ, List.getElem_cons_zero, List.setIfInBounds_toArray, List.set_cons_zero, List.set_cons_succ])
          refine wpAnyH_take (i := 7 ) (v := ?_) rfl (by kernel_rfl) (by kernel_rfl) (by kernel_rfl) (fun _ _ _ h => h) (Or.inl ⟨by rfl, ?_⟩) (by assumption) ?_; rotate_left; (· (intro w0 hSw; obtain ⟨y0, y1⟩ := HRD.out _ (HK3.out.1.trans (Below.mono hSw HK3.out.1.size)); clear hSw; go_simp); first | done | with_reducible rfl); (try simp only [Act.put, List.getElem_toArray, List.getElem_cons_succ, List.getElem_cons_zero, List.setIfInBounds_toArray, List.set_cons_zero, List.set_cons_succ])
          refine wpAnyH_take (i := 8 ) (v := ?_) rfl (by kernel_rfl) (by kernel_rfl) (by kernel_rfl) (fun _ _ _ h => h) (Or.inl ⟨by rfl, ?_⟩) (by assumption) ?_; rotate_left; (· (intro w0 hSw; obtain ⟨y0, y1⟩ := HRD.out _ (HK3.out.1.trans (Below.mono hSw HK3.out.1.size)); clear hSw; go_simp); first | done | with_reducible rfl); (try simp only [Act.put, List.getElem_toArray, List.getElem_cons_succ, List.getElem_cons_zero, List.setIfInBounds_toArray, List.set_cons_zero, List.set_cons_succ])
          refine wpAnyH_ready (rs := [0]) (by kernel_rfl) (by simp) ?_
          refine AllReadyH.cons (by simp only [List.getElem?_toArray, List.getElem?_cons_zero]; rfl) (fun K hK => ?_) AllReadyH.nil
          go_simp
          have HO := Lib.hid (own_zero9 (t := 46) V0 w2.heap.size HD.out.size 2)
          replace HD := Lib.hid (HD.out.alloc HD.out.size (.cells #[] 46))
          generalize hV1 : World.alloc V0 _ = V1 at *
          clear hV1
          refine hK.out _ _ HD.out (fun hH1 => ?_)
          clear hK K
          try simp only [List.setIfInBounds_toArray, List.set_cons_zero]
          refine wpAnyH_ready (rs := [4]) (by kernel_rfl) (by simp) ?_
          refine AllReadyH.cons (by simp only [List.getElem?_toArray, List.getElem?_cons_succ, List.getElem?_cons_zero]; rfl) (fun K hK => ?_) AllReadyH.nil
          rw [if_pos (by rfl)]
          refine wp_append_own _ _ _ 23 (by rfl) w2.heap.size 46 i0 _ 2 16 und_piles9 HI.out.1 HI.out.2.1 HI.out.2.2.1 HI.out.2.2.2 rfl (by decide) (.slice (some ⟨V0.heap.size, 0, none⟩) 0 0) 0 _ (by rfl) HO.out ⟨gb, offb, none⟩ p d (pileV (l.take p)) (by rfl) hlt (HNW.out V1 (HK3.out.1.trans (HD.out.mono HK3.out.1.size))) (pileV_one _)  (by unfold maxLen; omega) (by omega) HD.out.size ?_
          intro v1 V2 hown hgr hnn
          clear hnn
          simp only [Act.put, List.setIfInBounds_toArray, List.set_cons_zero, List.set_cons_succ]
          replace HD := Lib.hid (Below.grown HD.out hgr HD.out.size fun j e => (HO.out.lt j e).1)
          replace HO := Lib.hid hown
          clear hown hgr
          rw [Nat.zero_add, List.nil_append] at HO
          refine hK.out _ _ HD.out (fun hH2 => ?_)
          clear hK K
          try simp only [List.setIfInBounds_toArray, List.set_cons_zero, List.set_cons_succ]
          refine wpAnyH_ready (rs := [9]) (by kernel_rfl) (by simp) ?_
          refine AllReadyH.cons (by simp only [List.getElem?_toArray, List.getElem?_cons_succ, List.getElem?_cons_zero]; rfl) (fun K hK => ?_) AllReadyH.nil
          rw [if_pos (by rfl)]
          refine wp_append_own _ _ _ 23 (by rfl) w2.heap.size 46 i0 _ 2 16 und_piles9 HI.out.1 HI.out.2.1 HI.out.2.2.1 HI.out.2.2.2 rfl (by decide) v1 p _ (by rfl) HO.out ⟨gb, offb + (p + 1) * 2, none⟩ (l.length - (p + 1)) (d - (p + 1)) (pileV (l.drop (p + 1))) (by rfl) (by rw [pileV_len, List.length_drop]) (HNX.out V2 (HK3.out.1.trans (HD.out.mono HK3.out.1.size))) (pileV_one _)  (by unfold maxLen; omega) (by omega) HD.out.size ?_
          intro v2 V3 hown hgr hnn
          clear hnn
          simp only [Act.put, List.setIfInBounds_toArray, List.set_cons_zero, List.set_cons_succ]
          replace HD := Lib.hid (Below.grown HD.out hgr HD.out.size fun j e => (HO.out.lt j e).1)
          replace HO := Lib.hid hown
          clear hown hgr
          refine hK.out _ _ HD.out (fun hH3 => ?_)
          clear hK K
          try simp only [List.setIfInBounds_toArray, List.set_cons_zero, List.set_cons_succ]
          refine wpAnyH_take (i := 10 ) (v := ?_) rfl (by kernel_rfl) (by kernel_rfl) (by kernel_rfl) (fun _ _ _ h => h) (Or.inl ⟨by rfl, ?_⟩) (by assumption) ?_; rotate_left; (· (intro w0 hSw; obtain ⟨y0, y1⟩ := HRD.out _ (HK3.out.1.trans (Below.mono hSw HK3.out.1.size)); clear hSw; go_simp); first | done | with_reducible rfl); (try simp only [Act.put, List.getElem_toArray, List.getElem_cons_succ, List.getElem_cons_zero, List.setIfInBounds_toArray, List.set_cons_zero, List.set_cons_succ])
          refine wpAnyH_done (by kernel_rfl) ?_ _
          rw [show p + (l.length - (p + 1)) = l.length - 1 by omega, HPV.out] at HO
          obtain ⟨AO, co, rfl, hpo⟩ := own_pilesA HO.out HHOL.out
          have HK4 := Lib.hid (And.intro (HK3.out.1.trans (HD.out.mono HK3.out.1.size)) (HK3.out.2.below HD.out HK3.out.2.lt))
          have HPO := Lib.hid hpo
          clear hpo HO HNW HNX HPV HK3 hH0 hH1 hH2 hH3
          go_wp2_with fail
          refine (HRL.out _ AO co (HA.out.on HK4.out.1 (Nat.le_refl _)) HPO.out).mono ?_
          rintro e w5 ⟨rfl, hb5⟩
          have HK5 := Lib.hid (And.intro (HK4.out.1.trans (hb5.mono HK4.out.1.size)) (HK4.out.2.below hb5 HK4.out.2.lt))
          clear hb5 HPO HRL HK4 HD
          go_upto_region 11 with fail
          have HE := Lib.hid (And.intro HK5.out.1.drew (HK5.out.2.below (Below.refl _ _).drew HK5.out.2.lt))
          clear HK5
          refine wp_region_held_drew (S := fun W9 => Below w.heap.size w W9) (by kernel_rfl) HE.out.1 (fun hH0 => ?_)
          generalize World.drew _ = V0 at *
          simp only [List.size_toArray, List.length_cons, List.length_nil, Nat.reduceAdd, Array.replicate_succ, Array.replicate_zero, List.push_toArray, List.nil_append, List.cons_append]
          refine wpAnyH_take (i := 0 ) (v := ?_) rfl (by kernel_rfl) (by kernel_rfl) (by kernel_rfl) (fun _ _ _ h => h) (Or.inl ⟨by rfl, ?_⟩) (by assumption) ?_; rotate_left; (· (intro w0 hSw; obtain ⟨y0, y1⟩ := HRD.out _ hSw; clear hSw; go_simp); first | done | with_reducible rfl); (try simp only [Act.put, List.getElem_toArray, List.getElem_cons_zero, List.setIfInBounds_toArray, List.set_cons_zero, List.set_cons_succ])
          refine wpAnyH_take (i := 1 ) (v := ?_) rfl (by kernel_rfl) (by kernel_rfl) (by kernel_rfl) (fun _ _ _ h => h) (Or.inl ⟨by rfl, ?_⟩) (by assumption) ?_; rotate_left; (· (intro w0 hSw; obtain ⟨y0, y1⟩ := HRD.out _ hSw; clear hSw; go_simp); first | done | with_reducible rfl); (try simp only [Act.put, List.getElem_toArray, List.getElem_cons_succ, List.getElem_cons_zero, List.setIfInBounds_toArray, List.set_cons_zero, List.set_cons_succ])
          refine wpAnyH_take (i := 2 ) (v := ?_) rfl (by kernel_rfl) (by kernel_rfl) (by kernel_rfl) (fun _ _ _ h => h) (Or.inl ⟨by rfl, ?_⟩) (by assumption) ?_; rotate_left; (· (intro w0 hSw; obtain ⟨y0, y1⟩ := HRD.out _ hSw; clear hSw; go_simp); first | done | with_reducible rfl); (try simp only [Act.put, List.getElem_toArray, List.getElem_cons_succ, List.getElem_cons_zero, List.setIfInBounds_toArray, List.set_cons_zero, List.set_cons_succ])
          refine wpAnyH_take (i := 3 ) (v := ?_) rfl (by kernel_rfl) (by kernel_rfl) (by kernel_rfl) (fun _ _ _ h => h) (Or.inl ⟨by rfl, ?_⟩) (by assumption) ?_; rotate_left; (· (intro w0 hSw; obtain ⟨y0, y1⟩ := HRD.out _ hSw; clear hSw; go_simp); first | done | with_reducible rfl); (try simp only [Act.put, List.getElem_toArray, List.getElem_cons_succ, List.getElem_cons_zero, List.setIfInBounds_toArray, List.set_cons_zero, List.set_cons_succ])
          refine wpAnyH_take (i := 4 ) (v := ?_) rfl (by kernel_rfl) (by kernel_rfl) (by kernel_rfl) (fun _ _ _ h => h) (Or.inl ⟨by rfl, ?_⟩) (by assumption) ?_; rotate_left; (· (intro w0 hSw; obtain ⟨y0, y1⟩ := HRD.out _ hSw; clear hSw; go_simp); first | done | with_reducible rfl); (try simp only [Act.put, List.getElem_toArray, List.getElem_cons_succ, List.getElem_cons_zero, List.setIfInBounds_toArray, List.set_cons_zero, List.set_cons_succ])
          refine wpAnyH_take (i := 5 ) (v := ?_) rfl (by kernel_rfl) (by kernel_rfl) (by kernel_rfl) (fun _ _ _ h => h) (Or.inl ⟨by rfl, ?_⟩) (by assumption) ?_; rotate_left; (· (intro w0 hSw; obtain ⟨y0, y1⟩ := HRD.out _ hSw; clear hSw; go_simp); first | done | with_reducible rfl); (try simp only [Act.put, List.getElem_toArray, List.getElem_cons_succ, List.getElem_cons_zero, List.setIfInBounds_toArray, List.set_cons_zero, List.set_cons_succ])
          refine wpAnyH_take (i := 6 ) (v := ?_) rfl (by kernel_rfl) (by kernel_rfl) (by kernel_rfl) (fun _ _ _ h => h) (Or.inl ⟨by rfl, ?_⟩) (by assumption) ?_; rotate_left; (· (intro w0 hSw; obtain ⟨y0, y1⟩ := HRD.out _ hSw; clear hSw; go_simp); first | done | with_reducible rfl); (try simp only [Act.put, List.getElem_toArray, List.getElem_cons_succ, List.getElem_cons_zero, List.setIfInBounds_toArray, List.set_cons_zero, List.set_cons_succ])
          refine wpAnyH_take (i := 7 ) (v := ?_) rfl (by kernel_rfl) (by kernel_rfl) (by kernel_rfl) (fun _ _ _ h => h) (Or.inl ⟨by rfl, ?_⟩) (by assumption) ?_; rotate_left; (· (intro w0 hSw; obtain ⟨y0, y1⟩ := HRD.out _ hSw; clear hSw; go_simp); first | done | with_reducible rfl); (try simp only [Act.put, List.getElem_toArray, List.getElem_cons_succ, List.getElem_cons_zero, List.setIfInBounds_toArray, List.set_cons_zero, List.set_cons_succ])
          refine wpAnyH_take (i := 8 ) (v := ?_) rfl (by kernel_rfl) (by kernel_rfl) (by kernel_rfl) (fun _ _ _ h => h) (Or.inl ⟨by rfl, ?_⟩) (by assumption) ?_; rotate_left; (· (intro w0 hSw; obtain ⟨y0, y1⟩ := HRD.out _ hSw; clear hSw; go_simp); first | done | with_reducible rfl); (try simp only [Act.put, List.getElem_toArray, List.getElem_cons_succ, List.getElem_cons_zero, List.setIfInBounds_toArray, List.set_cons_zero, List.set_cons_succ])
          refine wpAnyH_take (i := 9 ) (v := ?_) rfl (by kernel_rfl) (by kernel_rfl) (by kernel_rfl) (fun _ _ _ h => h) (Or.inl ⟨by rfl, ?_⟩) (by assumption) ?_; rotate_left; (· (intro w0 hSw; obtain ⟨y0, y1⟩ := HRD.out _ hSw; clear hSw; go_simp); first | done | with_reducible rfl); (try simp only [Act.put, List.getElem_toArray, List.getElem_cons_succ, List.getElem_cons_zero, List.setIfInBounds_toArray, List.set_cons_zero, List.set_cons_succ])
          refine wpAnyH_take (i := 10 ) (v := ?_) rfl (by kernel_rfl) (by kernel_rfl) (by kernel_rfl) (fun _ _ _ h => h) (Or.inl ⟨by rfl, ?_⟩) (by assumption) ?_; rotate_left; (· (intro w0 hSw; obtain ⟨y0, y1⟩ := HRD.out _ hSw; clear hSw; go_simp); first | done | with_reducible rfl); (try simp only [Act.put, List.getElem_toArray, List.getElem_cons_succ, List.getElem_cons_zero, List.setIfInBounds_toArray, List.set_cons_zero, List.set_cons_succ])
          refine wpAnyH_take (i := 11 ) (v := ?_) rfl (by kernel_rfl) (by kernel_rfl) (by kernel_rfl) (fun _ _ _ h => h) (Or.inl ⟨by rfl, ?_⟩) (by assumption) ?_; rotate_left; (· (intro w0 hSw; obtain ⟨y0, y1⟩ := HRD.out _ hSw; clear hSw; go_simp); first | done | with_reducible rfl); (try simp only [Act.put, List.getElem_toArray, List.getElem_cons_succ, List.getElem_cons_zero, List.setIfInBounds_toArray, List.set_cons_zero, List.set_cons_succ])
          refine wpAnyH_take (i := 12 ) (v := ?_) rfl (by kernel_rfl) (by kernel_rfl) (by kernel_rfl) (fun _ _ _ h => h) (Or.inl ⟨by rfl, ?_⟩) (by assumption) ?_; rotate_left; (· (intro w0 hSw; obtain ⟨y0, y1⟩ := HRD.out _ hSw; clear hSw; go_simp); first | done | with_reducible rfl); (try simp only [Act.put, List.getElem_toArray, List.getElem_cons_succ, List.getElem_cons_zero, List.setIfInBounds_toArray, List.set_cons_zero, List.set_cons_succ])
          refine wpAnyH_ready (rs := [13]) (by kernel_rfl) (by simp) ?_
          refine AllReadyH.cons (by simp only [List.getElem?_toArray, List.getElem?_cons_succ, List.getElem?_cons_zero]; rfl) (fun K hK => ?_) AllReadyH.nil
          go_simp
          refine (HND.out _ HE.out.1).mono ?_
          rintro e X9 ⟨rfl, rfl⟩
          refine hK.out _ _ HE.out.1 (fun hH1 => ?_)
          clear hK K
          try simp only [List.setIfInBounds_toArray, List.set_cons_zero, List.set_cons_succ]
          refine wpAnyH_take (i := 14 ) (v := ?_) rfl (by kernel_rfl) (by kernel_rfl) (by kernel_rfl) (fun _ _ _ h => h) (Or.inl ⟨by rfl, ?_⟩) (by assumption) ?_; rotate_left; (· (intro w0 hSw; obtain ⟨y0, y1⟩ := HRD.out _ hSw; clear hSw; go_simp); first | done | with_reducible rfl); (try simp only [Act.put, List.getElem_toArray, List.getElem_cons_succ, List.getElem_cons_zero, List.setIfInBounds_toArray, List.set_cons_zero, List.set_cons_succ])
          refine wpAnyH_take (i := 15 ) (v := ?_) rfl (by kernel_rfl) (by kernel_rfl) (by kernel_rfl) (fun _ _ _ h => h) (Or.inl ⟨by rfl, ?_⟩) (by assumption) ?_; rotate_left; (· (intro w0 hSw; obtain ⟨y0, y1⟩ := HRD.out _ hSw; clear hSw; go_simp); first | done | with_reducible rfl); (try simp only [Act.put, List.getElem_toArray, List.getElem_cons_succ, List.getElem_cons_zero, List.setIfInBounds_toArray, List.set_cons_zero, List.set_cons_succ])
          refine wpAnyH_take (i := 16 ) (v := ?_) rfl (by kernel_rfl) (by kernel_rfl) (by kernel_rfl) (fun _ _ _ h => h) (Or.inl ⟨by rfl, ?_⟩) (by assumption) ?_; rotate_left; (· (intro w0 hSw; obtain ⟨y0, y1⟩ := HRD.out _ hSw; clear hSw; go_simp); first | done | with_reducible rfl); (try simp only [Act.put, List.getElem_toArray, List.getElem_cons_succ, List.getElem_cons_zero, List.setIfInBounds_toArray, List.set_cons_zero, List.set_cons_succ])
          refine wpAnyH_ready (rs := [17]) (by kernel_rfl) (by simp) ?_
          refine AllReadyH.cons (by simp only [List.getElem?_toArray, List.getElem?_cons_succ, List.getElem?_cons_zero]; rfl) (fun K hK => ?_) AllReadyH.nil
          rw [if_pos (by rfl)]
          refine wp_store_mid 35 (.tmp 8) (.tmp 74) (by rfl) w.heap.size 0 #[.int .i64 lk2, .int .i64 (if b * ns < mn then b * ns else mn)] (by rfl) (by rfl) (there9 (o := 0) HE.out.2 (by simp)) (by kernel_rfl) (by simp [Value.oneCell']) ?_
          replace HE := Lib.hid (And.intro (sets9_below (x := .int .i64 lk2) (y := .int .i64 (if b * ns < mn then b * ns else mn)) HE.out.1 (Nat.le_refl _)) (sets9_blk (x := .int .i64 lk2) (y := .int .i64 (if b * ns < mn then b * ns else mn)) HE.out.2))
          refine hK.out _ _ HE.out.1 (fun hH2 => ?_)
          clear hK K
          try simp only [List.setIfInBounds_toArray, List.set_cons_zero, List.set_cons_succ]
          refine wpAnyH_take (i := 18 ) (v := ?_) rfl (by kernel_rfl) (by kernel_rfl) (by kernel_rfl) (fun _ _ _ h => h) (Or.inl ⟨by rfl, ?_⟩) (by assumption) ?_; rotate_left; (· (intro w0 hSw; obtain ⟨y0, y1⟩ := HRD.out _ hSw; clear hSw; go_simp); first | done | with_reducible rfl); (try simp only [Act.put, List.getElem_toArray, List.getElem_cons_succ, List.getElem_cons_zero, List.setIfInBounds_toArray, List.set_cons_zero, List.set_cons_succ])
          refine wpAnyH_done (by kernel_rfl) ?_ _
          generalize (if b * ns < mn then b * ns else mn) = mi at *
          go_wp2_with fail
          have d0 := HE.out.2.cell 0
          have d1 := HE.out.2.cell 1
          exact bodyPost_ret (v := .tuple #[.agg #[.int .i64 lk2, .int .i64 mi], .int .i64 0]) (by simp [results, Try.results20, go_sem, d0, d1]) rfl (HR9.out _ HE.out.1)
  · have HE9 := Lib.hid h0
    have h0' : (errE need l b != 0) = true := by rw [bne_iff_ne]; exact h0
    have c0 := HK1.out.2.cell 0
    have c1 := HK1.out.2.cell 1
    have f0 := HK1.out.2.frozen 0
    have f1 := HK1.out.2.frozen 1
    clear h0
    go_wp2_with fail
    have e8 := (HK1.out.2.set_ 0 (.int .i64 0)).set_ 1 (.int .i64 0)
    have eB := (HK1.out.1.setCell (p := ⟨w.heap.size, 0, none⟩) (Nat.le_refl _) (.int .i64 0)).setCell (p := ⟨w.heap.size, 1, none⟩) (Nat.le_refl _) (.int .i64 0)
    generalize World.setCell (World.setCell w1 _ _) _ _ = W9 at e8 eB ⊢
    have d0 := e8.cell 0
    have d1 := e8.cell 1
    exact bodyPost_ret (v := .tuple #[.agg #[.int .i64 0, .int .i64 0], .int .i64 (errE need l b)]) (by simp [results, Try.results20, go_sem, d0, d1]) rfl (HR.out 0 0 (errE need l b) W9 (.inl ⟨HE9.out, rfl, rfl, rfl⟩) eB)
end Go.Proofs.Ytngoagfkcjkeoaa
