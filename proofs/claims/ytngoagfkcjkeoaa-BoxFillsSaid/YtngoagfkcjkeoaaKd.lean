/- Walks: the document's Fill. -/
import Derived.Test.YtngoagfkcjkeoaaKe
import Derived.Test.YtngoagfkcjkeoaaRg
namespace Go.Proofs.Ytngoagfkcjkeoaa
open Go.RowKit Go.Shelf

structure FiS (w : World) (gl cl m gr gp B2 : Nat) (s0 : Value) (i : Nat) (vs : List Value) (O : List (List Int)) (st : List Int × List Int × Int) (sh : Int) (U : World) : Prop where
  hb : Below w.heap.size w U
  own : U.ownsRow w.heap.size 3 1 (.slice (some ⟨gl, 0, none⟩) m cl) m (intsV9 st.2.1)
  out : U.ownsRow B2 22 1 s0 i vs
  rows : RowsK U w.heap.size gl gr vs O
  kr : Blk U gr 3 (intsV9 st.1).toArray
  kp : Blk U gp 46 #[.int .i64 sh, .int .i64 st.2.2]
theorem FiS.call {w : World} {gl cl m gr gp B2 : Nat} {s0 : Value} {i : Nat} {vs : List Value} {O : List (List Int)} {st : List Int × List Int × Int} {sh : Int} {U U' : World} (h : FiS w gl cl m gr gp B2 s0 i vs O st sh U) (hb : Below U.heap.size U U') : FiS w gl cl m gr gp B2 s0 i vs O st sh U' :=
  ⟨h.hb.trans (hb.mono h.hb.size), own_low9 h.own hb, own_low9 h.out hb, h.rows.call hb, h.kr.below hb h.kr.lt, h.kp.below hb h.kp.lt⟩
theorem own_setNe9 {W : World} {B : Nat} {e : TypeId} {size gl n cap k : Nat} {xs : List Value} (h : W.ownsRow B e size (.slice (some ⟨gl, 0, none⟩) n cap) k xs) {g : Nat} (hne : g ≠ gl) (o : Nat) (u : Value) : (W.setCell ⟨g, o, none⟩ u).ownsRow B e size (.slice (some ⟨gl, 0, none⟩) n cap) k xs := by
  refine ⟨h.1, ?_⟩
  rcases h.2 with ⟨h2, -⟩ | ⟨g', cap', cur, h1, h2, h3, h4⟩
  · cases h2
  · have h1' := h1
    rw [Value.slice.injEq] at h1'
    have e1 : gl = g' := by simpa using h1'.1
    exact .inr ⟨g', cap', cur, h1, h2, (Below.heap_setCell W ⟨g, o, none⟩ u g' (fun e' => hne (by rw [e1]; exact e'.symm))).trans h3, h4⟩
theorem own_keepI9 {W W' : World} {B gl n cap k : Nat} {xs : List Value} (h : W.ownsRow B 3 1 (.slice (some ⟨gl, 0, none⟩) n cap) k xs) (hk : KeepI9 W W') : W'.ownsRow B 3 1 (.slice (some ⟨gl, 0, none⟩) n cap) k xs := by
  refine ⟨h.1, ?_⟩
  rcases h.2 with ⟨h2, -⟩ | ⟨g', cap', cur, h1, h2, h3, h4⟩
  · cases h2
  · exact .inr ⟨g', cap', cur, h1, h2, hk g' cur h3, h4⟩
theorem take_row {m : Nat} {l : List Pile} {left r : List Int} {i : Nat} (h : i < l.length) (hr : (docRows m l left).getD i [] = r) : (docRows m l left).take (i + 1) = (docRows m l left).take i ++ [r] := by
  have h9 : i < (docRows m l left).length := by rw [docRows_len]; exact h
  rw [List.take_add_one, List.getElem?_eq_getElem h9]
  rw [List.getD_eq_getElem?_getD, List.getElem?_eq_getElem h9, Option.getD_some] at hr
  rw [hr]
  rfl
section
variable {w : World} {gl cl m gr gp B2 : Nat} {s0 : Value} {i : Nat} {vs : List Value} {O : List (List Int)} {st : List Int × List Int × Int} {sh : Int} {U : World}
theorem FiS.setS (h : FiS w gl cl m gr gp B2 s0 i vs O st sh U) (h1 : w.heap.size ≤ gl) (h2 : gl < gr) (h3 : gr < gp) (x : Int) : FiS w gl cl m gr gp B2 s0 i vs O st x (U.setCell ⟨gp, 0, none⟩ (.int .i64 x)) :=
  ⟨h.hb.setCell (p := ⟨gp, 0, none⟩) (by simp only []; omega) _, own_setNe9 h.own (by omega) _ _, own_setOther9 h.out h.kp (by decide) _ _, h.rows.far (.inr (by omega)) _ _, h.kr.far (by simp only []; omega) _, h.kp.set_ 0 _⟩
theorem FiS.setM (h : FiS w gl cl m gr gp B2 s0 i vs O st sh U) (h1 : w.heap.size ≤ gl) (h2 : gl < gr) (h3 : gr < gp) (x : Int) : FiS w gl cl m gr gp B2 s0 i vs O (st.1, st.2.1, x) sh (U.setCell ⟨gp, 1, none⟩ (.int .i64 x)) :=
  ⟨h.hb.setCell (p := ⟨gp, 1, none⟩) (by simp only []; omega) _, own_setNe9 h.own (by omega) _ _, own_setOther9 h.out h.kp (by decide) _ _, h.rows.far (.inr (by omega)) _ _, h.kr.far (by simp only []; omega) _, h.kp.set_ 1 _⟩
theorem FiS.setR (h : FiS w gl cl m gr gp B2 s0 i vs O st sh U) (h1 : w.heap.size ≤ gl) (h2 : gl < gr) (h3 : gr < gp) (k : Nat) (x : Int) : FiS w gl cl m gr gp B2 s0 i vs O (st.1.set k x, st.2) sh (U.setCell ⟨gr, k, none⟩ (.int .i64 x)) :=
  ⟨h.hb.setCell (p := ⟨gr, k, none⟩) (by simp only []; omega) _, own_setNe9 h.own (by omega) _ _, own_setOther9 h.out h.kr (by decide) _ _, h.rows.far (.inr (Nat.le_refl _)) _ _, by have := h.kr.set_ k (.int .i64 x); rwa [intsV9_set] at this, h.kp.far (by simp only []; omega) _⟩
theorem FiS.setL (h : FiS w gl cl m gr gp B2 s0 i vs O st sh U) (h1 : w.heap.size ≤ gl) (h2 : gl < gr) (h3 : gr < gp) (k : Nat) (x : Int) : FiS w gl cl m gr gp B2 s0 i vs O (st.1, st.2.1.set k x, st.2.2) sh (U.setCell ⟨gl, k, none⟩ (.int .i64 x)) := by
  obtain ⟨cur, hcur⟩ := own_blk9 h.own
  refine ⟨h.hb.setCell (p := ⟨gl, k, none⟩) h1 _, ?_, own_setOther9 h.out hcur (by decide) _ _, h.rows.far (.inl rfl) _ _, h.kr.far (by simp only []; omega) _, h.kp.far (by simp only []; omega) _⟩
  have := (h.own.stored k (.int .i64 x)).1
  unfold intsV9 at this ⊢
  rwa [← List.map_set] at this
end
set_option maxRecDepth 100000 in
set_option maxHeartbeats 8000000 in
theorem rfill_any (w : World) (A B : Option Addr) (c d : Nat) (need : List Int) (l : List Pile) (b : Int) (hn : need.length ≤ 9223372036854775807) (hl : l.length ≤ 9223372036854775807) (hcap : l.length ≤ d) (hA : IntSl w w.heap.size A need) (hB : PileSl w w.heap.size B l) :
    Calls Try.prog 18 #[.slice A need.length c, .slice B l.length d, .int .i64 b] w (RetFi need l b w) := by
  have HA := Lib.hid hA
  have HBS := Lib.hid hB
  have HV := Lib.hid (rcheck_any _ A B c d need l b hn hl hA hB)
  have HR0 : Hid (errE need l b ≠ 0 → ∀ W, Below w.heap.size w W → RetFi need l b w (.returned (.tuple #[.slice none 0 0, .int .i64 (errE need l b)])) W) := Lib.hid fun h0 W h => by
    have e : fillA need l b = ([], errE need l b) := if_neg h0
    exact ⟨none, 0, by rw [e]; rfl, by rw [e]; exact fun h => absurd rfl h, h⟩
  have HR1 : Hid (errE need l b = 0 → canB need l b = false → ∀ W, Below w.heap.size w W → RetFi need l b w (.returned (.tuple #[.slice none 0 0, .int .i64 10])) W) := Lib.hid fun h0 h1 W h => by
    have e : fillA need l b = ([], 10) := (if_pos h0).trans (if_neg (by rw [h1]; simp))
    exact ⟨none, 0, by rw [e]; rfl, by rw [e]; exact fun h => absurd rfl h, h⟩
  have HR2 : Hid (errE need l b = 0 → canB need l b = true → ∀ W A c, Below w.heap.size w W → RowSl W A (docRows need.length l (need.map (b * ·))) → RetFi need l b w (.returned (.tuple #[.slice A l.length c, .int .i64 0])) W) := Lib.hid fun h0 h1 W A c h hr => by
    have e : fillA need l b = (fillT need l b, 0) := (if_pos h0).trans (if_pos h1)
    obtain ⟨hok, hb0, hb1⟩ := errE_0 h0
    obtain ⟨hN, hP, hc1, hc8⟩ := ok_in hok
    have hn48 : ∀ n ∈ need, 0 ≤ n ∧ n ≤ 48 := by
      have h9 := hok
      unfold boxOk at h9
      rw [Bool.and_eq_true] at h9
      exact (need_parts h9.1).2.1
    refine ⟨A, c, by rw [e, fill_len], ?_, h⟩
    rw [e, fill_doc hn48 hc8 hP (shades_lt hok) ⟨hb0, hb1⟩ h1]
    exact hr
  generalize RetFi need l b w = Q at *
  clear hA hB
  obtain ⟨i0, hi, hz0, hz1, hz2⟩ := info9 rowsInfo9
  have HI := Lib.hid (And.intro hi (And.intro hz0 (And.intro hz1 hz2)))
  clear hi hz0 hz1 hz2
  go_enter Try.func18, Try.ntmps18
  go_wp2_with fail
  refine HV.out.mono ?_
  rintro e w1 ⟨rfl, hb1⟩
  have HB1 := Lib.hid hb1
  clear hb1 HV
  by_cases h0 : errE need l b = 0
  · have HE0 := Lib.hid h0
    obtain ⟨hok, hb0, hb1⟩ := errE_0 h0
    obtain ⟨hN, hP, hc1, hc8⟩ := ok_in hok
    have hn48 : ∀ n ∈ need, 0 ≤ n ∧ n ≤ 48 := by
      have h9 := hok
      unfold boxOk at h9
      rw [Bool.and_eq_true] at h9
      exact (need_parts h9.1).2.1
    have HLK := Lib.hid (rlack_any w1 A B c d need l b hok ⟨hb0, hb1⟩ (HA.out.on HB1.out (Nat.le_refl _)) (HBS.out.on HB1.out (Nat.le_refl _)))
    have HPI := Lib.hid hP
    have HN48 := Lib.hid hn48
    have hp8 := hP.1
    have HCL : Hid (canB need l b = true ↔ (lackR need l b).2 = 0) := Lib.hid can_lack
    have HNN := Lib.hid (lack_nonneg need l b)
    clear hN hP hn48
    rw [h0]
    clear h0
    go_wp2_with fail
    refine HLK.out.mono ?_
    rintro e w2 ⟨rfl, hb2⟩
    have HB2 := Lib.hid (HB1.out.trans (hb2.mono HB1.out.size))
    clear hb2 HLK HB1
    by_cases hpos : 0 < (lackR need l b).2
    · have hcan : canB need l b = false := by
        cases h : canB need l b with
        | false => rfl
        | true => have := HCL.out.1 h; omega
      have HCF := Lib.hid hcan
      clear hcan HCL HNN
      go_wp2_with fail
      exact HR1.out HE0.out HCF.out _ HB2.out
    · have hcan : canB need l b = true := HCL.out.2 (by have := HNN.out; omega)
      have HCF := Lib.hid hcan
      have HTI := Lib.hid (times_in HN48.out ⟨hb0, hb1⟩)
      have HLM : Hid ((need.map (b * ·)).length = need.length) := Lib.hid (List.length_map _)
      clear hcan HCL HNN
      go_wp2_with fail
      refine (rtimesO_any w2 A c need b hc8 HN48.out ⟨hb0, hb1⟩ (HA.out.on HB2.out (Nat.le_refl _))).mono ?_
      rintro e w3 ⟨vl, rfl, ho3, hb3⟩
      obtain ⟨gl, cl, rfl, hg1, hg2⟩ := own_g9 ho3 (by omega)
      have hww : w.heap.size ≤ w2.heap.size := HB2.out.size
      have HB3 := Lib.hid (HB2.out.trans (hb3.mono HB2.out.size))
      have HO3 : Hid (w3.ownsRow w.heap.size 3 1 (.slice (some ⟨gl, 0, none⟩) need.length cl) need.length (intsV9 (leftN need.length l (need.map (b * ·)) 0))) := Lib.hid (by
        rw [leftN_zero]
        exact ⟨ho3.1, ho3.2.imp id fun ⟨g', cap', cur', h1, h2, h3⟩ => ⟨g', cap', cur', h1, by omega, h3⟩⟩)
      clear ho3 hb3 HB2
      have hgw : w.heap.size ≤ gl := by omega
      have hmk := made_ints need.length hc8
      have HDS : Hid (∀ i (h : i < l.length), DS need.length l[i].shades.toNat 0 (l.drop (i + 1)) (leftN need.length l (need.map (b * ·)) i) l[i].many ∧ ∀ k, (leftN need.length l (need.map (b * ·)) i).getD k 0 ≤ 50331648) := Lib.hid fun i h => by
        have hnn : ∀ k, 0 ≤ (need.map (b * ·)).getD k 0 ∧ (need.map (b * ·)).getD k 0 ≤ 50331648 := fun k => by
          by_cases e : k < (need.map (b * ·)).length
          · rw [List.getD_eq_getElem?_getD, List.getElem?_eq_getElem e, Option.getD_some]
            exact HTI.out _ (List.getElem_mem e)
          · rw [List.getD_eq_getElem?_getD, List.getElem?_eq_none (by omega)]
            exact ⟨Int.le_refl _, by decide⟩
        have hp0 : ∀ p ∈ l, 0 ≤ p.many := fun p hp => (HPI.out.2 p hp).2.1
        obtain ⟨h1, h2⟩ := leftN_ds l (need.map (b * ·)) i h HLM.out (fun k => (hnn k).1) hp0 (hall_of hp0 HCF.out)
        exact ⟨h1, fun k => Int.le_trans (h2 k) (hnn k).2⟩
      have HNL := Lib.hid HLM.out
      generalize need.map (b * ·) = nl at *
      go_wp2_with fail
      go_loopw [12, 13] (fun v j wr => ∃ (i : Nat) (s0 : Value) (vs : List Value), i ≤ l.length ∧ s0 = v ∧ j = .int .i64 i ∧ Hid (Below w.heap.size w wr) ∧ Hid (wr.ownsRow w.heap.size 3 1 (.slice (some ⟨gl, 0, none⟩) need.length cl) need.length (intsV9 (leftN need.length l nl i))) ∧ Hid (wr.ownsRow w3.heap.size 22 1 s0 i vs) ∧ Hid (RowsK wr w.heap.size gl wr.heap.size vs ((docRows need.length l nl).take i)) ∧ w3.heap.size ≤ wr.heap.size) (fun _ j _ => l.length - (intOf j).toNat)
      case atStart => exact ⟨0, _, [], by omega, rfl, rfl, HB3, HO3, Lib.hid (World.ownsRow_nil _ _ _ _), Lib.hid ⟨rfl, fun i h => by simp at h⟩, Nat.le_refl _⟩
      case round =>
        obtain ⟨i, s0, vs, hi, rfl, rfl, HB, HO, HOUT, HRK, hsz⟩ := hrel
        rename World => V
        by_cases hlt : i < l.length
        · have hii : (i : Int) < l.length := by omega
          have hi0 : (0 : Int) ≤ i := by omega
          obtain ⟨gb, offb, rfl, hgb, hatb⟩ := HBS.out (by intro e; rw [e] at hlt; simp at hlt)
          obtain ⟨p0, p1⟩ := hatb i hlt
          rw [← HB.out.cell (p := ⟨gb, _, none⟩) hgb] at p0 p1
          obtain ⟨⟨q0, q1⟩, q2, q3⟩ := HPI.out.2 l[i] (List.getElem_mem hlt)
          obtain ⟨o, ho⟩ : ∃ o : Nat, l[i].shades = (o : Int) := ⟨l[i].shades.toNat, by omega⟩
          have ho8 : o < 256 := by omega
          obtain ⟨D1, D2⟩ := HDS.out i hlt
          obtain ⟨E1, E2⟩ := docRows_at need.length l nl i hlt
          rw [ho, Int.toNat_natCast] at D1 E1 E2
          rw [← it_doc] at E1 E2
          rw [ho] at p0
          have hrest : ∀ p ∈ l.drop (i + 1), 0 ≤ p.many := fun p hp => (HPI.out.2 p (List.mem_of_mem_drop hp)).2.1
          have hIT := fun q hq => it_ds hrest D1 q hq
          have HAT := Lib.hid hatb
          have HIT := Lib.hid hIT
          have HD2 := Lib.hid D2
          have HE := Lib.hid (And.intro E1 E2)
          obtain ⟨stR, hstR⟩ : ∃ f : Nat → List Int × List Int × Int, ∀ q, f q = itR need.length o (l.drop (i + 1)) (leftN need.length l nl i) l[i].many q := ⟨_, fun _ => rfl⟩
          have HSTR := Lib.hid hstR
          have hst0 : stR 0 = (List.replicate need.length 0, leftN need.length l nl i, l[i].many) := hstR 0
          have hb3 : Below V.heap.size V ((V.alloc (.cells (intsV9 (List.replicate need.length 0)).toArray 3)).alloc (.cells #[.int .i64 (o : Int), .int .i64 l[i].many] 46)) := by repeat (first | exact Below.refl _ _ | assumption | refine Below.drew ?_ | refine Below.alloc ?_ (by first | omega | (simp only [World.size_alloc]; omega) | simp) _ | refine Below.setCell ?_ (by first | omega | (simp only [World.size_alloc]; omega) | simp) _)
          have HF0 : Hid (FiS w gl cl need.length V.heap.size (V.heap.size + 1) w3.heap.size s0 i vs ((docRows need.length l nl).take i) (stR 0) (cutB o 0 : Int) ((V.alloc (.cells (intsV9 (List.replicate need.length 0)).toArray 3)).alloc (.cells #[.int .i64 (o : Int), .int .i64 l[i].many] 46))) := Lib.hid (by
            rw [hst0, cut_zero']
            exact ⟨HB.out.trans (hb3.mono HB.out.size), own_low9 HO.out hb3, own_low9 HOUT.out hb3, HRK.out.call hb3, (Blk.new _ _ _).alloc _, blk9 _ _ (by simp)⟩)
          generalize l[i].many = mn at *
          have hb2 : Below V.heap.size V (V.alloc (.cells (intsV9 (List.replicate need.length 0)).toArray 3)) := (Below.refl _ _).alloc (Nat.le_refl _) _
          rw [← hb2.cell (p := ⟨gb, _, none⟩) (Nat.lt_of_lt_of_le hgb HB.out.size)] at p0 p1
          clear hatb D1 D2 E1 E2 hIT hstR hst0 hb3 hb2 ho q0 q1 HB HO HOUT HRK
          go_wp2_with fail
          generalize World.alloc (World.alloc V _) _ = W0 at *
          generalize V.heap.size = gr at *
          clear hmk p0 p1
          go_loopw [16] (fun v U => ∃ q : Nat, q ≤ need.length ∧ v = .int .i64 q ∧ Hid (FiS w gl cl need.length gr (gr + 1) w3.heap.size s0 i vs ((docRows need.length l nl).take i) (stR q) (cutB o q : Int) U)) (fun v _ => need.length - (intOf v).toNat)
          case atStart => exact ⟨0, by omega, rfl, HF0⟩
          case round =>
            obtain ⟨q, hq, rfl, HF⟩ := hrel
            rename World => U
            by_cases hql : q < need.length
            · have hqi : (q : Int) < need.length := by omega
              have hq0 : (0 : Int) ≤ q := by omega
              have hq8 : q < 8 := by omega
              have hcb := cut_le o q
              have HBT : Hid ((cutB o q).testBit q = o.testBit q) := Lib.hid (by rw [cut_bit]; simp)
              have HNX : Hid (stR (q + 1) = itQ need.length o (l.drop (i + 1)) (stR q) q) := Lib.hid (by rw [HSTR.out, HSTR.out, itR_next])
              obtain ⟨I1, I2, I3⟩ := HIT.out q (by omega)
              have I4 := itR_len need.length o (l.drop (i + 1)) (leftN need.length l nl i) mn q
              rw [← HSTR.out] at I1 I2 I3 I4
              have hgr1 : gl < gr := by omega
              have c0 := HF.out.kp.cell 0
              go_wp2_with fail
              refine (rHas_any (cutB o q) q _ (by omega) (by omega)).mono ?_
              rintro e w' ⟨rfl, rfl⟩
              rw [HBT.out]
              clear HBT
              cases hb : o.testBit q with
              | false =>
                have HEQ : Hid (FiS w gl cl need.length gr (gr + 1) w3.heap.size s0 i vs ((docRows need.length l nl).take i) (stR (q + 1)) (cutB o (q + 1) : Int) U) := Lib.hid (by
                  rw [HNX.out, cut_skip hb]
                  unfold itQ
                  rw [if_neg (by rw [hb]; simp)]
                  exact HF.out)
                clear I1 I2 I3 I4 HF c0 hb HNX hcb
                go_wp2_with fail
                go_roundw
                case rel => exact ⟨q + 1, by omega, by go_num, HEQ⟩
                case measure => exact meas9 hql
              | true =>
                have hct := cut_take hb
                have HNX2 : Hid (stR (q + 1) = ((stR q).1.set q (docN need.length o q (l.drop (i + 1)) (stR q).2.1 (stR q).2.2), leftQ o q (stR q).2.1 (docN need.length o q (l.drop (i + 1)) (stR q).2.1 (stR q).2.2), (stR q).2.2 - docN need.length o q (l.drop (i + 1)) (stR q).2.1 (stR q).2.2)) := Lib.hid (by
                  rw [HNX.out]
                  unfold itQ
                  rw [if_pos hb])
                have HB1 := Lib.hid hb
                have HI1 := Lib.hid I1
                have HI2 := Lib.hid I2
                have HI4 := Lib.hid I4
                have HD1 := docN_nn I1
                have HDD := Lib.hid (docN_spec need.length o q (l.drop (i + 1)) (stR q).2.1 (stR q).2.2)
                have hcn : cutB o (q + 1) < 256 := by have := cut_le o (q + 1); omega
                clear HNX I1 I2 I4 hb
                generalize hst : stR q = st at *
                generalize hcq : cutB o q = cq at *
                generalize hcn' : cutB o (q + 1) = cn at *
                have hwq : IntKind.i64.wrap ((cq : Int) - (2 : Int) ^ q) = (cn : Int) := by
                  have e9 : (cq : Int) - (2 : Int) ^ q = (cn : Int) := by rw [hct]; simp
                  rw [e9]
                  exact IntWalk.i64_in _ ⟨by omega, by omega⟩
                go_upto_region 18 with fail
                have HF1 : Hid (FiS w gl cl need.length gr (gr + 1) w3.heap.size s0 i vs ((docRows need.length l nl).take i) st (cq : Int) U.drew) := Lib.hid (HF.out.call (Below.refl _ _).drew)
                have HSD : Hid (U.drew.cell? ⟨gr + 1, 0, none⟩ = some (.int .i64 (cq : Int))) := Lib.hid (HF1.out.kp.cell 0)
                have HZ : Hid (U.drew.cell? ⟨gr + 1, 0, none⟩ = some (.int .i64 (cq : Int)) ∧ U.drew.frozen? ⟨gr + 1, 0, none⟩ = false) := Lib.hid ⟨HF1.out.kp.cell 0, HF1.out.kp.frozen 0⟩
                have HPUT : Hid (∀ X, FiS w gl cl need.length gr (gr + 1) w3.heap.size s0 i vs ((docRows need.length l nl).take i) st (cq : Int) X → FiS w gl cl need.length gr (gr + 1) w3.heap.size s0 i vs ((docRows need.length l nl).take i) st (cn : Int) (X.setCell ⟨gr + 1, 0, none⟩ (.int .i64 (cn : Int)))) := Lib.hid fun X h => h.setS hgw hgr1 (by omega) _
                clear c0 HF
                refine C_begin (S := fun W9 : World => W9.cell? ⟨gr + 1, 0, none⟩ = some (.int .i64 (cq : Int))) (c := 6) (by kernel_rfl) ?_
                generalize World.drew _ = V0 at *
                have hSd := (show (fun W9 : World => W9.cell? ⟨gr + 1, 0, none⟩ = some (.int .i64 (cq : Int))) V0 from HSD.out)
                refine C_take (i := 0) (v := ?v18_0) rfl (by kernel_rfl) (fun _ _ _ h => h) (Or.inl ⟨by rfl, ?y18_0⟩) (Or.inr hSd) ?r18_0
                case y18_0 => (intro w0 _; go_simp; try with_reducible rfl)
                try simp only [Act.put, List.getElem_toArray, List.getElem_cons_zero, List.setIfInBounds_toArray, List.set_cons_zero, List.set_cons_succ]
                refine C_load (i := 1) (v := ?v18_1) [6] rfl (by kernel_rfl) (fun _ _ _ h => h) (Or.inl ⟨by rfl, ?y18_1⟩) hSd ?r18_1
                case y18_1 => ((intro w0 hSw; go_simp); try with_reducible rfl)
                try simp only [Act.put, List.getElem_toArray, List.getElem_cons_succ, List.getElem_cons_zero, List.setIfInBounds_toArray, List.set_cons_zero, List.set_cons_succ]
                refine C_take (i := 2) (v := ?v18_2) rfl (by kernel_rfl) (fun _ _ _ h => h) (Or.inl ⟨by rfl, ?y18_2⟩) (Or.inr hSd) ?r18_2
                case y18_2 => (intro w0 _; go_simp; try with_reducible rfl)
                try simp only [Act.put, List.getElem_toArray, List.getElem_cons_succ, List.getElem_cons_zero, List.setIfInBounds_toArray, List.set_cons_zero, List.set_cons_succ]
                refine C_one (i := 3) rfl (by kernel_rfl) (fun K hK => ?_)
                rw [if_pos (by rfl)]
                go_simp
                refine (power_any q _ (by omega)).mono ?_
                rintro e X9 ⟨rfl, rfl⟩
                have hS1 := (show (fun W9 : World => W9.cell? ⟨gr + 1, 0, none⟩ = some (.int .i64 (cq : Int))) _ from hSd)
                refine hK _ _ (.inr hS1) ?_
                clear hK K hSd
                have hSd := hS1
                clear hS1
                try simp only [Act.put, List.getElem_toArray, List.getElem_cons_succ, List.getElem_cons_zero, List.setIfInBounds_toArray, List.set_cons_zero, List.set_cons_succ]
                refine C_take (i := 4) (v := ?v18_4) rfl (by kernel_rfl) (fun _ _ _ h => h) (Or.inl ⟨by rfl, ?y18_4⟩) (Or.inr hSd) ?r18_4
                case y18_4 => (intro w0 _; go_simp; try with_reducible rfl)
                try simp only [Act.put, List.getElem_toArray, List.getElem_cons_succ, List.getElem_cons_zero, List.setIfInBounds_toArray, List.set_cons_zero, List.set_cons_succ]
                refine C_take (i := 5) (v := ?v18_5) rfl (by kernel_rfl) (fun _ _ _ h => h) (Or.inl ⟨by rfl, ?y18_5⟩) (Or.inr hSd) ?r18_5
                case y18_5 => (intro w0 _; go_simp; try with_reducible rfl)
                try simp only [Act.put, List.getElem_toArray, List.getElem_cons_succ, List.getElem_cons_zero, List.setIfInBounds_toArray, List.set_cons_zero, List.set_cons_succ]
                refine C_one (i := 6) rfl (by kernel_rfl) (fun K hK => ?_)
                rw [if_pos (by rfl)]
                have z0 := HZ.out.1
                have z1 := HZ.out.2
                go_simp
                have HF2 := Lib.hid (HPUT.out _ HF1.out)
                clear z0 z1
                refine hK _ _ (.inl (by kernel_rfl)) ?_
                clear hK K
                try clear hSd
                try simp only [Act.put, List.getElem_toArray, List.getElem_cons_succ, List.getElem_cons_zero, List.setIfInBounds_toArray, List.set_cons_zero, List.set_cons_succ]
                refine C_done (by kernel_rfl) ?_ _
                have hwc : IntKind.i64.wrap (cn : Int) = (cn : Int) := IntWalk.i64_in _ ⟨by omega, by omega⟩
                rw [hwc]
                clear hwc
                generalize World.setCell V0 _ _ = V1 at *
                have hqs : q < st.2.1.length := by rw [HI4.out.2, leftN_len', HNL.out]; exact hql
                have hlq : st.2.1.getD q 0 = st.2.1[q] := by rw [List.getD_eq_getElem?_getD, List.getElem?_eq_getElem hqs, Option.getD_some]
                have m1 := HF2.out.kp.cell 1
                have l1 : V1.cell? ⟨gl, q, none⟩ = some (.int .i64 (st.2.1.getD q 0)) := by
                  rw [HF2.out.own.cellAt q (by omega), hlq]
                  unfold intsV9
                  simp [hqs]
                have hmin : (if st.2.1[q] < st.2.2 then st.2.1[q] else st.2.2) = docP need.length o q (l.drop (i + 1)) st.2.1 st.2.2 1 := by rw [docP_one, hlq]; split <;> omega
                have HQS := Lib.hid (And.intro hqs hlq)
                clear HSD HZ HPUT HF1 hlq
                go_upto_region 19 with fail
                have HC9 : Hid (V1.drew.cell? ⟨gr + 1, 1, none⟩ = some (.int .i64 st.2.2) ∧ V1.drew.cell? ⟨gl, q, none⟩ = some (.int .i64 (st.2.1.getD q 0))) := Lib.hid ⟨m1, l1⟩
                have HF3 := Lib.hid (HF2.out.call (Below.refl _ _).drew)
                clear m1 l1 HF2
                refine wp_region_held_drew (S := fun W9 : World => W9.cell? ⟨gr + 1, 1, none⟩ = some (.int .i64 st.2.2) ∧ W9.cell? ⟨gl, q, none⟩ = some (.int .i64 (st.2.1.getD q 0))) (by kernel_rfl) HC9.out (fun hH0 => ?_)
                generalize World.drew _ = V0 at *
                simp only [List.size_toArray, List.length_cons, List.length_nil, Nat.reduceAdd, Array.replicate_succ, Array.replicate_zero, List.push_toArray, List.nil_append, List.cons_append]
                refine wpAnyH_take (i := 0 ) (v := ?_) rfl (by kernel_rfl) (by kernel_rfl) (by kernel_rfl) (fun _ _ _ h => h) (Or.inl ⟨by rfl, ?_⟩) (by assumption) ?_; rotate_left; (· (intro w0 hSw; obtain ⟨y0, y1⟩ := hSw; go_simp); first | done | with_reducible rfl); (try simp only [Act.put, List.getElem_toArray, List.getElem_cons_zero, List.setIfInBounds_toArray, List.set_cons_zero, List.set_cons_succ])
                refine wpAnyH_take (i := 1 ) (v := ?_) rfl (by kernel_rfl) (by kernel_rfl) (by kernel_rfl) (fun _ _ _ h => h) (Or.inl ⟨by rfl, ?_⟩) (by assumption) ?_; rotate_left; (· (intro w0 hSw; obtain ⟨y0, y1⟩ := hSw; go_simp); first | done | with_reducible rfl); (try simp only [Act.put, List.getElem_toArray, List.getElem_cons_succ, List.getElem_cons_zero, List.setIfInBounds_toArray, List.set_cons_zero, List.set_cons_succ])
                refine wpAnyH_take (i := 2 ) (v := ?_) rfl (by kernel_rfl) (by kernel_rfl) (by kernel_rfl) (fun _ _ _ h => h) (Or.inl ⟨by rfl, ?_⟩) (by assumption) ?_; rotate_left; (· (intro w0 hSw; obtain ⟨y0, y1⟩ := hSw; go_simp); first | done | with_reducible rfl); (try simp only [Act.put, List.getElem_toArray, List.getElem_cons_succ, List.getElem_cons_zero, List.setIfInBounds_toArray, List.set_cons_zero, List.set_cons_succ])
                refine wpAnyH_take (i := 3 ) (v := ?_) rfl (by kernel_rfl) (by kernel_rfl) (by kernel_rfl) (fun _ _ _ h => h) (Or.inl ⟨by rfl, ?_⟩) (by assumption) ?_; rotate_left; (· (intro w0 hSw; obtain ⟨y0, y1⟩ := hSw; go_simp); first | done | with_reducible rfl); (try simp only [Act.put, List.getElem_toArray, List.getElem_cons_succ, List.getElem_cons_zero, List.setIfInBounds_toArray, List.set_cons_zero, List.set_cons_succ])
                refine wpAnyH_take (i := 4 ) (v := ?_) rfl (by kernel_rfl) (by kernel_rfl) (by kernel_rfl) (fun _ _ _ h => h) (Or.inl ⟨by rfl, ?_⟩) (by assumption) ?_; rotate_left; (· (intro w0 hSw; obtain ⟨y0, y1⟩ := hSw; go_simp); first | done | with_reducible rfl); (try simp only [Act.put, List.getElem_toArray, List.getElem_cons_succ, List.getElem_cons_zero, List.setIfInBounds_toArray, List.set_cons_zero, List.set_cons_succ])
                refine wpAnyH_take (i := 5 ) (v := ?_) rfl (by kernel_rfl) (by kernel_rfl) (by kernel_rfl) (fun _ _ _ h => h) (Or.inl ⟨by rfl, ?_⟩) (by assumption) ?_; rotate_left; (· (intro w0 hSw; obtain ⟨y0, y1⟩ := hSw; go_simp); first | done | with_reducible rfl); (try simp only [Act.put, List.getElem_toArray, List.getElem_cons_succ, List.getElem_cons_zero, List.setIfInBounds_toArray, List.set_cons_zero, List.set_cons_succ])
                refine wpAnyH_take (i := 6 ) (v := ?_) rfl (by kernel_rfl) (by kernel_rfl) (by kernel_rfl) (fun _ _ _ h => h) (Or.inl ⟨by rfl, ?_⟩) (by assumption) ?_; rotate_left; (· (intro w0 hSw; obtain ⟨y0, y1⟩ := hSw; go_simp); first | done | with_reducible rfl); (try simp only [Act.put, List.getElem_toArray, List.getElem_cons_succ, List.getElem_cons_zero, List.setIfInBounds_toArray, List.set_cons_zero, List.set_cons_succ])
                refine wpAnyH_take (i := 7 ) (v := ?_) rfl (by kernel_rfl) (by kernel_rfl) (by kernel_rfl) (fun _ _ _ h => h) (Or.inl ⟨by rfl, ?_⟩) (by assumption) ?_; rotate_left; (· (intro w0 hSw; obtain ⟨y0, y1⟩ := hSw; go_simp); first | done | with_reducible rfl); (try simp only [Act.put, List.getElem_toArray, List.getElem_cons_succ, List.getElem_cons_zero, List.setIfInBounds_toArray, List.set_cons_zero, List.set_cons_succ])
                refine wpAnyH_done (by kernel_rfl) ?_ _
                try rw [hmin]
                clear hmin HC9
                generalize World.drew V1 = V2 at *
                have hP8 : 2 ^ need.length ≤ 2 ^ 8 := Nat.pow_le_pow_right (by omega) hc8
                have hP1 : 1 ≤ 2 ^ need.length := Nat.one_le_two_pow
                have HPE : Hid (docP need.length o q (l.drop (i + 1)) st.2.1 st.2.2 (2 ^ need.length) = docN need.length o q (l.drop (i + 1)) st.2.1 st.2.2) := Lib.hid (docP_end _ _ _ _ _ _)
                have HPN : Hid (∀ k, 1 ≤ k → docP need.length o q (l.drop (i + 1)) st.2.1 st.2.2 (k + 1) = if (!k.testBit q && mt o (q + 1) k) = true then min (docP need.length o q (l.drop (i + 1)) st.2.1 st.2.2 k) (st.2.2 + hasS (l.drop (i + 1)) k - needS st.2.1 k) else docP need.length o q (l.drop (i + 1)) st.2.1 st.2.2 k) := Lib.hid fun k h => docP_next _ _ _ _ _ _ h
                obtain ⟨dP, hdP⟩ : ∃ f : Nat → Int, ∀ k, f k = docP need.length o q (l.drop (i + 1)) st.2.1 st.2.2 k := ⟨_, fun _ => rfl⟩
                simp only [← hdP] at HPE HPN ⊢
                clear hdP
                have HPRE : Hid (PilesIn (l.drop (i + 1))) := Lib.hid ⟨by rw [List.length_drop]; omega, fun p hp => HPI.out.2 p (List.mem_of_mem_drop hp)⟩
                have HNIN : Hid (NeedIn st.2.1) := Lib.hid ⟨by rw [HI4.out.2, leftN_len', HNL.out]; exact hc8, fun x hx => by
                  obtain ⟨j, hj, rfl⟩ := List.getElem_of_mem hx
                  have h1 := HI1.out.nn j
                  have h2 := HI2.out j
                  have h3 := HD2.out j
                  rw [List.getD_eq_getElem?_getD, List.getElem?_eq_getElem hj, Option.getD_some] at h1 h2
                  omega⟩
                have hmn0 := HI1.out.mn
                have hI3 := I3
                obtain ⟨P, hP⟩ : ∃ P, P = 2 ^ need.length := ⟨_, rfl⟩
                rw [← hP] at hP8 hP1
                have HPP := Lib.hid hP
                clear hP
                go_wp2_with fail
                go_loopw [17, 18] (fun nv kv X => ∃ k : Nat, 1 ≤ k ∧ k ≤ P ∧ nv = .int .i64 (dP k) ∧ kv = .int .i64 k ∧ Hid (FiS w gl cl need.length gr (gr + 1) w3.heap.size s0 i vs ((docRows need.length l nl).take i) st (cn : Int) X)) (fun _ kv _ => P - (intOf kv).toNat)
                case atStart => exact ⟨1, by omega, by omega, rfl, rfl, HF3⟩
                case round =>
                  obtain ⟨k, hk1, hkP, rfl, rfl, HFX⟩ := hrel
                  rename World => X
                  by_cases hkl : k < P
                  · have hki : (k : Int) < (P : Int) := by omega
                    have hki0 : (0 : Int) ≤ k := by omega
                    have hP9 : P ≤ 256 := hP8
                    go_wp2_with fail
                    refine (power_any need.length _ (by omega)).mono ?_
                    rintro e w' ⟨rfl, rfl⟩
                    rw [← HPP.out]
                    go_wp2_with fail
                    refine (rHas_any k q _ (by omega) (by omega)).mono ?_
                    rintro e w' ⟨rfl, rfl⟩
                    have hnx := HPN.out k hk1
                    cases hb : k.testBit q with
                    | true =>
                      have HPK : Hid (dP (k + 1) = dP k) := Lib.hid (by rw [hnx, hb]; simp)
                      clear hnx hb
                      go_wp2_with fail
                      go_roundw
                      case rel => exact ⟨k + 1, by omega, by omega, by rw [HPK.out], by go_num, HFX⟩
                      case measure => exact meas9 hkl
                    | false =>
                      have c0 := HFX.out.kp.cell 0
                      go_wp2_with fail
                      refine (rcommon_any k cn _ (by omega) hcn).mono ?_
                      rintro e w' ⟨rfl, rfl⟩
                      have hcm : (k &&& cn != 0) = mt o (q + 1) k := by rw [← hcn']; exact cut_common _ _ _
                      rw [hcm]
                      cases hm : mt o (q + 1) k with
                      | false =>
                        have HPK : Hid (dP (k + 1) = dP k) := Lib.hid (by rw [hnx, hm]; simp)
                        clear hnx hb hm hcm c0
                        go_wp2_with fail
                        go_roundw
                        case rel => exact ⟨k + 1, by omega, by omega, by rw [HPK.out], by go_num, HFX⟩
                        case measure => exact meas9 hkl
                      | true =>
                        have HPK : Hid (dP (k + 1) = min (dP k) (st.2.2 + hasS (l.drop (i + 1)) k - needS st.2.1 k)) := Lib.hid (by rw [hnx, hb, hm]; simp)
                        obtain ⟨b1, b2⟩ := has_bd9 HPRE.out k
                        obtain ⟨b3, b4⟩ := need_bd HNIN.out k
                        clear hnx hb hm hcm c0
                        have hlen : st.2.1.length = need.length := by rw [HI4.out.2, leftN_len', HNL.out]
                        have HRD : Hid (∀ W9 : World, Below X.heap.size X W9 → W9.cell? ⟨gr + 1, 1, none⟩ = some (.int .i64 st.2.2)) := Lib.hid fun W9 h9 => (HFX.out.call h9).kp.cell 1
                        have HD : Hid (Below X.heap.size X X.drew) := Lib.hid (Below.refl _ _).drew
                        have HOF : Hid (∀ W9 : World, Below X.heap.size X W9 → Calls Try.prog 23 #[.slice (some ⟨gb, offb + (i + 1) * 2, none⟩) (l.length - (i + 1)) (d - (i + 1)), .int .i64 (k : Int)] W9 fun e w' => e = .returned (.int .i64 (hasS (l.drop (i + 1)) k)) ∧ W9 = w') := Lib.hid fun W9 h9 => by
                          have hW := HFX.out.hb.trans (h9.mono HFX.out.hb.size)
                          have := rOf_any W9 (some ⟨gb, offb + (i + 1) * 2, none⟩) (d - (i + 1)) k (l.drop (i + 1)) (by omega) HPRE.out (fun _ => ⟨gb, _, rfl, by have := hW.size; omega, fun j hj => by
                            rw [List.length_drop] at hj
                            obtain ⟨z1, z2⟩ := HAT.out (i + 1 + j) (by omega)
                            rw [List.getElem_drop, hW.cell (p := ⟨gb, _, none⟩) hgb, hW.cell (p := ⟨gb, _, none⟩) hgb, show offb + (i + 1) * 2 + j * 2 = offb + (i + 1 + j) * 2 by omega]
                            exact ⟨z1, z2⟩⟩)
                          rw [List.length_drop] at this
                          exact this
                        have HNE : Hid (∀ W9 : World, Below X.heap.size X W9 → Calls Try.prog 24 #[.slice (some ⟨gl, 0, none⟩) need.length cl, .int .i64 (k : Int)] W9 fun e w' => e = .returned (.int .i64 (needS st.2.1 k)) ∧ W9 = w') := Lib.hid fun W9 h9 => by
                          have := rNeeds_any W9 (some ⟨gl, 0, none⟩) cl k st.2.1 (by omega) HNIN.out (fun _ => ⟨gl, 0, rfl, by have := (HFX.out.call h9).kr.lt; omega, fun j hj => by
                            rw [Nat.zero_add, (HFX.out.call h9).own.cellAt j (by omega)]
                            unfold intsV9
                            simp [hj]⟩)
                          rw [hlen] at this
                          exact this
                        have hil : ((i : Int) + 1) ≤ l.length := by omega
                        have hwi : IntKind.i64.wrap ((i : Int) + 1) = (i : Int) + 1 := IntWalk.i64_in _ ⟨by omega, by omega⟩
                        have hi1 : (0 : Int) ≤ (i : Int) + 1 := by omega
                        have HMN : Hid ((if st.2.2 + hasS (l.drop (i + 1)) k - needS st.2.1 k < dP k then st.2.2 + hasS (l.drop (i + 1)) k - needS st.2.1 k else dP k) = dP (k + 1)) := Lib.hid (by rw [HPK.out]; split <;> omega)
                        have HFN : Hid (∀ U9 : World, Below X.heap.size X U9 → FiS w gl cl need.length gr (gr + 1) w3.heap.size s0 i vs ((docRows need.length l nl).take i) st (cn : Int) U9) := Lib.hid fun U9 h9 => HFX.out.call h9
                        have HO0 : Hid (d = i + 1 → ∀ W9 : World, Below X.heap.size X W9 → Calls Try.prog 23 #[.slice (some ⟨gb, offb, none⟩) 0 0, .int .i64 (k : Int)] W9 fun e w' => e = .returned (.int .i64 (hasS (l.drop (i + 1)) k)) ∧ W9 = w') := Lib.hid fun hd W9 h9 => by
                          have e9 : l.drop (i + 1) = [] := List.drop_of_length_le (by omega)
                          have := rOf_any W9 (some ⟨gb, offb, none⟩) 0 k [] (by omega) ⟨by simp, fun p hp => by simp at hp⟩ (fun h => absurd rfl h)
                          rw [e9]
                          exact this
                        have hw1 : IntKind.i64.wrap (st.2.2 + hasS (l.drop (i + 1)) k) = st.2.2 + hasS (l.drop (i + 1)) k := IntWalk.i64_in _ ⟨by omega, by omega⟩
                        have hw2 : IntKind.i64.wrap (st.2.2 + hasS (l.drop (i + 1)) k - needS st.2.1 k) = st.2.2 + hasS (l.drop (i + 1)) k - needS st.2.1 k := IntWalk.i64_in _ ⟨by omega, by omega⟩
                        clear HPK HFX HPN HPE HPRE HNIN HNX2 HI1 HI2 HI4 HDD HAT HIT HD2 HE HSTR HLM HDS HNL HQS HPI b1 b2 b3 b4 hlen HN48
                        generalize hasS (l.drop (i + 1)) k = hs at *
                        generalize needS st.2.1 k = ns at *
                        generalize hE1 : dP (k + 1) = e1 at *
                        generalize dP k = e0 at *
                        by_cases hd1 : d = i + 1
                        · have HOF2 := Lib.hid (HO0.out hd1)
                          clear HO0 HOF
                          subst hd1
                          go_upto_region 24 with fail
                          refine wp_region_held_drew (S := fun W9 => Below X.heap.size X W9) (by kernel_rfl) HD.out (fun hH0 => ?_)
                          generalize World.drew _ = V0 at *
                          simp only [List.size_toArray, List.length_cons, List.length_nil, Nat.reduceAdd, Array.replicate_succ, Array.replicate_zero, List.push_toArray, List.nil_append, List.cons_append]
                          refine wpAnyH_take (i := 0 ) (v := ?_) rfl (by kernel_rfl) (by kernel_rfl) (by kernel_rfl) (fun _ _ _ h => h) (Or.inl ⟨by rfl, ?_⟩) (by assumption) ?_; rotate_left; (· (intro w0 hSw; have y0 := HRD.out _ hSw; clear hSw; go_simp); first | done | with_reducible rfl); (try simp only [Act.put, List.getElem_toArray, List.getElem_cons_zero, List.setIfInBounds_toArray, List.set_cons_zero, List.set_cons_succ])
                          refine wpAnyH_take (i := 1 ) (v := ?_) rfl (by kernel_rfl) (by kernel_rfl) (by kernel_rfl) (fun _ _ _ h => h) (Or.inl ⟨by rfl, ?_⟩) (by assumption) ?_; rotate_left; (· (intro w0 hSw; have y0 := HRD.out _ hSw; clear hSw; go_simp); first | done | with_reducible rfl); (try simp only [Act.put, List.getElem_toArray, List.getElem_cons_succ, List.getElem_cons_zero, List.setIfInBounds_toArray, List.set_cons_zero, List.set_cons_succ])
                          refine wpAnyH_take (i := 2 ) (v := ?_) rfl (by kernel_rfl) (by kernel_rfl) (by kernel_rfl) (fun _ _ _ h => h) (Or.inl ⟨by rfl, ?_⟩) (by assumption) ?_; rotate_left; (· (intro w0 hSw; have y0 := HRD.out _ hSw; clear hSw; go_simp); first | done | with_reducible rfl); (try simp only [Act.put, List.getElem_toArray, List.getElem_cons_succ, List.getElem_cons_zero, List.setIfInBounds_toArray, List.set_cons_zero, List.set_cons_succ])
                          refine wpAnyH_take (i := 3 ) (v := ?_) rfl (by kernel_rfl) (by kernel_rfl) (by kernel_rfl) (fun _ _ _ h => h) (Or.inl ⟨by rfl, ?_⟩) (by assumption) ?_; rotate_left; (· (intro w0 hSw; have y0 := HRD.out _ hSw; clear hSw; go_simp); first | done | with_reducible rfl); (try simp only [Act.put, List.getElem_toArray, List.getElem_cons_succ, List.getElem_cons_zero, List.setIfInBounds_toArray, List.set_cons_zero, List.set_cons_succ])
                          refine wpAnyH_take (i := 4 ) (v := ?_) rfl (by kernel_rfl) (by kernel_rfl) (by kernel_rfl) (fun _ _ _ h => h) (Or.inl ⟨by rfl, ?_⟩) (by assumption) ?_; rotate_left; (· (intro w0 hSw; have y0 := HRD.out _ hSw; clear hSw; go_simp); first | done | with_reducible rfl); (try simp only [Act.put, List.getElem_toArray, List.getElem_cons_succ, List.getElem_cons_zero, List.setIfInBounds_toArray, List.set_cons_zero, List.set_cons_succ])
                          refine wpAnyH_take (i := 5 ) (v := ?_) rfl (by kernel_rfl) (by kernel_rfl) (by kernel_rfl) (fun _ _ _ h => h) (Or.inl ⟨by rfl, ?_⟩) (by assumption) ?_; rotate_left; (· (intro w0 hSw; have y0 := HRD.out _ hSw; clear hSw; go_simp); first | done | with_reducible rfl); (try simp only [Act.put, List.getElem_toArray, List.getElem_cons_succ, List.getElem_cons_zero, List.setIfInBounds_toArray, List.set_cons_zero, List.set_cons_succ])
                          refine wpAnyH_take (i := 6 ) (v := ?_) rfl (by kernel_rfl) (by kernel_rfl) (by kernel_rfl) (fun _ _ _ h => h) (Or.inl ⟨by rfl, ?_⟩) (by assumption) ?_; rotate_left; (· (intro w0 hSw; have y0 := HRD.out _ hSw; clear hSw; go_simp); first | done | with_reducible rfl); (try simp only [Act.put, List.getElem_toArray, List.getElem_cons_succ, List.getElem_cons_zero, List.setIfInBounds_toArray, List.set_cons_zero, List.set_cons_succ])
                          refine wpAnyH_take (i := 7 ) (v := ?_) rfl (by kernel_rfl) (by kernel_rfl) (by kernel_rfl) (fun _ _ _ h => h) (Or.inl ⟨by rfl, ?_⟩) (by assumption) ?_; rotate_left; (· (intro w0 hSw; have y0 := HRD.out _ hSw; clear hSw; go_simp); first | done | with_reducible rfl); (try simp only [Act.put, List.getElem_toArray, List.getElem_cons_succ, List.getElem_cons_zero, List.setIfInBounds_toArray, List.set_cons_zero, List.set_cons_succ])
                          refine wpAnyH_take (i := 10 ) (v := ?_) rfl (by kernel_rfl) (by kernel_rfl) (by kernel_rfl) (fun _ _ _ h => h) (Or.inl ⟨by rfl, ?_⟩) (by assumption) ?_; rotate_left; (· (intro w0 hSw; have y0 := HRD.out _ hSw; clear hSw; go_simp); first | done | with_reducible rfl); (try simp only [Act.put, List.getElem_toArray, List.getElem_cons_succ, List.getElem_cons_zero, List.setIfInBounds_toArray, List.set_cons_zero, List.set_cons_succ])
                          refine wpAnyH_take (i := 11 ) (v := ?_) rfl (by kernel_rfl) (by kernel_rfl) (by kernel_rfl) (fun _ _ _ h => h) (Or.inl ⟨by rfl, ?_⟩) (by assumption) ?_; rotate_left; (· (intro w0 hSw; have y0 := HRD.out _ hSw; clear hSw; go_simp); first | done | with_reducible rfl); (try simp only [Act.put, List.getElem_toArray, List.getElem_cons_succ, List.getElem_cons_zero, List.setIfInBounds_toArray, List.set_cons_zero, List.set_cons_succ])
                          refine wpAnyH_ready (rs := [8]) (by kernel_rfl) (by simp) ?_
                          refine AllReadyH.cons (by simp only [List.getElem?_toArray, List.getElem?_cons_succ, List.getElem?_cons_zero]; rfl) (fun K hK => ?_) AllReadyH.nil
                          go_simp
                          refine (HOF2.out _ HD.out).mono ?_
                          rintro e X9 ⟨rfl, rfl⟩
                          refine hK.out _ _ HD.out (fun hH1 => ?_)
                          clear hK K
                          try simp only [List.setIfInBounds_toArray, List.set_cons_zero, List.set_cons_succ]
                          refine wpAnyH_take (i := 9 ) (v := ?_) rfl (by kernel_rfl) (by kernel_rfl) (by kernel_rfl) (fun _ _ _ h => h) (Or.inl ⟨by rfl, ?_⟩) (by assumption) ?_; rotate_left; (· (intro w0 hSw; have y0 := HRD.out _ hSw; clear hSw; go_simp); first | done | with_reducible rfl); (try simp only [Act.put, List.getElem_toArray, List.getElem_cons_succ, List.getElem_cons_zero, List.setIfInBounds_toArray, List.set_cons_zero, List.set_cons_succ])
                          refine wpAnyH_ready (rs := [12]) (by kernel_rfl) (by simp) ?_
                          refine AllReadyH.cons (by simp only [List.getElem?_toArray, List.getElem?_cons_succ, List.getElem?_cons_zero]; rfl) (fun K hK => ?_) AllReadyH.nil
                          go_simp
                          refine (HNE.out _ HD.out).mono ?_
                          rintro e X9 ⟨rfl, rfl⟩
                          refine hK.out _ _ HD.out (fun hH2 => ?_)
                          clear hK K
                          try simp only [List.setIfInBounds_toArray, List.set_cons_zero, List.set_cons_succ]
                          refine wpAnyH_take (i := 13 ) (v := ?_) rfl (by kernel_rfl) (by kernel_rfl) (by kernel_rfl) (fun _ _ _ h => h) (Or.inl ⟨by rfl, ?_⟩) (by assumption) ?_; rotate_left; (· (intro w0 hSw; have y0 := HRD.out _ hSw; clear hSw; go_simp); first | done | with_reducible rfl); (try simp only [Act.put, List.getElem_toArray, List.getElem_cons_succ, List.getElem_cons_zero, List.setIfInBounds_toArray, List.set_cons_zero, List.set_cons_succ])
                          refine wpAnyH_take (i := 14 ) (v := ?_) rfl (by kernel_rfl) (by kernel_rfl) (by kernel_rfl) (fun _ _ _ h => h) (Or.inl ⟨by rfl, ?_⟩) (by assumption) ?_; rotate_left; (· (intro w0 hSw; have y0 := HRD.out _ hSw; clear hSw; go_simp); first | done | with_reducible rfl); (try simp only [Act.put, List.getElem_toArray, List.getElem_cons_succ, List.getElem_cons_zero, List.setIfInBounds_toArray, List.set_cons_zero, List.set_cons_succ])
                          refine wpAnyH_take (i := 15 ) (v := ?_) rfl (by kernel_rfl) (by kernel_rfl) (by kernel_rfl) (fun _ _ _ h => h) (Or.inl ⟨by rfl, ?_⟩) (by assumption) ?_; rotate_left; (· (intro w0 hSw; have y0 := HRD.out _ hSw; clear hSw; go_simp); first | done | with_reducible rfl); (try simp only [Act.put, List.getElem_toArray, List.getElem_cons_succ, List.getElem_cons_zero, List.setIfInBounds_toArray, List.set_cons_zero, List.set_cons_succ])
                          refine wpAnyH_done (by kernel_rfl) ?_ _
                          rw [HMN.out]
                          clear hw1 hw2 hwi
                          go_wp2_with fail
                          go_roundw
                          case rel => exact ⟨k + 1, by omega, by omega, by rw [← hE1], by go_num, HFN.out _ HD.out⟩
                          case measure => exact meas9 hkl
                        · clear HO0
                          go_upto_region 24 with fail
                          refine wp_region_held_drew (S := fun W9 => Below X.heap.size X W9) (by kernel_rfl) HD.out (fun hH0 => ?_)
                          generalize World.drew _ = V0 at *
                          simp only [List.size_toArray, List.length_cons, List.length_nil, Nat.reduceAdd, Array.replicate_succ, Array.replicate_zero, List.push_toArray, List.nil_append, List.cons_append]
                          refine wpAnyH_take (i := 0 ) (v := ?_) rfl (by kernel_rfl) (by kernel_rfl) (by kernel_rfl) (fun _ _ _ h => h) (Or.inl ⟨by rfl, ?_⟩) (by assumption) ?_; rotate_left; (· (intro w0 hSw; have y0 := HRD.out _ hSw; clear hSw; go_simp); first | done | with_reducible rfl); (try simp only [Act.put, List.getElem_toArray, List.getElem_cons_zero, List.setIfInBounds_toArray, List.set_cons_zero, List.set_cons_succ])
                          refine wpAnyH_take (i := 1 ) (v := ?_) rfl (by kernel_rfl) (by kernel_rfl) (by kernel_rfl) (fun _ _ _ h => h) (Or.inl ⟨by rfl, ?_⟩) (by assumption) ?_; rotate_left; (· (intro w0 hSw; have y0 := HRD.out _ hSw; clear hSw; go_simp); first | done | with_reducible rfl); (try simp only [Act.put, List.getElem_toArray, List.getElem_cons_succ, List.getElem_cons_zero, List.setIfInBounds_toArray, List.set_cons_zero, List.set_cons_succ])
                          refine wpAnyH_take (i := 2 ) (v := ?_) rfl (by kernel_rfl) (by kernel_rfl) (by kernel_rfl) (fun _ _ _ h => h) (Or.inl ⟨by rfl, ?_⟩) (by assumption) ?_; rotate_left; (· (intro w0 hSw; have y0 := HRD.out _ hSw; clear hSw; go_simp); first | done | with_reducible rfl); (try simp only [Act.put, List.getElem_toArray, List.getElem_cons_succ, List.getElem_cons_zero, List.setIfInBounds_toArray, List.set_cons_zero, List.set_cons_succ])
                          refine wpAnyH_take (i := 3 ) (v := ?_) rfl (by kernel_rfl) (by kernel_rfl) (by kernel_rfl) (fun _ _ _ h => h) (Or.inl ⟨by rfl, ?_⟩) (by assumption) ?_; rotate_left; (· (intro w0 hSw; have y0 := HRD.out _ hSw; clear hSw; go_simp); first | done | with_reducible rfl); (try simp only [Act.put, List.getElem_toArray, List.getElem_cons_succ, List.getElem_cons_zero, List.setIfInBounds_toArray, List.set_cons_zero, List.set_cons_succ])
                          refine wpAnyH_take (i := 4 ) (v := ?_) rfl (by kernel_rfl) (by kernel_rfl) (by kernel_rfl) (fun _ _ _ h => h) (Or.inl ⟨by rfl, ?_⟩) (by assumption) ?_; rotate_left; (· (intro w0 hSw; have y0 := HRD.out _ hSw; clear hSw; go_simp); first | done | with_reducible rfl); (try simp only [Act.put, List.getElem_toArray, List.getElem_cons_succ, List.getElem_cons_zero, List.setIfInBounds_toArray, List.set_cons_zero, List.set_cons_succ])
                          refine wpAnyH_take (i := 5 ) (v := ?_) rfl (by kernel_rfl) (by kernel_rfl) (by kernel_rfl) (fun _ _ _ h => h) (Or.inl ⟨by rfl, ?_⟩) (by assumption) ?_; rotate_left; (· (intro w0 hSw; have y0 := HRD.out _ hSw; clear hSw; go_simp); first | done | with_reducible rfl); (try simp only [Act.put, List.getElem_toArray, List.getElem_cons_succ, List.getElem_cons_zero, List.setIfInBounds_toArray, List.set_cons_zero, List.set_cons_succ])
                          refine wpAnyH_take (i := 6 ) (v := ?_) rfl (by kernel_rfl) (by kernel_rfl) (by kernel_rfl) (fun _ _ _ h => h) (Or.inl ⟨by rfl, ?_⟩) (by assumption) ?_; rotate_left; (· (intro w0 hSw; have y0 := HRD.out _ hSw; clear hSw; go_simp); first | done | with_reducible rfl); (try simp only [Act.put, List.getElem_toArray, List.getElem_cons_succ, List.getElem_cons_zero, List.setIfInBounds_toArray, List.set_cons_zero, List.set_cons_succ])
                          refine wpAnyH_take (i := 7 ) (v := ?_) rfl (by kernel_rfl) (by kernel_rfl) (by kernel_rfl) (fun _ _ _ h => h) (Or.inl ⟨by rfl, ?_⟩) (by assumption) ?_; rotate_left; (· (intro w0 hSw; have y0 := HRD.out _ hSw; clear hSw; go_simp); first | done | with_reducible rfl); (try simp only [Act.put, List.getElem_toArray, List.getElem_cons_succ, List.getElem_cons_zero, List.setIfInBounds_toArray, List.set_cons_zero, List.set_cons_succ])
                          refine wpAnyH_take (i := 10 ) (v := ?_) rfl (by kernel_rfl) (by kernel_rfl) (by kernel_rfl) (fun _ _ _ h => h) (Or.inl ⟨by rfl, ?_⟩) (by assumption) ?_; rotate_left; (· (intro w0 hSw; have y0 := HRD.out _ hSw; clear hSw; go_simp); first | done | with_reducible rfl); (try simp only [Act.put, List.getElem_toArray, List.getElem_cons_succ, List.getElem_cons_zero, List.setIfInBounds_toArray, List.set_cons_zero, List.set_cons_succ])
                          refine wpAnyH_take (i := 11 ) (v := ?_) rfl (by kernel_rfl) (by kernel_rfl) (by kernel_rfl) (fun _ _ _ h => h) (Or.inl ⟨by rfl, ?_⟩) (by assumption) ?_; rotate_left; (· (intro w0 hSw; have y0 := HRD.out _ hSw; clear hSw; go_simp); first | done | with_reducible rfl); (try simp only [Act.put, List.getElem_toArray, List.getElem_cons_succ, List.getElem_cons_zero, List.setIfInBounds_toArray, List.set_cons_zero, List.set_cons_succ])
                          refine wpAnyH_ready (rs := [8]) (by kernel_rfl) (by simp) ?_
                          refine AllReadyH.cons (by simp only [List.getElem?_toArray, List.getElem?_cons_succ, List.getElem?_cons_zero]; rfl) (fun K hK => ?_) AllReadyH.nil
                          go_simp
                          refine (HOF.out _ HD.out).mono ?_
                          rintro e X9 ⟨rfl, rfl⟩
                          refine hK.out _ _ HD.out (fun hH1 => ?_)
                          clear hK K
                          try simp only [List.setIfInBounds_toArray, List.set_cons_zero, List.set_cons_succ]
                          refine wpAnyH_take (i := 9 ) (v := ?_) rfl (by kernel_rfl) (by kernel_rfl) (by kernel_rfl) (fun _ _ _ h => h) (Or.inl ⟨by rfl, ?_⟩) (by assumption) ?_; rotate_left; (· (intro w0 hSw; have y0 := HRD.out _ hSw; clear hSw; go_simp); first | done | with_reducible rfl); (try simp only [Act.put, List.getElem_toArray, List.getElem_cons_succ, List.getElem_cons_zero, List.setIfInBounds_toArray, List.set_cons_zero, List.set_cons_succ])
                          refine wpAnyH_ready (rs := [12]) (by kernel_rfl) (by simp) ?_
                          refine AllReadyH.cons (by simp only [List.getElem?_toArray, List.getElem?_cons_succ, List.getElem?_cons_zero]; rfl) (fun K hK => ?_) AllReadyH.nil
                          go_simp
                          refine (HNE.out _ HD.out).mono ?_
                          rintro e X9 ⟨rfl, rfl⟩
                          refine hK.out _ _ HD.out (fun hH2 => ?_)
                          clear hK K
                          try simp only [List.setIfInBounds_toArray, List.set_cons_zero, List.set_cons_succ]
                          refine wpAnyH_take (i := 13 ) (v := ?_) rfl (by kernel_rfl) (by kernel_rfl) (by kernel_rfl) (fun _ _ _ h => h) (Or.inl ⟨by rfl, ?_⟩) (by assumption) ?_; rotate_left; (· (intro w0 hSw; have y0 := HRD.out _ hSw; clear hSw; go_simp); first | done | with_reducible rfl); (try simp only [Act.put, List.getElem_toArray, List.getElem_cons_succ, List.getElem_cons_zero, List.setIfInBounds_toArray, List.set_cons_zero, List.set_cons_succ])
                          refine wpAnyH_take (i := 14 ) (v := ?_) rfl (by kernel_rfl) (by kernel_rfl) (by kernel_rfl) (fun _ _ _ h => h) (Or.inl ⟨by rfl, ?_⟩) (by assumption) ?_; rotate_left; (· (intro w0 hSw; have y0 := HRD.out _ hSw; clear hSw; go_simp); first | done | with_reducible rfl); (try simp only [Act.put, List.getElem_toArray, List.getElem_cons_succ, List.getElem_cons_zero, List.setIfInBounds_toArray, List.set_cons_zero, List.set_cons_succ])
                          refine wpAnyH_take (i := 15 ) (v := ?_) rfl (by kernel_rfl) (by kernel_rfl) (by kernel_rfl) (fun _ _ _ h => h) (Or.inl ⟨by rfl, ?_⟩) (by assumption) ?_; rotate_left; (· (intro w0 hSw; have y0 := HRD.out _ hSw; clear hSw; go_simp); first | done | with_reducible rfl); (try simp only [Act.put, List.getElem_toArray, List.getElem_cons_succ, List.getElem_cons_zero, List.setIfInBounds_toArray, List.set_cons_zero, List.set_cons_succ])
                          refine wpAnyH_done (by kernel_rfl) ?_ _
                          rw [HMN.out]
                          clear hw1 hw2 hwi
                          go_wp2_with fail
                          go_roundw
                          case rel => exact ⟨k + 1, by omega, by omega, by rw [← hE1], by go_num, HFN.out _ HD.out⟩
                          case measure => exact meas9 hkl
                  · obtain rfl : k = P := by omega
                    have hki : ¬ (k : Int) < (k : Int) := by omega
                    go_wp2_with fail
                    refine (power_any need.length _ (by omega)).mono ?_
                    rintro e w' ⟨rfl, rfl⟩
                    rw [← HPP.out]
                    have HEX : Hid (dP k = docN need.length o q (l.drop (i + 1)) st.2.1 st.2.2) := Lib.hid (by rw [HPP.out]; exact HPE.out)
                    obtain ⟨hq2, hlq2⟩ := HQS.out
                    have hq1 : q < st.1.length := by rw [HI4.out.1]; exact hql
                    have hdm := HDD.out.1
                    have hl50 : st.2.1[q] ≤ 50331648 := by
                      have h2 := HI2.out q
                      have h3 := HD2.out q
                      rw [hlq2] at h2
                      omega
                    rw [hlq2] at hdm
                    rw [HEX.out]
                    generalize docN need.length o q (l.drop (i + 1)) st.2.1 st.2.2 = nn at *
                    have f1 := HFX.out.kr.frozen q
                    have c1 : X.cell? ⟨gr, q, none⟩ = some (.int .i64 st.1[q]) := by
                      rw [HFX.out.kr.cell]
                      unfold intsV9
                      simp [hq1]
                    have HF4 := Lib.hid (HFX.out.setR hgw hgr1 (by omega) q nn)
                    clear HEX HDD HPE HPN HPP HFX HIT HE HAT HN48 HPRE HNIN HI1 HI2 HD2
                    go_upto_region 26 with fail
                    generalize World.setCell X _ _ = X1 at *
                    clear f1 c1
                    obtain ⟨cur, hcur⟩ := own_blk9 HF4.out.own
                    have f2 := hcur.frozen q
                    have c2 : X1.cell? ⟨gl, q, none⟩ = some (.int .i64 st.2.1[q]) := by
                      rw [HF4.out.own.cellAt q (by omega)]
                      unfold intsV9
                      simp [hq2]
                    have hw3 : IntKind.i64.wrap (st.2.1[q] - nn) = st.2.1[q] - nn := IntWalk.i64_in _ ⟨by omega, by omega⟩
                    have HF5 := Lib.hid (HF4.out.setL hgw hgr1 (by omega) q (st.2.1[q] - nn))
                    clear hcur HF4
                    go_upto_region 27 with fail
                    generalize World.setCell X1 _ _ = X2 at *
                    clear f2 c2 hw3
                    have f3 := HF5.out.kp.frozen 1
                    have c3 : X2.cell? ⟨gr + 1, 1, none⟩ = some (.int .i64 st.2.2) := HF5.out.kp.cell 1
                    have hw4 : IntKind.i64.wrap (st.2.2 - nn) = st.2.2 - nn := IntWalk.i64_in _ ⟨by omega, by omega⟩
                    have HF6 : Hid (FiS w gl cl need.length gr (gr + 1) w3.heap.size s0 i vs ((docRows need.length l nl).take i) (stR (q + 1)) (cn : Int) (X2.setCell ⟨gr + 1, 1, none⟩ (.int .i64 (st.2.2 - nn)))) := Lib.hid (by
                      rw [HNX2.out]
                      unfold leftQ
                      rw [if_pos HB1.out, hlq2]
                      exact HF5.out.setM hgw hgr1 (by omega) (st.2.2 - nn))
                    clear HF5 HNX2 HQS
                    go_wp2_with fail
                    generalize World.setCell X2 _ _ = X3 at *
                    go_roundw
                    case rel => exact ⟨q + 1, by omega, by go_num, by rw [hcn']; exact HF6⟩
                    case measure => exact meas9 hql
            · obtain rfl : q = need.length := by omega
              have hqi : ¬ (need.length : Int) < (need.length : Int) := by omega
              obtain ⟨E1, E2⟩ := HE.out
              rw [← HSTR.out] at E1 E2
              have hS1 : (stR need.length).1.length = need.length := by rw [HSTR.out]; exact (itR_len _ _ _ _ _ _).1
              have hE1 := take_row hlt E1
              generalize stR need.length = sr at *
              have hgr1 : gl < gr := by omega
              have HB3 := Lib.hid ((Below.refl U.heap.size U).alloc (Nat.le_refl _) (.cells #[.slice (some ⟨gr, 0, none⟩) need.length need.length] 22))
              have HF3 := Lib.hid (HF.out.call HB3.out)
              have HNW : Hid (∀ (j : Nat) u, ([.slice (some ⟨gr, 0, none⟩) need.length need.length] : List Value)[j]? = some u → (U.alloc (.cells #[.slice (some ⟨gr, 0, none⟩) need.length need.length] 22)).cell? ((⟨U.heap.size, 0, none⟩ : Addr).add j) = some u) := Lib.hid (World.news_of_block (cs := #[.slice (some ⟨gr, 0, none⟩) need.length need.length]) (t := 22) (fr := (0, 0)) (World.alloc_heap_new U _))
              have hz3 : w3.heap.size ≤ (U.alloc (.cells #[.slice (some ⟨gr, 0, none⟩) need.length need.length] 22)).heap.size := by have := HF3.out.kr.lt; omega
              have HRS := Lib.hid (And.intro hE1 (And.intro E2 hS1))
              have hi10 : i ≤ 10 := by omega
              have hwz : w.heap.size ≤ U.heap.size := HF.out.hb.size
              have hgrU : gr < U.heap.size := HF.out.kr.lt
              clear E1 E2 hE1 hS1 HE HIT HAT HD2 HF
              go_wp2_with (at_builtin; refine wpList_append_own _ rfl _ _ 31 rfl w3.heap.size 22 i0 _ 1 24 und_rows9 HI.out.1 HI.out.2.1 HI.out.2.2.1 HI.out.2.2.2 rfl (by decide) s0 i vs rfl HF3.out.out ⟨U.heap.size, 0, none⟩ 1 1 [.slice (some ⟨gr, 0, none⟩) need.length need.length] rfl rfl HNW.out (by simp [Value.oneCell']) (by unfold maxLen; omega) (by omega) hz3 ?_; intro v' w2' hown hgr hnn; clear hnn; have HO4 := Lib.hid hown; have HG4 := Lib.hid hgr; clear hown hgr)
              go_roundw
              case rel =>
                obtain ⟨hE1, E2, hS1⟩ := HRS.out
                have hkI : KeepI9 _ w2' := keepI9_own HF3.out.out (by decide) HG4.out
                refine ⟨i + 1, v', vs ++ [.slice (some ⟨gr, 0, none⟩) need.length need.length], by omega, rfl, by go_num, Lib.hid ?_, Lib.hid ?_, HO4, Lib.hid ?_, ?_⟩
                · exact Below.grown HF3.out.hb HG4.out (Nat.le_trans hwz HB3.out.size) fun j e => by have := (HF3.out.out.lt j e).1; omega
                · rw [E2]
                  exact own_keepI9 HF3.out.own hkI
                · rw [hE1]
                  have hs2 := HG4.out.size
                  have h9 := ((HF3.out.rows.more (N' := U.heap.size) (Nat.le_of_lt hgrU)).snoc (by omega : gr ≠ gl) (by omega) hgrU HF3.out.kr)
                  rw [hS1] at h9
                  exact (h9.grown HF3.out.out HG4.out).more (by have := HB3.out.size; omega)
                · have hs2 := HG4.out.size
                  omega
              case measure => exact meas9 hlt
        · obtain rfl : i = l.length := by omega
          have hdl : (docRows need.length l nl).take l.length = docRows need.length l nl := List.take_of_length_le (by rw [docRows_len]; omega)
          rw [hdl] at HRK
          have hol := HOUT.out
          rw [← docRows_len need.length l nl] at hol
          obtain ⟨A6, c6, rfl, hrs⟩ := HRK.out.out (Nat.le_refl _) hol
          have HH := Lib.hid (HR2.out HE0.out HCF.out V A6 c6 HB.out hrs)
          rw [docRows_len] at *
          clear hrs hol HOUT HRK HO hdl
          go_wp2_with fail
          exact HH.out
  · have HE0 := Lib.hid h0
    generalize errE need l b = E at *
    go_wp2_with fail
    exact HR0.out HE0.out _ HB1.out
end Go.Proofs.Ytngoagfkcjkeoaa
