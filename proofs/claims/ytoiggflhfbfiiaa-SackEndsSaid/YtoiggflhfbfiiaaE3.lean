/- The law SackEnds where sacks and batch are valid: its fourth loop (the widest spans so far, one corner more), and the whole. -/
import Derived.Test.YtoiggflhfbfiiaaE2
namespace Go.Proofs.Ytoiggflhfbfiiaa
open Go.RowKit Go.Shelf

def loopsOf : Code → List Code
  | .loop c => c :: loopsOf c
  | .seq a b => loopsOf a ++ loopsOf b
  | .block _ c => loopsOf c
  | .scope c => loopsOf c
  | .cond _ a b => loopsOf a ++ loopsOf b
  | _ => []
noncomputable def fourthBody : Code := ((Try.f6.body.map loopsOf).getD [])[3]?.getD .skip

set_option maxRecDepth 100000 in
set_option maxHeartbeats 4000000 in
theorem fourth (w : World) (l : List Sack) (b : List Take) (p9 p10 p21 n : Nat) (hv : validB l b = true) (hne : p21 ≠ p10) (f : Value) (HF : Hid (Fst n f)) (wr : World)
    (HE7 : Hid (EndS w l b p9 p10 (mixS l b n 0) wr)) (Z0 : Hid (Blk wr p21 49 (span6 (ownS l b n))))
    (c0 c1 c2 c3 c4 c5 c6 c7 c8 c9 c12 c13 c14 c15 c16 c17 c18 c19 c20 c23 c24 c25 c26 c27 c28 c29 c30 c31 c32 c33 c34 c35 c36 c37 c38 c39 c40 c41 c42 c43 c44 c45 c46 c47 c48 c49 c50 c51 c52 c53 c54 c55 c56 c57 c58 c59 c60 c61 c62 c63 c64 c65 c66 c67 c68 c69 c70 c71 c72 c73 c74 c75 c76 c77 c78 c79 c80 c81 c82 c83 c84 c85 c86 c87 c88 c89 c90 c91 c92 c93 c94 c95 c96 c97 c98 c99 c100 c101 c102 c103 c104 c105 c106 c107 c108 c109 c110 c111 c112 c113 c114 c115 c116 c117 c118 c119 c120 c121 c122 c123 c124 c125 c126 c127 c128 c129 c130 c131 c132 c133 c134 c135 c136 c137 c138 c139 c140 c141 c142 c143 c144 c145 c146 c147 c148 c149 c150 c151 c152 c153 c154 c155 c156 c157 c158 c159 c160 c161 c162 c163 c164 c165 c166 c167 c168 c169 c170 c171 c172 c173 c174 c175 c176 c177 c178 c179 c180 c181 c182 c183 c184 c185 c186 c187 c188 c189 c190 c191 c192 c193 c194 c195 c196 : Value) (Q0 : Exit → Act → World → Prop)
    (hexit : ∀ (u4 u22 u150 u151 u152 u153 u154 u155 u156 u157 u158 u159 u160 u161 u162 u163 u164 u165 u166 u167 u168 u169 u170 u171 u172 u173 u174 u175 u176 u177 u178 u179 u180 u181 u182 u183 u184 u185 u186 u187 u188 u189 u190 : Value) (w' : World), Hid (EndS w l b p9 p10 (mixS l b n 6) w') → Q0 (.exit 6) ⟨List.toArray (c0 :: c1 :: c2 :: c3 :: u4 :: c5 :: c6 :: c7 :: c8 :: c9 :: .pointer (some ⟨p10, 0, none⟩) :: f :: c12 :: c13 :: c14 :: c15 :: c16 :: c17 :: c18 :: c19 :: c20 :: .pointer (some ⟨p21, 0, none⟩) :: u22 :: c23 :: c24 :: c25 :: c26 :: c27 :: c28 :: c29 :: c30 :: c31 :: c32 :: c33 :: c34 :: c35 :: c36 :: c37 :: c38 :: c39 :: c40 :: c41 :: c42 :: c43 :: c44 :: c45 :: c46 :: c47 :: c48 :: c49 :: c50 :: c51 :: c52 :: c53 :: c54 :: c55 :: c56 :: c57 :: c58 :: c59 :: c60 :: c61 :: c62 :: c63 :: c64 :: c65 :: c66 :: c67 :: c68 :: c69 :: c70 :: c71 :: c72 :: c73 :: c74 :: c75 :: c76 :: c77 :: c78 :: c79 :: c80 :: c81 :: c82 :: c83 :: c84 :: c85 :: c86 :: c87 :: c88 :: c89 :: c90 :: c91 :: c92 :: c93 :: c94 :: c95 :: c96 :: c97 :: c98 :: c99 :: c100 :: c101 :: c102 :: c103 :: c104 :: c105 :: c106 :: c107 :: c108 :: c109 :: c110 :: c111 :: c112 :: c113 :: c114 :: c115 :: c116 :: c117 :: c118 :: c119 :: c120 :: c121 :: c122 :: c123 :: c124 :: c125 :: c126 :: c127 :: c128 :: c129 :: c130 :: c131 :: c132 :: c133 :: c134 :: c135 :: c136 :: c137 :: c138 :: c139 :: c140 :: c141 :: c142 :: c143 :: c144 :: c145 :: c146 :: c147 :: c148 :: c149 :: u150 :: u151 :: u152 :: u153 :: u154 :: u155 :: u156 :: u157 :: u158 :: u159 :: u160 :: u161 :: u162 :: u163 :: u164 :: u165 :: u166 :: u167 :: u168 :: u169 :: u170 :: u171 :: u172 :: u173 :: u174 :: u175 :: u176 :: u177 :: u178 :: u179 :: u180 :: u181 :: u182 :: u183 :: u184 :: u185 :: u186 :: u187 :: u188 :: u189 :: u190 :: c191 :: c192 :: c193 :: c194 :: c195 :: c196 :: []), []⟩ w') :
    Code.wp Try.prog (Code.loop fourthBody) Q0 ⟨List.toArray (c0 :: c1 :: c2 :: c3 :: c4 :: c5 :: c6 :: c7 :: c8 :: c9 :: .pointer (some ⟨p10, 0, none⟩) :: f :: c12 :: c13 :: c14 :: c15 :: c16 :: c17 :: c18 :: c19 :: c20 :: .pointer (some ⟨p21, 0, none⟩) :: .int .i64 0 :: c23 :: c24 :: c25 :: c26 :: c27 :: c28 :: c29 :: c30 :: c31 :: c32 :: c33 :: c34 :: c35 :: c36 :: c37 :: c38 :: c39 :: c40 :: c41 :: c42 :: c43 :: c44 :: c45 :: c46 :: c47 :: c48 :: c49 :: c50 :: c51 :: c52 :: c53 :: c54 :: c55 :: c56 :: c57 :: c58 :: c59 :: c60 :: c61 :: c62 :: c63 :: c64 :: c65 :: c66 :: c67 :: c68 :: c69 :: c70 :: c71 :: c72 :: c73 :: c74 :: c75 :: c76 :: c77 :: c78 :: c79 :: c80 :: c81 :: c82 :: c83 :: c84 :: c85 :: c86 :: c87 :: c88 :: c89 :: c90 :: c91 :: c92 :: c93 :: c94 :: c95 :: c96 :: c97 :: c98 :: c99 :: c100 :: c101 :: c102 :: c103 :: c104 :: c105 :: c106 :: c107 :: c108 :: c109 :: c110 :: c111 :: c112 :: c113 :: c114 :: c115 :: c116 :: c117 :: c118 :: c119 :: c120 :: c121 :: c122 :: c123 :: c124 :: c125 :: c126 :: c127 :: c128 :: c129 :: c130 :: c131 :: c132 :: c133 :: c134 :: c135 :: c136 :: c137 :: c138 :: c139 :: c140 :: c141 :: c142 :: c143 :: c144 :: c145 :: c146 :: c147 :: c148 :: c149 :: c150 :: c151 :: c152 :: c153 :: c154 :: c155 :: c156 :: c157 :: c158 :: c159 :: c160 :: c161 :: c162 :: c163 :: c164 :: c165 :: c166 :: c167 :: c168 :: c169 :: c170 :: c171 :: c172 :: c173 :: c174 :: c175 :: c176 :: c177 :: c178 :: c179 :: c180 :: c181 :: c182 :: c183 :: c184 :: c185 :: c186 :: c187 :: c188 :: c189 :: c190 :: c191 :: c192 :: c193 :: c194 :: c195 :: c196 :: []), []⟩ wr := by
  have HX := Lib.hid hexit
  clear hexit
  have HFL := Lib.hid (own_flat hv n)
  have HOB := Lib.hid (own_bd hv n)
  have HBN := Lib.hid (fun q => best_next l b n q)
  have HMS := Lib.hid (fun q => mixS_at l b n q)
  have HMN := Lib.hid (fun (q : Nat) (hq : q < 6) => mixS_nextF l b n hq)
  clear hv
  conv => arg 2; arg 1; whnf
  go_loopw [22] (fun i wr => ∃ q : Nat, q ≤ 6 ∧ i = .int .i64 q ∧ Hid (EndS w l b p9 p10 (mixS l b n q) wr) ∧ Hid (Blk wr p21 49 (span6 (ownS l b n)))) (fun i _ => 6 - (intOf i).toNat)
  case atStart => exact ⟨0, by omega, rfl, HE7, Z0⟩
  case round =>
    clear HE7 Z0
    obtain ⟨q, hq, rfl, HE, HZ⟩ := hrel
    by_cases hlt6 : q < 6
    · obtain ⟨k0', k1'⟩ := spans6_at (ownS l b n) hlt6
      obtain ⟨d0', d1'⟩ := spans6_at (mixS l b n q) hlt6
      have hfl := HFL.out q
      obtain ⟨o1, o2, o3, o4⟩ := HOB.out q
      have hbn := HBN.out q
      have hms := HMS.out q
      rw [hms] at d0' d1'
      have HC01 := Lib.hid fun (W : World) (h : Blk W p21 49 (span6 (ownS l b n))) => (⟨(h.cell (q * 2)).trans k0', (h.cell (q * 2 + 1)).trans k1'⟩ : _ ∧ _)
      have HBNH := Lib.hid hbn
      have HST := Lib.hid fun (f : Nat → Span) (W : World) (h : EndS w l b p9 p10 f W) (x : Span) => h.set hlt6 x
      have HMN' := Lib.hid (HMN.out q hlt6)
      have HMNN := Lib.hid (twice_if (mixS l b n q) q (ownS l b n q) (bestS l b (n + 1) q) (HMN.out q hlt6))
      have HCL := Lib.hid fun (f : Nat → Span) (W : World) (h : EndS w l b p9 p10 f W) {x : Span} (hx : f q = x) => h.cells hlt6 hx
      have x0 := (HE.out.b10.cell (q * 2)).trans d0'
      have x1 := (HE.out.b10.cell (q * 2 + 1)).trans d1'
      have y0 := HE.out.b10.frozen (q * 2)
      have y1 := HE.out.b10.frozen (q * 2 + 1)
      obtain ⟨c0', c1'⟩ := HC01.out _ HZ.out
      have hq0 : (0 : Int) ≤ (q : Int) := by omega
      have hq6 : (q : Int) < 6 := by omega
      clear k0' k1' d0' d1' hbn hms
      have hw1 : IntKind.i64.wrap ((ownS l b n q).lo + 1) = (ownS l b n q).lo + 1 := wrap_in (by omega) (by omega)
      have hd : decide ((ownS l b n q).lo + 1 < (ownS l b n q).hi) = false := by simpa using hfl
      rcases HF.out with ⟨h0, hu⟩ | ⟨h0, hu⟩
      · have HN0 := Lib.hid h0
        subst hu
        clear h0
        go_wp2_with fail
        have HE8 := Lib.hid (HST.out _ _ HE.out (ownS l b n q))
        have HZ8 := Lib.hid ((HZ.out.far (p := ⟨p10, q * 2, none⟩) hne (.int .i64 (ownS l b n q).lo)).far (p := ⟨p10, q * 2 + 1, none⟩) hne (.int .i64 (ownS l b n q).hi))
        clear x0 x1 y0 y1 c0' c1' HE HZ
        generalize World.setCell (World.setCell wr _ _) _ _ = V at HE8 HZ8 ⊢
        obtain ⟨c0', c1'⟩ := HC01.out _ HZ8.out
        go_quiet (fail)
        go_wp2_with fail
        have HE11 := Lib.hid (HE8.out.call (below_drewN (Below.refl _ _) nq))
        have HZ11 : Hid (Blk (V.drewN nq) p21 49 (span6 (ownS l b n))) := HZ8
        clear c0' c1' HE8 HZ8
        generalize World.drewN V _ = V2 at HE11 HZ11 ⊢
        obtain ⟨c0', c1'⟩ := HC01.out _ HZ11.out
        obtain ⟨x0, x1, y0, y1⟩ := HCL.out _ _ HE11.out (if_pos rfl)
        refine wp_region_noPanic ?_
        refine C_begin (S := fun w' => w'.cell? ⟨p10, q * 2, none⟩ = some (.int .i64 (ownS l b n q).lo) ∧ w'.cell? ⟨p10, q * 2 + 1, none⟩ = some (.int .i64 (ownS l b n q).hi) ∧ w'.cell? ⟨p21, q * 2, none⟩ = some (.int .i64 (ownS l b n q).lo) ∧ w'.cell? ⟨p21, q * 2 + 1, none⟩ = some (.int .i64 (ownS l b n q).hi)) (c := 19) (by kernel_rfl) ?_
        have hSd : (V2.drew).cell? ⟨p10, q * 2, none⟩ = some (.int .i64 (ownS l b n q).lo) ∧ (V2.drew).cell? ⟨p10, q * 2 + 1, none⟩ = some (.int .i64 (ownS l b n q).hi) ∧ (V2.drew).cell? ⟨p21, q * 2, none⟩ = some (.int .i64 (ownS l b n q).lo) ∧ (V2.drew).cell? ⟨p21, q * 2 + 1, none⟩ = some (.int .i64 (ownS l b n q).hi) := ⟨x0, x1, c0', c1'⟩
        clear x0 x1 c0' c1'
        refine C_take (i := 0) (v := ?v1) rfl (by kernel_rfl) (fun _ _ _ h => h) (Or.inl ⟨by rfl, ?y1⟩) (Or.inr hSd) ?r1
        case y1 => (intro w _; go_simp; try with_reducible rfl)
        simp only [Act.put]
        refine C_take (i := 1) (v := ?v2) rfl (by kernel_rfl) (fun _ _ _ h => h) (Or.inl ⟨by rfl, ?y2⟩) (Or.inr hSd) ?r2
        case y2 => (intro w _; go_simp; try with_reducible rfl)
        simp only [Act.put]
        refine C_take (i := 2) (v := ?v3) rfl (by kernel_rfl) (fun _ _ _ h => h) (Or.inl ⟨by rfl, ?y3⟩) (Or.inr hSd) ?r3
        case y3 => (intro w _; go_simp; try with_reducible rfl)
        simp only [Act.put]
        refine C_take (i := 3) (v := ?v4) rfl (by kernel_rfl) (fun _ _ _ h => h) (Or.inl ⟨by rfl, ?y4⟩) (Or.inr hSd) ?r4
        case y4 => (intro w _; go_simp; try with_reducible rfl)
        simp only [Act.put]
        refine C_load (i := 4) (v := ?v5) [9, 19] rfl (by kernel_rfl) (fun _ _ _ h => h) (Or.inl ⟨by rfl, ?y5⟩) hSd ?r5
        case y5 => (intro w hSw; obtain ⟨s0, s1, s2, s3⟩ := hSw; go_simp; try with_reducible rfl)
        simp only [Act.put]
        refine C_take (i := 5) (v := ?v6) rfl (by kernel_rfl) (fun _ _ _ h => h) (Or.inl ⟨by rfl, ?y6⟩) (Or.inr hSd) ?r6
        case y6 => (intro w _; go_simp; try with_reducible rfl)
        simp only [Act.put]
        refine C_take (i := 6) (v := ?v7) rfl (by kernel_rfl) (fun _ _ _ h => h) (Or.inl ⟨by rfl, ?y7⟩) (Or.inr hSd) ?r7
        case y7 => (intro w _; go_simp; try with_reducible rfl)
        simp only [Act.put]
        refine C_take (i := 7) (v := ?v8) rfl (by kernel_rfl) (fun _ _ _ h => h) (Or.inl ⟨by rfl, ?y8⟩) (Or.inr hSd) ?r8
        case y8 => (intro w _; go_simp; try with_reducible rfl)
        simp only [Act.put]
        refine C_load (i := 8) (v := ?v9) [9, 19] rfl (by kernel_rfl) (fun _ _ _ h => h) (Or.inl ⟨by rfl, ?y9⟩) hSd ?r9
        case y9 => (intro w hSw; obtain ⟨s0, s1, s2, s3⟩ := hSw; go_simp; try with_reducible rfl)
        simp only [Act.put]
        refine C_take (i := 9) (v := ?v10) rfl (by kernel_rfl) (fun _ _ _ h => h) (Or.inl ⟨by rfl, ?y10⟩) (Or.inr hSd) ?r10
        case y10 => (intro w _; go_simp; try with_reducible rfl)
        simp only [Act.put]
        refine C_take (i := 10) (v := ?v11) rfl (by kernel_rfl) (fun _ _ _ h => h) (Or.inl ⟨by rfl, ?y11⟩) (Or.inr hSd) ?r11
        case y11 => (intro w _; go_simp; try with_reducible rfl)
        simp only [Act.put]
        refine C_take (i := 11) (v := ?v12) rfl (by kernel_rfl) (fun _ _ _ h => h) (Or.inl ⟨by rfl, ?y12⟩) (Or.inr hSd) ?r12
        case y12 => (intro w _; go_simp; try with_reducible rfl)
        simp only [Act.put]
        refine C_take (i := 12) (v := ?v13) rfl (by kernel_rfl) (fun _ _ _ h => h) (Or.inl ⟨by rfl, ?y13⟩) (Or.inr hSd) ?r13
        case y13 => (intro w _; go_simp; try with_reducible rfl)
        simp only [Act.put]
        refine C_load (i := 13) (v := ?v14) [18, 19] rfl (by kernel_rfl) (fun _ _ _ h => h) (Or.inl ⟨by rfl, ?y14⟩) hSd ?r14
        case y14 => (intro w hSw; obtain ⟨s0, s1, s2, s3⟩ := hSw; go_simp; try with_reducible rfl)
        simp only [Act.put]
        refine C_take (i := 14) (v := ?v15) rfl (by kernel_rfl) (fun _ _ _ h => h) (Or.inl ⟨by rfl, ?y15⟩) (Or.inr hSd) ?r15
        case y15 => (intro w _; go_simp; try with_reducible rfl)
        simp only [Act.put]
        refine C_take (i := 15) (v := ?v16) rfl (by kernel_rfl) (fun _ _ _ h => h) (Or.inl ⟨by rfl, ?y16⟩) (Or.inr hSd) ?r16
        case y16 => (intro w _; go_simp; try with_reducible rfl)
        simp only [Act.put]
        refine C_take (i := 16) (v := ?v17) rfl (by kernel_rfl) (fun _ _ _ h => h) (Or.inl ⟨by rfl, ?y17⟩) (Or.inr hSd) ?r17
        case y17 => (intro w _; go_simp; try with_reducible rfl)
        simp only [Act.put]
        refine C_load (i := 17) (v := ?v18) [18, 19] rfl (by kernel_rfl) (fun _ _ _ h => h) (Or.inl ⟨by rfl, ?y18⟩) hSd ?r18
        case y18 => (intro w hSw; obtain ⟨s0, s1, s2, s3⟩ := hSw; go_simp; try with_reducible rfl)
        simp only [Act.put]
        refine C_take (i := 18) (v := ?v19) rfl (by kernel_rfl) (fun _ _ _ h => h) (Or.inl ⟨by rfl, ?y19⟩) (Or.inr hSd) ?r19
        case y19 => (intro w _; go_simp; try with_reducible rfl)
        simp only [Act.put]
        clear hSd y0 y1
        have hbo : Below V2.heap.size V2 V2.drew := (Below.refl _ _).drew
        refine C_one (i := 19) rfl (by kernel_rfl) (fun K hK => ?_)
        rw [if_pos (by rfl)]
        go_simp
        go_at_call 24
        (with_reducible refine (span_any _ _ _).mono ?_)
        rintro e e' ⟨rfl, hb'⟩
        have HE9 := Lib.hid (HE11.out.call (hbo.trans hb'))
        have HZ9 := Lib.hid (HZ11.out.below (hbo.trans hb') HZ11.out.lt)
        clear hb' hbo
        obtain ⟨g0, g1, g2, g3⟩ := HCL.out _ _ HE9.out (if_pos rfl)
        refine hK _ _ (.inl (by kernel_rfl)) ?_
        clear hK K
        refine C_take (i := 20) (v := ?v20) rfl (by kernel_rfl) (fun _ _ _ h => h) (Or.inl ⟨by rfl, ?y20⟩) (Or.inl (by kernel_rfl)) ?r20
        case y20 => (intro w _; go_simp; try with_reducible rfl)
        simp only [Act.put]
        refine C_one (i := 21) rfl (by kernel_rfl) (fun K hK => ?_)
        rw [if_pos (by rfl)]
        go_simp
        refine hK _ _ (.inl (by kernel_rfl)) ?_
        clear hK K
        refine C_done (by kernel_rfl) ?_ _
        refine NoPanic.normal ?_
        have HZ10 := Lib.hid ((HZ9.out.far (p := ⟨p10, q * 2, none⟩) hne (.int .i64 (bestS l b (n + 1) q).lo)).far (p := ⟨p10, q * 2 + 1, none⟩) hne (.int .i64 (bestS l b (n + 1) q).hi))
        have HE10 := Lib.hid (HST.out _ _ HE9.out (bestS l b (n + 1) q))
        rw [HMNN.out] at HE10
        have HV1 := HBNH.out.1 HN0.out
        rw [HV1] at HZ10 HE10
        clear HV1 HE9 HZ9 g0 g1 g2 g3 HE11 HZ11
        go_wp2_with fail
        go_roundw
        case rel => first | exact ⟨q + 1, by omega, by go_num, HE10, HZ10⟩ | ((repeat apply Exists.intro); exact ⟨⟨q + 1, by omega, by go_num, HE10, HZ10⟩, rfl⟩)
        case measure => simp [intOf]; omega
      · have HN0 := Lib.hid h0
        subst hu
        clear h0
        go_wp2_with fail
        go_quiet (fail)
        go_wp2_with fail
        have HE8 := Lib.hid (HE.out.call (below_drewN (Below.refl _ _) nq))
        have HZ8 : Hid (Blk (wr.drewN nq) p21 49 (span6 (ownS l b n))) := HZ
        clear x0 x1 y0 y1 c0' c1' HE HZ
        generalize World.drewN wr _ = V at HE8 HZ8 ⊢
        obtain ⟨c0', c1'⟩ := HC01.out _ HZ8.out
        obtain ⟨x0, x1, y0, y1⟩ := HCL.out _ _ HE8.out (HMS.out q)
        refine wp_region_noPanic ?_
        refine C_begin (S := fun w' => w'.cell? ⟨p10, q * 2, none⟩ = some (.int .i64 (bestS l b n q).lo) ∧ w'.cell? ⟨p10, q * 2 + 1, none⟩ = some (.int .i64 (bestS l b n q).hi) ∧ w'.cell? ⟨p21, q * 2, none⟩ = some (.int .i64 (ownS l b n q).lo) ∧ w'.cell? ⟨p21, q * 2 + 1, none⟩ = some (.int .i64 (ownS l b n q).hi)) (c := 19) (by kernel_rfl) ?_
        have hSd : (V.drew).cell? ⟨p10, q * 2, none⟩ = some (.int .i64 (bestS l b n q).lo) ∧ (V.drew).cell? ⟨p10, q * 2 + 1, none⟩ = some (.int .i64 (bestS l b n q).hi) ∧ (V.drew).cell? ⟨p21, q * 2, none⟩ = some (.int .i64 (ownS l b n q).lo) ∧ (V.drew).cell? ⟨p21, q * 2 + 1, none⟩ = some (.int .i64 (ownS l b n q).hi) := ⟨x0, x1, c0', c1'⟩
        clear x0 x1 c0' c1'
        refine C_take (i := 0) (v := ?v21) rfl (by kernel_rfl) (fun _ _ _ h => h) (Or.inl ⟨by rfl, ?y21⟩) (Or.inr hSd) ?r21
        case y21 => (intro w _; go_simp; try with_reducible rfl)
        simp only [Act.put]
        refine C_take (i := 1) (v := ?v22) rfl (by kernel_rfl) (fun _ _ _ h => h) (Or.inl ⟨by rfl, ?y22⟩) (Or.inr hSd) ?r22
        case y22 => (intro w _; go_simp; try with_reducible rfl)
        simp only [Act.put]
        refine C_take (i := 2) (v := ?v23) rfl (by kernel_rfl) (fun _ _ _ h => h) (Or.inl ⟨by rfl, ?y23⟩) (Or.inr hSd) ?r23
        case y23 => (intro w _; go_simp; try with_reducible rfl)
        simp only [Act.put]
        refine C_take (i := 3) (v := ?v24) rfl (by kernel_rfl) (fun _ _ _ h => h) (Or.inl ⟨by rfl, ?y24⟩) (Or.inr hSd) ?r24
        case y24 => (intro w _; go_simp; try with_reducible rfl)
        simp only [Act.put]
        refine C_load (i := 4) (v := ?v25) [9, 19] rfl (by kernel_rfl) (fun _ _ _ h => h) (Or.inl ⟨by rfl, ?y25⟩) hSd ?r25
        case y25 => (intro w hSw; obtain ⟨s0, s1, s2, s3⟩ := hSw; go_simp; try with_reducible rfl)
        simp only [Act.put]
        refine C_take (i := 5) (v := ?v26) rfl (by kernel_rfl) (fun _ _ _ h => h) (Or.inl ⟨by rfl, ?y26⟩) (Or.inr hSd) ?r26
        case y26 => (intro w _; go_simp; try with_reducible rfl)
        simp only [Act.put]
        refine C_take (i := 6) (v := ?v27) rfl (by kernel_rfl) (fun _ _ _ h => h) (Or.inl ⟨by rfl, ?y27⟩) (Or.inr hSd) ?r27
        case y27 => (intro w _; go_simp; try with_reducible rfl)
        simp only [Act.put]
        refine C_take (i := 7) (v := ?v28) rfl (by kernel_rfl) (fun _ _ _ h => h) (Or.inl ⟨by rfl, ?y28⟩) (Or.inr hSd) ?r28
        case y28 => (intro w _; go_simp; try with_reducible rfl)
        simp only [Act.put]
        refine C_load (i := 8) (v := ?v29) [9, 19] rfl (by kernel_rfl) (fun _ _ _ h => h) (Or.inl ⟨by rfl, ?y29⟩) hSd ?r29
        case y29 => (intro w hSw; obtain ⟨s0, s1, s2, s3⟩ := hSw; go_simp; try with_reducible rfl)
        simp only [Act.put]
        refine C_take (i := 9) (v := ?v30) rfl (by kernel_rfl) (fun _ _ _ h => h) (Or.inl ⟨by rfl, ?y30⟩) (Or.inr hSd) ?r30
        case y30 => (intro w _; go_simp; try with_reducible rfl)
        simp only [Act.put]
        refine C_take (i := 10) (v := ?v31) rfl (by kernel_rfl) (fun _ _ _ h => h) (Or.inl ⟨by rfl, ?y31⟩) (Or.inr hSd) ?r31
        case y31 => (intro w _; go_simp; try with_reducible rfl)
        simp only [Act.put]
        refine C_take (i := 11) (v := ?v32) rfl (by kernel_rfl) (fun _ _ _ h => h) (Or.inl ⟨by rfl, ?y32⟩) (Or.inr hSd) ?r32
        case y32 => (intro w _; go_simp; try with_reducible rfl)
        simp only [Act.put]
        refine C_take (i := 12) (v := ?v33) rfl (by kernel_rfl) (fun _ _ _ h => h) (Or.inl ⟨by rfl, ?y33⟩) (Or.inr hSd) ?r33
        case y33 => (intro w _; go_simp; try with_reducible rfl)
        simp only [Act.put]
        refine C_load (i := 13) (v := ?v34) [18, 19] rfl (by kernel_rfl) (fun _ _ _ h => h) (Or.inl ⟨by rfl, ?y34⟩) hSd ?r34
        case y34 => (intro w hSw; obtain ⟨s0, s1, s2, s3⟩ := hSw; go_simp; try with_reducible rfl)
        simp only [Act.put]
        refine C_take (i := 14) (v := ?v35) rfl (by kernel_rfl) (fun _ _ _ h => h) (Or.inl ⟨by rfl, ?y35⟩) (Or.inr hSd) ?r35
        case y35 => (intro w _; go_simp; try with_reducible rfl)
        simp only [Act.put]
        refine C_take (i := 15) (v := ?v36) rfl (by kernel_rfl) (fun _ _ _ h => h) (Or.inl ⟨by rfl, ?y36⟩) (Or.inr hSd) ?r36
        case y36 => (intro w _; go_simp; try with_reducible rfl)
        simp only [Act.put]
        refine C_take (i := 16) (v := ?v37) rfl (by kernel_rfl) (fun _ _ _ h => h) (Or.inl ⟨by rfl, ?y37⟩) (Or.inr hSd) ?r37
        case y37 => (intro w _; go_simp; try with_reducible rfl)
        simp only [Act.put]
        refine C_load (i := 17) (v := ?v38) [18, 19] rfl (by kernel_rfl) (fun _ _ _ h => h) (Or.inl ⟨by rfl, ?y38⟩) hSd ?r38
        case y38 => (intro w hSw; obtain ⟨s0, s1, s2, s3⟩ := hSw; go_simp; try with_reducible rfl)
        simp only [Act.put]
        refine C_take (i := 18) (v := ?v39) rfl (by kernel_rfl) (fun _ _ _ h => h) (Or.inl ⟨by rfl, ?y39⟩) (Or.inr hSd) ?r39
        case y39 => (intro w _; go_simp; try with_reducible rfl)
        simp only [Act.put]
        clear hSd y0 y1
        have hbo : Below V.heap.size V V.drew := (Below.refl _ _).drew
        refine C_one (i := 19) rfl (by kernel_rfl) (fun K hK => ?_)
        rw [if_pos (by rfl)]
        go_simp
        go_at_call 24
        (with_reducible refine (span_any _ _ _).mono ?_)
        rintro e e' ⟨rfl, hb'⟩
        have HE9 := Lib.hid (HE8.out.call (hbo.trans hb'))
        have HZ9 := Lib.hid (HZ8.out.below (hbo.trans hb') HZ8.out.lt)
        clear hb' hbo
        obtain ⟨g0, g1, g2, g3⟩ := HCL.out _ _ HE9.out (HMS.out q)
        refine hK _ _ (.inl (by kernel_rfl)) ?_
        clear hK K
        refine C_take (i := 20) (v := ?v40) rfl (by kernel_rfl) (fun _ _ _ h => h) (Or.inl ⟨by rfl, ?y40⟩) (Or.inl (by kernel_rfl)) ?r40
        case y40 => (intro w _; go_simp; try with_reducible rfl)
        simp only [Act.put]
        refine C_one (i := 21) rfl (by kernel_rfl) (fun K hK => ?_)
        rw [if_pos (by rfl)]
        go_simp
        refine hK _ _ (.inl (by kernel_rfl)) ?_
        clear hK K
        refine C_done (by kernel_rfl) ?_ _
        refine NoPanic.normal ?_
        have HZ10 := Lib.hid ((HZ9.out.far (p := ⟨p10, q * 2, none⟩) hne (.int .i64 (bestS l b (n + 1) q).lo)).far (p := ⟨p10, q * 2 + 1, none⟩) hne (.int .i64 (bestS l b (n + 1) q).hi))
        have HE10 := Lib.hid (HST.out _ _ HE9.out (bestS l b (n + 1) q))
        rw [HMN'.out] at HE10
        have HV1 := HBNH.out.2 HN0.out
        rw [HV1] at HZ10 HE10
        clear HV1 HE9 HZ9 g0 g1 g2 g3 HE8 HZ8
        go_wp2_with fail
        go_roundw
        case rel => first | exact ⟨q + 1, by omega, by go_num, HE10, HZ10⟩ | ((repeat apply Exists.intro); exact ⟨⟨q + 1, by omega, by go_num, HE10, HZ10⟩, rfl⟩)
        case measure => simp [intOf]; omega
    · obtain rfl : q = 6 := by omega
      go_wp2_with fail
      exact HX.out _ _ _ _ _ _ _ _ _ _ _ _ _ _ _ _ _ _ _ _ _ _ _ _ _ _ _ _ _ _ _ _ _ _ _ _ _ _ _ _ _ _ _ _ HE

set_option maxRecDepth 100000 in
set_option maxHeartbeats 8000000 in
theorem ends_main (w : World) (A T : Option Addr) (c d : Nat) (l : List Sack) (b : List Take) (hl : l.length ≤ 2) (hb : b.length ≤ 2) (hA : SackSl w w.heap.size A l) (hT : TakeSl w w.heap.size T b) (hv : validB l b = true) :
    Calls Try.prog 6 #[.slice A l.length c, .slice T b.length d] w (Ret (.bool true) w) := by
  obtain ⟨q1, q2, q3, q4, q5, q6, q7⟩ := valid_parts hv
  have HV := Lib.hid hv
  have HS := Lib.hid q1
  have HS2 := Lib.hid q2
  have HX0 := Lib.hid (xe_whole hv)
  have HA := Lib.hid fun (W : World) (h : Below w.heap.size w W) => (hA.below h).more h.size
  have HT := Lib.hid fun (W : World) (h : Below w.heap.size w W) => (hT.below h).more h.size
  obtain ⟨bT, oT, rfl, hbT, hsT⟩ := hT (by intro e; subst e; simp at q6)
  have HTS := Lib.hid hsT
  have HB := Lib.hid (Below.refl w.heap.size w)
  clear hv q1 q2 q3 q4 q5 q7 hA hT hsT
  go_enter Try.func6, Try.ntmps6
  go_wp2_with fail
  refine (rsacks_any _ A c l (by omega) (HA.out _ HB.out)).mono ?_
  rw [HS.out]
  rintro e w1 ⟨rfl, hb'⟩
  replace HB := Lib.hid (HB.out.trans (hb'.mono HB.out.size)); clear hb'
  go_wp2_with fail
  refine (rbatch_any _ A (some ⟨bT, oT, none⟩) c d l b (by omega) (by omega) (HT.out _ HB.out)).mono ?_
  rw [HS2.out]
  rintro e w2 ⟨rfl, hb'⟩
  replace HB := Lib.hid (HB.out.trans (hb'.mono HB.out.size)); clear hb'
  go_wp2_with fail
  have HW := Lib.hid HX0.out.weigh
  rw [spansTo5] at HW
  refine (HW.out _ _ _ _ _ (HA.out _ HB.out) (HT.out _ HB.out)).mono ?_
  rintro e w3 ⟨rfl, hb'⟩
  replace HB := Lib.hid (HB.out.trans (hb'.mono HB.out.size)); clear hb'
  go_wp2_with fail
  have P3 := Lib.hid (Blk.new w3 29 (spansTo (wholeS l b) 5))
  have hb' : Below w3.heap.size w3 (w3.alloc (.cells (spansTo (wholeS l b) 5) 29)) := (Below.refl _ _).alloc (Nat.le_refl _) _
  rw [spansTo5] at P3 hb'
  replace HB := Lib.hid (HB.out.trans (hb'.mono HB.out.size)); clear hb'
  refine (HX0.out.share _ _ _ _ _ (HA.out _ HB.out) (HT.out _ HB.out)).mono ?_
  rintro e w4 ⟨rfl, hb'⟩
  replace P3 := Lib.hid (P3.out.below hb' P3.out.lt)
  replace HB := Lib.hid (HB.out.trans (hb'.mono HB.out.size)); clear hb'
  have hp3 := P3.out.lt
  have e0 := P3.out.cell 0
  have e1 := P3.out.cell 1
  have e2 := P3.out.cell 2
  have e3 := P3.out.cell 3
  have e4 := P3.out.cell 4
  have e5 := P3.out.cell 5
  have e6 := P3.out.cell 6
  have e7 := P3.out.cell 7
  have e8 := P3.out.cell 8
  have e9 := P3.out.cell 9
  go_wp2_with fail
  clear e0 e1 e2 e3 e4 e5 e6 e7 e8 e9
  have HE : Hid (EndS w l b (w4.heap.size + 1) (w4.heap.size + 1 + 1) (bestS l b 0) (((w4.alloc (.cells #[.int .i64 (wholeS l b 5).lo, .int .i64 (wholeS l b 5).hi] 25)).alloc (.cells #[.int .i64 (wholeS l b 0).lo, .int .i64 (wholeS l b 0).hi, .int .i64 (wholeS l b 1).lo, .int .i64 (wholeS l b 1).hi, .int .i64 (wholeS l b 2).lo, .int .i64 (wholeS l b 2).hi, .int .i64 (wholeS l b 3).lo, .int .i64 (wholeS l b 3).hi, .int .i64 (wholeS l b 4).lo, .int .i64 (wholeS l b 4).hi, .int .i64 (wholeS l b 5).lo, .int .i64 (wholeS l b 5).hi] 49)).alloc (.cells #[.int .i64 0, .int .i64 0, .int .i64 0, .int .i64 0, .int .i64 0, .int .i64 0, .int .i64 0, .int .i64 0, .int .i64 0, .int .i64 0, .int .i64 0, .int .i64 0] 49))) := by
    have hsz := HB.out.size
    refine Lib.hid ⟨((HB.out.alloc hsz _).alloc (by simp; omega) _).alloc (by simp; omega) _, (blk_new2 _ _ _ _).alloc _, ?_, by omega, by omega⟩
    have h := Blk.new ((w4.alloc (.cells #[.int .i64 (wholeS l b 5).lo, .int .i64 (wholeS l b 5).hi] 25)).alloc (.cells (span6 (wholeS l b)) 49)) 49 (span6 (bestS l b 0))
    rw [World.size_alloc, World.size_alloc] at h
    exact h
  clear P3 hp3 HB
  generalize World.alloc (World.alloc (World.alloc w4 _) _) _ = V0 at HE ⊢
  generalize w4.heap.size + 1 + 1 = p10 at HE ⊢
  generalize w4.heap.size + 1 = p9 at HE ⊢
  generalize w4.heap.size = p7
  generalize w3.heap.size = p5
  obtain ⟨i0, hi, hz0, hz1, hz2⟩ := info_parts takeInfo
  have HF0 : Hid (Fst (4 * 0) (.bool true)) := Lib.hid (.inl ⟨rfl, rfl⟩)
  go_loopw [11, 12] (fun f i wr => ∃ k : Nat, k ≤ 64 ∧ i = .int .i64 k ∧ Hid (Fst (4 * k) f) ∧ Hid (EndS w l b p9 p10 (bestS l b (4 * k)) wr)) (fun _ i _ => 64 - (intOf i).toNat)
  case atStart => exact ⟨0, by omega, rfl, HF0, HE⟩
  case round =>
    clear HE HF0
    obtain ⟨k, hk, rfl, HF, HE⟩ := hrel
    by_cases hlt : k < 64
    · have hd64 : decide ((k : Int) < 64) = true := decide_eq_true (by omega)
      go_wp2_with fail
      clear hd64
      obtain ⟨wo, rfl⟩ : ∃ wo : World, wo = wr := ⟨_, rfl⟩
      go_loopw [11, 13] (fun f i wr => ∃ j : Nat, j ≤ 4 ∧ i = .int .i64 j ∧ Hid (Fst (4 * k + j) f) ∧ Hid (EndS w l b p9 p10 (bestS l b (4 * k + j)) wr)) (fun _ i _ => 4 - (intOf i).toNat)
      case atStart => exact ⟨0, by omega, rfl, HF, HE⟩
      case round =>
        clear HF HE
        obtain ⟨j, hj, rfl, HF, HE⟩ := hrel
        by_cases hlt4 : j < 4
        · have hb0 : Below wr.heap.size wr (wr.alloc (.cells #[] 51)) := (Below.refl _ _).alloc (Nat.le_refl _) _
          have HTA := Lib.hid (HTS.out.below (HE.out.below.trans (hb0.mono HE.out.below.size)) hbT)
          have hb2 : b.length ≤ 2 := hb
          clear hb0
          go_wp2_with (at_builtin; refine wpList_append_own _ rfl _ _ 23 rfl wr.heap.size 51 i0 _ 3 24 taksSl hi hz0 hz1 hz2 rfl (by decide) (.slice (some ⟨wr.heap.size, 0, none⟩) 0 0) 0 [] rfl (own_emptyT wr wr.heap.size (Nat.le_refl _)) ⟨bT, oT, none⟩ b.length d (takeVs b) rfl (takeVs_len b) (takeVs_cells HTA.out) (takeVs_one b) (by unfold maxLen; omega) (by omega) (by simp) ?_; intro v' v1 hown1 hg1 hzz; clear hzz; have HO1 := Lib.hid hown1; have HG1 := Lib.hid hg1; clear hown1 hg1)
          have hbz := Below.grown (B := wr.heap.size) ((Below.refl _ wr).alloc (Nat.le_refl _) (.cells #[] 51)) HG1.out (by simp) (own_ge (own_emptyT wr wr.heap.size (Nat.le_refl _)))
          have HE1 := Lib.hid (HE.out.call hbz)
          have HW1 : Hid (v1.ownsRow wr.heap.size 51 3 v' b.length (takeVs b)) := by
            have h := HO1.out
            rw [Nat.zero_add, List.nil_append] at h
            exact h
          obtain ⟨g, cap, cs0, rfl, hBg, hblk, hcs⟩ := own_blkT HW1.out (by omega)
          have HC0 : Hid (∃ cs, Blk v1 g 51 cs ∧ TakeCs cs (setUpto b j 0)) := Lib.hid ⟨cs0, hblk, by rw [setUpto_zero]; exact hcs⟩
          have hg9 : p9 ≠ g := by have := HE.out.b9.lt; omega
          have hg10 : p10 ≠ g := by have := HE.out.b10.lt; omega
          have hgw : w.heap.size ≤ g := Nat.le_trans HE.out.below.size hBg
          clear HO1 HG1 HW1 hbz HE hblk hcs HTA hBg
          obtain ⟨wp, rfl⟩ : ∃ wp : World, wp = wr := ⟨_, rfl⟩
          have HSW := Lib.hid fun (q : Nat) (hq : q < b.length) => (withinB_iff.1 ((valid_parts HV.out).2.2.2.1 b[q] (List.getElem_mem hq)))
          go_loopw [15] (fun i wr => ∃ q : Nat, q ≤ b.length ∧ i = .int .i64 q ∧ Hid (∃ cs, Blk wr g 51 cs ∧ TakeCs cs (setUpto b j q)) ∧ Hid (EndS w l b p9 p10 (bestS l b (4 * k + j)) wr)) (fun i _ => b.length - (intOf i).toNat)
          case atStart => exact ⟨0, by omega, rfl, HC0, HE1⟩
          case round =>
            clear HC0 HE1
            obtain ⟨q, hq, rfl, HC, HE⟩ := hrel
            by_cases hltq : q < b.length
            · obtain ⟨cs, hK, hC⟩ := HC.out
              obtain ⟨d0, d1, d2⟩ := hC q (by rw [setUpto_len]; exact hltq)
              rw [setUpto_at b j q hltq] at d1 d2
              have hw := HSW.out q hltq
              have HN := Lib.hid (hC.next hltq)
              have c1 := (hK.cell (q * 3 + 1)).trans d1
              have c2 := (hK.cell (q * 3 + 2)).trans d2
              have HK := Lib.hid hK
              have HN1 := Lib.hid fun (W : World) (h : Blk W g 51 cs) => (h.cell (q * 3 + 1)).trans d1
              have HN2 := Lib.hid fun (W : World) (h : Blk W g 51 cs) => (h.cell (q * 3 + 2)).trans d2
              have hgz := hK.lt
              clear d0 d1 d2 hK hC HC
              have hs0 : (0 : Int) ≤ (q : Int) := by omega
              have hs1 : (q : Int) ≤ 64 := by omega
              have hqq := shr1 j q
              have hqq2 : (j : Int) / 2 ^ q = ((j / 2 ^ q : Nat) : Int) := by
                have h := shr1 j q
                rwa [Int.toNat_natCast] at h
              have hjq : j / 2 ^ q < 4 := Nat.lt_of_le_of_lt (Nat.div_le_self _ _) hlt4
              have hjj := and1 hjq
              have hm2 := Nat.mod_lt (j / 2 ^ q) (show 0 < 2 by omega)
              generalize hset : setW b[q] (j / 2 ^ q % 2) = n at HN
              have hset' : n = if j / 2 ^ q % 2 = 1 then b[q].m.hi else b[q].m.lo := hset.symm
              clear hset
              generalize b[q] = t at c1 c2 hw hset' HN1 HN2
              generalize j / 2 ^ q % 2 = j2 at hjj hm2 hset'
              generalize j / 2 ^ q = j1 at hqq hqq2 hjj
              by_cases he : j2 = 1
              · subst he
                rw [if_pos rfl] at hset'
                have HNE := Lib.hid hset'
                clear hset'
                rw [HNE.out] at HN
                replace hjj : Go.bits .and .i64 (j1 : Int) 1 = 1 := hjj
                go_wp2_with fail
                refine (span_any _ _ _).mono ?_; rintro e v2 ⟨rfl, hb1⟩; replace HK := Lib.hid (HK.out.below hb1 HK.out.lt); replace HE := Lib.hid (HE.out.call hb1); (have hgz := HK.out.lt); (have c1 := HN1.out v2 HK.out); (have c2 := HN2.out v2 HK.out); (have y1 := HK.out.frozen (q * 3 + 1)); (have y2 := HK.out.frozen (q * 3 + 2)); clear hb1; go_wp2_with fail; (have HE5 := Lib.hid ((HE.out.far hg9 hg10 hgw (q * 3 + 1) (.int .i64 t.m.hi)).far hg9 hg10 hgw (q * 3 + 2) (.int .i64 t.m.hi))); (have HC5 := Lib.hid (⟨_, (HK.out.set_ (q * 3 + 1) (.int .i64 t.m.hi)).set_ (q * 3 + 2) (.int .i64 t.m.hi), HN.out⟩ : ∃ cs', _ ∧ TakeCs cs' (setUpto b j (q + 1)))); clear HK HE c1 c2 y1 y2; go_roundw
                case rel => exact ⟨q + 1, by omega, by go_num, HC5, HE5⟩
                case measure => simp [intOf]; omega
              · have he0 : j2 = 0 := by omega
                subst he0
                rw [if_neg (by omega)] at hset'
                have HNE := Lib.hid hset'
                clear hset'
                rw [HNE.out] at HN
                replace hjj : Go.bits .and .i64 (j1 : Int) 1 = 0 := hjj
                go_wp2_with fail
                refine (span_any _ _ _).mono ?_; rintro e v2 ⟨rfl, hb1⟩; replace HK := Lib.hid (HK.out.below hb1 HK.out.lt); replace HE := Lib.hid (HE.out.call hb1); (have hgz := HK.out.lt); (have c1 := HN1.out v2 HK.out); (have c2 := HN2.out v2 HK.out); (have y1 := HK.out.frozen (q * 3 + 1)); (have y2 := HK.out.frozen (q * 3 + 2)); clear hb1; go_wp2_with fail; (have HE5 := Lib.hid ((HE.out.far hg9 hg10 hgw (q * 3 + 1) (.int .i64 t.m.lo)).far hg9 hg10 hgw (q * 3 + 2) (.int .i64 t.m.lo))); (have HC5 := Lib.hid (⟨_, (HK.out.set_ (q * 3 + 1) (.int .i64 t.m.lo)).set_ (q * 3 + 2) (.int .i64 t.m.lo), HN.out⟩ : ∃ cs', _ ∧ TakeCs cs' (setUpto b j (q + 1)))); clear HK HE c1 c2 y1 y2; go_roundw
                case rel => exact ⟨q + 1, by omega, by go_num, HC5, HE5⟩
                case measure => simp [intOf]; omega
            · obtain rfl : q = b.length := by omega
              rw [setUpto_all] at HC
              have hwk : IntKind.u32.wrap (k : Int) = (k : Int) := by
                rw [IntKind.wrap_u32]
                omega
              obtain ⟨cs, hK, hC⟩ := HC.out
              have HK := Lib.hid hK
              have HCB := Lib.hid hC
              have HXE := xe_own HV.out (4 * k + j)
              rw [show (4 * k + j) / 4 = k by omega, show (4 * k + j) % 4 = j by omega] at HXE
              have HXW := Lib.hid HXE.weigh
              have HXS := Lib.hid HXE.share
              rw [spansTo5] at HXW
              clear HXE HC hK hC
              go_wp2_with fail
              refine (sharp_any _ A c l k (by omega) hl (HA.out _ HE.out.below)).mono ?_
              rintro e v2 ⟨A', c', rfl, hsl, hb1⟩
              replace HK := Lib.hid (HK.out.below hb1 HK.out.lt)
              replace HE := Lib.hid (HE.out.call hb1)
              have HSL := Lib.hid hsl
              clear hb1 hsl
              go_wp2_with fail
              refine (HXW.out _ _ _ _ _ HSL.out (HCB.out.sl HK.out HK.out.lt)).mono ?_
              rintro e v3 ⟨rfl, hb1⟩
              replace HK := Lib.hid (HK.out.below hb1 HK.out.lt)
              replace HE := Lib.hid (HE.out.call hb1)
              clear hb1 HSL
              go_wp2_with fail
              have Z1 := Lib.hid (Blk.new v3 29 (spansTo (ownS l b (4 * k + j)) 5))
              have hb1 : Below v3.heap.size v3 (v3.alloc (.cells (spansTo (ownS l b (4 * k + j)) 5) 29)) := (Below.refl _ _).alloc (Nat.le_refl _) _
              rw [spansTo5] at Z1 hb1
              replace HK := Lib.hid (HK.out.below hb1 HK.out.lt)
              replace HE := Lib.hid (HE.out.call hb1)
              clear hb1
              refine (sharp_any _ A c l k (by omega) hl (HA.out _ HE.out.below)).mono ?_
              rintro e v4 ⟨A2, c2', rfl, hsl, hb1⟩
              replace HK := Lib.hid (HK.out.below hb1 HK.out.lt)
              replace HE := Lib.hid (HE.out.call hb1)
              replace Z1 := Lib.hid (Z1.out.below hb1 Z1.out.lt)
              have HSL := Lib.hid hsl
              clear hb1 hsl
              go_wp2_with fail
              refine (HXS.out _ _ _ _ _ HSL.out (HCB.out.sl HK.out HK.out.lt)).mono ?_
              rintro e v5 ⟨rfl, hb1⟩
              replace HE := Lib.hid (HE.out.call hb1)
              replace Z1 := Lib.hid (Z1.out.below hb1 Z1.out.lt)
              clear hb1 HSL HK HCB HXW HXS
              have hz1' := Z1.out.lt
              have e0 := Z1.out.cell 0
              have e1 := Z1.out.cell 1
              have e2 := Z1.out.cell 2
              have e3 := Z1.out.cell 3
              have e4 := Z1.out.cell 4
              have e5 := Z1.out.cell 5
              have e6 := Z1.out.cell 6
              have e7 := Z1.out.cell 7
              have e8 := Z1.out.cell 8
              have e9 := Z1.out.cell 9
              go_wp2_with fail
              clear e0 e1 e2 e3 e4 e5 e6 e7 e8 e9 hz1' Z1
              have hsz5 := HE.out.below.size
              have hp10 := HE.out.b10.lt
              have hb1 : Below v5.heap.size v5 ((v5.alloc (.cells #[.int .i64 (ownS l b (4 * k + j) 5).lo, .int .i64 (ownS l b (4 * k + j) 5).hi] 25)).alloc (.cells #[.int .i64 (ownS l b (4 * k + j) 0).lo, .int .i64 (ownS l b (4 * k + j) 0).hi, .int .i64 (ownS l b (4 * k + j) 1).lo, .int .i64 (ownS l b (4 * k + j) 1).hi, .int .i64 (ownS l b (4 * k + j) 2).lo, .int .i64 (ownS l b (4 * k + j) 2).hi, .int .i64 (ownS l b (4 * k + j) 3).lo, .int .i64 (ownS l b (4 * k + j) 3).hi, .int .i64 (ownS l b (4 * k + j) 4).lo, .int .i64 (ownS l b (4 * k + j) 4).hi, .int .i64 (ownS l b (4 * k + j) 5).lo, .int .i64 (ownS l b (4 * k + j) 5).hi] 49)) := ((Below.refl _ _).alloc (Nat.le_refl _) _).alloc (by simp) _
              have Z0 : Hid (Blk ((v5.alloc (.cells #[.int .i64 (ownS l b (4 * k + j) 5).lo, .int .i64 (ownS l b (4 * k + j) 5).hi] 25)).alloc (.cells #[.int .i64 (ownS l b (4 * k + j) 0).lo, .int .i64 (ownS l b (4 * k + j) 0).hi, .int .i64 (ownS l b (4 * k + j) 1).lo, .int .i64 (ownS l b (4 * k + j) 1).hi, .int .i64 (ownS l b (4 * k + j) 2).lo, .int .i64 (ownS l b (4 * k + j) 2).hi, .int .i64 (ownS l b (4 * k + j) 3).lo, .int .i64 (ownS l b (4 * k + j) 3).hi, .int .i64 (ownS l b (4 * k + j) 4).lo, .int .i64 (ownS l b (4 * k + j) 4).hi, .int .i64 (ownS l b (4 * k + j) 5).lo, .int .i64 (ownS l b (4 * k + j) 5).hi] 49)) (v5.heap.size + 1) 49 (span6 (ownS l b (4 * k + j)))) := Lib.hid (blk_new2 _ _ _ _)
              have HE6 := HE.out.call hb1
              rw [← mixS_0 l b (4 * k + j)] at HE6
              have HE7 := Lib.hid HE6
              clear HE6 HE hb1 hsz5
              generalize World.alloc (World.alloc v5 _) _ = V6 at HE7 Z0 ⊢
              have hne : v5.heap.size + 1 ≠ p10 := by omega
              clear hp10
              generalize v5.heap.size + 1 = p21 at hne Z0 ⊢
              refine fourth w l b p9 p10 p21 (4 * k + j) HV.out hne _ HF _ HE7 Z0 _ _ _ _ _ _ _ _ _ _ _ _ _ _ _ _ _ _ _ _ _ _ _ _ _ _ _ _ _ _ _ _ _ _ _ _ _ _ _ _ _ _ _ _ _ _ _ _ _ _ _ _ _ _ _ _ _ _ _ _ _ _ _ _ _ _ _ _ _ _ _ _ _ _ _ _ _ _ _ _ _ _ _ _ _ _ _ _ _ _ _ _ _ _ _ _ _ _ _ _ _ _ _ _ _ _ _ _ _ _ _ _ _ _ _ _ _ _ _ _ _ _ _ _ _ _ _ _ _ _ _ _ _ _ _ _ _ _ _ _ _ _ _ _ _ _ _ _ _ _ _ _ _ _ _ _ _ _ _ _ _ _ _ _ _ _ _ _ _ _ _ _ _ _ _ _ _ _ _ _ _ _ _ _ _ _ _ _ _ _ _ _ _ _ ?_
              intro u4 u22 u150 u151 u152 u153 u154 u155 u156 u157 u158 u159 u160 u161 u162 u163 u164 u165 u166 u167 u168 u169 u170 u171 u172 u173 u174 u175 u176 u177 u178 u179 u180 u181 u182 u183 u184 u185 u186 u187 u188 u189 u190 w' HE
              have HF' : Hid (Fst (4 * k + (j + 1)) (.bool false)) := Lib.hid (.inr ⟨by omega, rfl⟩)
              have HE' : Hid (EndS w l b p9 p10 (bestS l b (4 * k + (j + 1))) w') := by
                have h := HE.out
                refine Lib.hid ⟨h.below, h.b9, ?_, h.ne, h.ge⟩
                have e : 4 * k + (j + 1) = 4 * k + j + 1 := by omega
                rw [e, ← mixS_six]
                exact h.b10
              clear HE HE7 Z0 hlt
              go_wp2_with fail
              go_roundw
              case rel => first | exact ⟨j + 1, by omega, by go_num, HF', HE'⟩ | ((repeat apply Exists.intro); refine ⟨?_, rfl⟩; exact ⟨j + 1, by omega, by go_num, HF', HE'⟩)
              case measure => simp [intOf]; omega
        · obtain rfl : j = 4 := by omega
          go_wp2_with fail
          go_roundw
          case rel => exact ⟨k + 1, by omega, by go_num, HF, HE⟩
          case measure => simp [intOf]; omega
    · obtain rfl : k = 64 := by omega
      have HE2 : Hid (EndS w l b p9 p10 (wholeS l b) wr) := by
        have h := HE.out
        refine Lib.hid ⟨h.below, h.b9, ?_, h.ne, h.ge⟩
        rw [← span6_best HV.out hl hb]
        exact h.b10
      replace HE := HE2
      clear HE2
      (have e0 := (HE.out.b9.cell 0).trans (show _ = some (Value.int .i64 (wholeS l b 0).lo) from rfl)); (have e1 := (HE.out.b9.cell 1).trans (show _ = some (Value.int .i64 (wholeS l b 0).hi) from rfl)); (have e2 := (HE.out.b9.cell 2).trans (show _ = some (Value.int .i64 (wholeS l b 1).lo) from rfl)); (have e3 := (HE.out.b9.cell 3).trans (show _ = some (Value.int .i64 (wholeS l b 1).hi) from rfl)); (have e4 := (HE.out.b9.cell 4).trans (show _ = some (Value.int .i64 (wholeS l b 2).lo) from rfl)); (have e5 := (HE.out.b9.cell 5).trans (show _ = some (Value.int .i64 (wholeS l b 2).hi) from rfl)); (have e6 := (HE.out.b9.cell 6).trans (show _ = some (Value.int .i64 (wholeS l b 3).lo) from rfl)); (have e7 := (HE.out.b9.cell 7).trans (show _ = some (Value.int .i64 (wholeS l b 3).hi) from rfl)); (have e8 := (HE.out.b9.cell 8).trans (show _ = some (Value.int .i64 (wholeS l b 4).lo) from rfl)); (have e9 := (HE.out.b9.cell 9).trans (show _ = some (Value.int .i64 (wholeS l b 4).hi) from rfl)); (have e10 := (HE.out.b9.cell 10).trans (show _ = some (Value.int .i64 (wholeS l b 5).lo) from rfl)); (have e11 := (HE.out.b9.cell 11).trans (show _ = some (Value.int .i64 (wholeS l b 5).hi) from rfl)); (have f0 := (HE.out.b10.cell 0).trans (show _ = some (Value.int .i64 (wholeS l b 0).lo) from rfl)); (have f1 := (HE.out.b10.cell 1).trans (show _ = some (Value.int .i64 (wholeS l b 0).hi) from rfl)); (have f2 := (HE.out.b10.cell 2).trans (show _ = some (Value.int .i64 (wholeS l b 1).lo) from rfl)); (have f3 := (HE.out.b10.cell 3).trans (show _ = some (Value.int .i64 (wholeS l b 1).hi) from rfl)); (have f4 := (HE.out.b10.cell 4).trans (show _ = some (Value.int .i64 (wholeS l b 2).lo) from rfl)); (have f5 := (HE.out.b10.cell 5).trans (show _ = some (Value.int .i64 (wholeS l b 2).hi) from rfl)); (have f6 := (HE.out.b10.cell 6).trans (show _ = some (Value.int .i64 (wholeS l b 3).lo) from rfl)); (have f7 := (HE.out.b10.cell 7).trans (show _ = some (Value.int .i64 (wholeS l b 3).hi) from rfl)); (have f8 := (HE.out.b10.cell 8).trans (show _ = some (Value.int .i64 (wholeS l b 4).lo) from rfl)); (have f9 := (HE.out.b10.cell 9).trans (show _ = some (Value.int .i64 (wholeS l b 4).hi) from rfl)); (have f10 := (HE.out.b10.cell 10).trans (show _ = some (Value.int .i64 (wholeS l b 5).lo) from rfl)); (have f11 := (HE.out.b10.cell 11).trans (show _ = some (Value.int .i64 (wholeS l b 5).hi) from rfl))
      have heq := eq_arr (wholeS l b)
      unfold span6 at heq
      go_wp2_with fail
      refine (awake_any _).mono ?_
      rintro e w9 ⟨rfl, hb1⟩
      have hB := (HE.out.call hb1).below
      clear HE hb1 e0 e1 e2 e3 e4 e5 e6 e7 e8 e9 e10 e11 f0 f1 f2 f3 f4 f5 f6 f7 f8 f9 f10 f11
      go_wp2_with fail
      go_ret
      exact ⟨rfl, hB⟩
end Go.Proofs.Ytoiggflhfbfiiaa
