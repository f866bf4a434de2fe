/- The law DieBest: the walk. -/
import Derived.Test.YtkokacdaiklfjaaAw
import Derived.Test.YtkokacdaiklfjaaCo
import Derived.Test.YtkokacdaiklfjaaRp
import Derived.Test.YtkokacdaiklfjaaRf
namespace Go.Proofs.Ytkokacdaiklfjaa
open Go.RowKit Go.Shelf

/-- A slice of bytes that were drawn. -/
def U8At (w : World) (b off : Nat) (l : List Int) : Prop := ∀ i (h : i < l.length), w.cell? ⟨b, off + i, none⟩ = some (.int .u8 l[i])
def U8Sl (w : World) (B : Nat) (A : Option Addr) (l : List Int) : Prop := l ≠ [] → ∃ b off, A = some ⟨b, off, none⟩ ∧ b < B ∧ U8At w b off l
theorem U8At.below {w w' : World} {b off B : Nat} {l : List Int} (h : U8At w b off l) (hb : Below B w w') (hlt : b < B) : U8At w' b off l := fun i hi => (hb.cell (p := ⟨b, _, none⟩) hlt).trans (h i hi)
theorem U8Sl.on {w w' : World} {B : Nat} {A : Option Addr} {l : List Int} (h : U8Sl w B A l) (hb : Below w.heap.size w w') (hB : B ≤ w.heap.size) : U8Sl w' w'.heap.size A l := fun hne => by
  obtain ⟨b, off, e, hlt, hs⟩ := h hne
  exact ⟨b, off, e, Nat.lt_of_lt_of_le hlt (Nat.le_trans hB hb.size), hs.below (hb.mono hB) hlt⟩
structure LbS (w : World) (p : Press) (A T Y : Option Addr) (c : Nat) (l : List Draw) (ys : List Int) (W : World) : Prop where
  below : Below w.heap.size w W
  bq : Blk W w.heap.size 26 #[.slice A p.dies.length c, .int .i64 p.shrink.lo, .int .i64 p.shrink.hi, .int .i64 p.change]
  da : DieSl W W.heap.size A p.dies
  dr : DrawSl W W.heap.size T l
  by_ : U8Sl W W.heap.size Y ys
theorem LbS.call {w : World} {p : Press} {A T Y : Option Addr} {c : Nat} {l : List Draw} {ys : List Int} {W W' : World} (h : LbS w p A T Y c l ys W) (hb : Below W.heap.size W W') : LbS w p A T Y c l ys W' :=
  ⟨h.below.trans (hb.mono h.below.size), h.bq.below hb h.bq.lt, h.da.on hb (Nat.le_refl _), h.dr.on hb (Nat.le_refl _), h.by_.on hb (Nat.le_refl _)⟩
theorem own_ge {W : World} {B : Nat} {e : TypeId} {size : Nat} {v : Value} {k : Nat} {xs : List Value} (hr : W.ownsRow B e size v k xs) : ∀ g, v.ownBlock = some g → B ≤ g := by
  rcases hr.2 with ⟨rfl, _⟩ | ⟨g, cap, cur, rfl, hg, hgb, _⟩
  · simp [Value.ownBlock]
  · intro g' e'
    have : g = g' := by simpa [Value.ownBlock] using e'
    omega
theorem own_call {w w' : World} {B : Nat} {e : TypeId} {size : Nat} {v : Value} {k : Nat} {xs : List Value} (hr : w.ownsRow B e size v k xs) (hb : Below w.heap.size w w') : w'.ownsRow B e size v k xs := by
  refine ⟨hr.1, ?_⟩
  rcases hr.2 with h | ⟨g, cap, cur, rfl, h1, h2, h3⟩
  · exact .inl h
  · refine .inr ⟨g, cap, cur, rfl, h1, ?_, h3⟩
    rw [hb.block g (Array.getElem?_eq_some_iff.1 h2).1]
    exact h2
/-- An append to a slice that the call made, in a world that has grown. -/
theorem below_append {w W V V' : World} {e : TypeId} {size : Nat} {v : Value} {k : Nat} {xs : List Value} (hB : w.heap.size ≤ W.heap.size) (ho : W.ownsRow w.heap.size e size v k xs) (hb : Below W.heap.size W V) (hg : V.grownBy V' v.ownBlock) : Below w.heap.size W V' :=
  (hb.mono hB).grown hg (Nat.le_trans hB hb.size) (own_ge ho)
theorem rem_nat (a b : Nat) : (a : Int).tmod (b : Int) = ((a % b : Nat) : Int) := by rw [Int.tmod_eq_emod_of_nonneg (by omega)]; rfl
theorem two_cells {B b1 o1 b2 o2 : Nat} {v1 v2 : Value} {W V : World} (h : W.cell? ⟨b1, o1, none⟩ = some v1 ∧ W.cell? ⟨b2, o2, none⟩ = some v2) (hb : Below B W V) (h1 : b1 < B) (h2 : b2 < B) : V.cell? ⟨b1, o1, none⟩ = some v1 ∧ V.cell? ⟨b2, o2, none⟩ = some v2 :=
  ⟨(hb.cell (p := ⟨b1, _, none⟩) h1).trans h.1, (hb.cell (p := ⟨b2, _, none⟩) h2).trans h.2⟩
def LbC (bY oY j q : Nat) (y : Int) (A : Option Addr) (n c : Nat) (W : World) : Prop := W.cell? ⟨bY, oY + j, none⟩ = some (.int .u8 y) ∧ W.cell? ⟨q, 0, none⟩ = some (.slice A n c)
theorem plan_form {W : World} {B k : Nat} {v : Value} {l : List Int} (h : W.ownsRow B 3 1 v k (l.map (Value.int .i64))) (hk : k = l.length) : ∃ P c, v = .slice P l.length c ∧ PlanAt W (.slice P l.length c) l := by
  subst hk
  have h0 : W.ownsRow 0 3 1 v l.length (intsV l) := by
    refine ⟨by simp [intsV], ?_⟩
    rcases h.2 with ⟨h1, h2⟩ | ⟨g, cap, cur, h1, h2, h3⟩
    · exact .inl ⟨h1, h2⟩
    · exact .inr ⟨g, cap, cur, h1, Nat.zero_le _, h3⟩
  rcases h.2 with ⟨h1, h2⟩ | ⟨g, cap, cur, h1, -⟩
  · obtain rfl : l = [] := List.eq_nil_of_length_eq_zero h2
    exact ⟨none, 0, h1, World.ownsRow_nil _ _ _ _⟩
  · exact ⟨some ⟨g, 0, none⟩, cap, h1, by rw [h1] at h0; exact h0⟩
/-- What is known of the best plan and of any other one. -/
theorem best_plain {p : Press} {l : List Draw} (h1 : pressOk p = true) (h2 : drawsOk l = true) (o : List Int) (ho : o.length = l.length) (hd : ∀ d ∈ o, 0 ≤ d ∧ d < (p.dies.length : Int)) :
    ((followR p l o).err ≠ 0 → (followR p l o).err = 11 ∧ (followR p l o).idx < l.length ∧ (planE p l = 0 ∨ planE p l = 4)) ∧
    ((followR p l o).err = 0 → planE p l = 0 ∧ (planP p l).length = l.length ∧ (planC p l < costG p.change none o ∨ (planC p l = costG p.change none o ∧ LexLe (planP p l) o))) := by
  obtain ⟨⟨n1, n4⟩, -⟩ := press_parts h1
  have he : errOf p l true = 0 := errOf_ok h1 h2
  have hf : followR p l o = fol p o l 0 (List.replicate p.dies.length 0) := by unfold followR; rw [if_pos he]
  have hE : planE p l = if (bestOf p l s0).good = true then 0 else 4 := by unfold planE; rw [if_pos he]
  rw [hf]
  constructor
  · intro h
    obtain ⟨a, b⟩ := fol_refuse o (fun d hm => fromB_iff.2 (by have := hd d hm; omega)) l 0 _ (by omega) h
    refine ⟨a, by omega, ?_⟩
    rw [hE]
    split
    · exact .inl rfl
    · exact .inr rfl
  · intro h
    have hG := (fol_goes n4 o l 0 _ s0 (Alike.start _) (Nat.zero_le _)).2 h
    rw [List.drop_zero] at hG
    obtain ⟨g, hc⟩ := best_least p l s0 o hG
    obtain ⟨-, -, hlen⟩ := best_good p l s0 g
    rw [costS_none p.change l o hG] at hc
    have hP : planP p l = (bestOf p l s0).plan := by unfold planP; rw [if_pos ⟨he, g⟩]
    have hC : planC p l = (bestOf p l s0).cost := by unfold planC; rw [if_pos ⟨he, g⟩]
    rw [hE, if_pos g, hP, hC]
    exact ⟨rfl, hlen, hc⟩
theorem LbS.low {w : World} {p : Press} {A T Y : Option Addr} {c : Nat} {l : List Draw} {ys : List Int} {W W' : World} (h : LbS w p A T Y c l ys W) (hb : Below W.heap.size W W') : LbS w p A T Y c l ys W' := h.call hb
/-- The other plan, by remainders. -/
def otherP (p : Press) (ys : List Int) (k : Nat) : List Int := (List.range k).map fun i => ys.getD (i % ys.length) 0 % (p.dies.length : Int)
theorem other_succ (p : Press) (ys : List Int) (k : Nat) : otherP p ys (k + 1) = otherP p ys k ++ [ys.getD (k % ys.length) 0 % (p.dies.length : Int)] := by simp [otherP, List.range_succ]
theorem other_len (p : Press) (ys : List Int) (k : Nat) : (otherP p ys k).length = k := by simp [otherP]
theorem other_in (p : Press) (ys : List Int) (k : Nat) (h : 1 ≤ p.dies.length) : ∀ d ∈ otherP p ys k, 0 ≤ d ∧ d < (p.dies.length : Int) := fun d hd => by
  simp only [otherP, List.mem_map] at hd
  obtain ⟨i, -, rfl⟩ := hd
  exact ⟨Int.emod_nonneg _ (by omega), Int.emod_lt_of_pos _ (by omega)⟩
set_option maxRecDepth 100000 in
set_option maxHeartbeats 4000000 in
theorem best_any (w : World) (A T Y : Option Addr) (c ct cy : Nat) (p : Press) (l : List Draw) (ys : List Int) (hp : p.dies.length ≤ 9223372036854775807) (hl : l.length ≤ 9223372036854775807) (hy : ys.length ≤ 9223372036854775807) (hA : DieSl w w.heap.size A p.dies) (hT : DrawSl w w.heap.size T l) (hY : U8Sl w w.heap.size Y ys) (hct : l.length ≤ ct) (hyb : ∀ y ∈ ys, 0 ≤ y ∧ y ≤ 255) :
    Calls Try.prog 7 #[.agg #[.slice A p.dies.length c, .int .i64 p.shrink.lo, .int .i64 p.shrink.hi, .int .i64 p.change], .slice T l.length ct, .slice Y ys.length cy] w (Ret (.bool true) w) := by
  have hb0 : Below w.heap.size w (w.alloc (.cells #[.slice A p.dies.length c, .int .i64 p.shrink.lo, .int .i64 p.shrink.hi, .int .i64 p.change] 26)) := (Below.refl _ _).alloc (Nat.le_refl _) _
  have HS := Lib.hid (⟨hb0, Blk.new _ _ _, hA.on hb0 (Nat.le_refl _), hT.on hb0 (Nat.le_refl _), hY.on hb0 (Nat.le_refl _)⟩ : LbS w p A T Y c l ys (w.alloc (.cells #[.slice A p.dies.length c, .int .i64 p.shrink.lo, .int .i64 p.shrink.hi, .int .i64 p.change] 26)))
  have HLE := Lib.hid (And.intro hp (And.intro hl hy))
  have HCT := Lib.hid (And.intro hct hyb)
  have hy0 : (0 : Int) ≤ ys.length := by omega
  have hy' : (ys.length : Int) ≤ 9223372036854775807 := by omega
  have hl0 : (0 : Int) ≤ l.length := by omega
  have hl' : (l.length : Int) ≤ 9223372036854775807 := by omega
  have HPR : Hid (∀ V, LbS w p A T Y c l ys V → Calls Try.prog 21 #[.agg #[.slice A p.dies.length c, .int .i64 p.shrink.lo, .int .i64 p.shrink.hi, .int .i64 p.change]] V (Ret (.bool (pressOk p)) V)) := Lib.hid fun V h => rpress_any V A c p hp h.da
  have HDR : Hid (∀ V, LbS w p A T Y c l ys V → Calls Try.prog 22 #[.slice T l.length ct] V (Ret (.bool (drawsOk l)) V)) := Lib.hid fun V h => rdraws_any V T ct l hl h.dr
  have HPN : Hid (∀ V, LbS w p A T Y c l ys V → Calls Try.prog 19 #[.agg #[.slice A p.dies.length c, .int .i64 p.shrink.lo, .int .i64 p.shrink.hi, .int .i64 p.change], .slice T l.length ct] V (RetPl (planP p l) (planC p l) (planE p l) V)) := Lib.hid fun V h => plan_any V A T c ct p l hp hl h.da h.dr hct
  obtain ⟨o1, ho1⟩ : ∃ x, pressOk p = x := ⟨_, rfl⟩
  obtain ⟨o2, ho2⟩ : ∃ x, drawsOk l = x := ⟨_, rfl⟩
  have HO := Lib.hid (And.intro ho1 ho2)
  rw [ho1] at HPR
  rw [ho2] at HDR
  clear hb0 hA hT hY hp hl hy ho1 ho2 hct hyb
  go_enter Try.func7, Try.ntmps7
  have hX := HS.out.bq
  have x0 := hX.cell 0
  have x1 := hX.cell 1
  have x2 := hX.cell 2
  have x3 := hX.cell 3
  clear hX
  go_wp2_with fail
  generalize World.alloc w _ = W at HS x0 x1 x2 x3 ⊢
  refine (large_any A T p.dies.length c l.length ct p.shrink.lo p.shrink.hi p.change 8 W HLE.out.1 HLE.out.2.1).mono ?_
  rintro e W1 ⟨rfl, hb⟩
  replace HS := Lib.hid (HS.out.call hb)
  clear hb x0 x1 x2 x3
  generalize decide (8 < (l.length : Int) ∧ l.length ≤ 8 ∨ 12 < l.length ∨ 8 < p.dies.length) = lg
  cases lg with
  | true =>
    go_wp2_with fail
    refine (awake_any _).mono ?_; rintro e w9 ⟨rfl, hb9⟩; have hB := (HS.out.call hb9).below; clear HS hb9; go_wp2_with fail; go_ret; exact ⟨rfl, hB⟩
  | false =>
    by_cases hyz : ys.length = 0
    · have hyi : ((ys.length : Int) == 0) = true := by rw [beq_iff_eq]; omega
      clear hyz
      go_wp2_with fail
      refine (awake_any _).mono ?_; rintro e w9 ⟨rfl, hb9⟩; have hB := (HS.out.call hb9).below; clear HS hb9; go_wp2_with fail; go_ret; exact ⟨rfl, hB⟩
    · have hyi : ((ys.length : Int) == 0) = false := by rw [beq_eq_false_iff_ne]; omega
      have HYZ := Lib.hid hyz
      clear hyz
      have x0 := HS.out.bq.cell 0; have x1 := HS.out.bq.cell 1; have x2 := HS.out.bq.cell 2; have x3 := HS.out.bq.cell 3
      go_wp2_with fail
      refine (HPR.out _ HS.out).mono ?_
      rintro e W2 ⟨rfl, hb⟩
      replace HS := Lib.hid (HS.out.call hb)
      clear hb x0 x1 x2 x3
      cases o1 with
      | false =>
        go_wp2_with fail
        refine (awake_any _).mono ?_; rintro e w9 ⟨rfl, hb9⟩; have hB := (HS.out.call hb9).below; clear HS hb9; go_wp2_with fail; go_ret; exact ⟨rfl, hB⟩
      | true =>
        go_wp2_with fail
        refine (HDR.out _ HS.out).mono ?_
        rintro e W3 ⟨rfl, hb⟩
        replace HS := Lib.hid (HS.out.call hb)
        clear hb
        cases o2 with
        | false =>
          go_wp2_with fail
          refine (awake_any _).mono ?_; rintro e w9 ⟨rfl, hb9⟩; have hB := (HS.out.call hb9).below; clear HS hb9; go_wp2_with fail; go_ret; exact ⟨rfl, hB⟩
        | true =>
          have x0 := HS.out.bq.cell 0; have x1 := HS.out.bq.cell 1; have x2 := HS.out.bq.cell 2; have x3 := HS.out.bq.cell 3
          go_wp2_with fail
          refine (HPN.out _ HS.out).mono ?_
          rintro e W4 ⟨A4, c4, rfl, hp4, hb⟩
          replace HS := Lib.hid (HS.out.call hb)
          have P4 := Lib.hid hp4
          clear hb hp4 x0 x1 x2 x3
          go_wp2_with fail
          obtain ⟨⟨n1, n4⟩, -⟩ := press_parts HO.out.1
          have hl8 := (draws_parts HO.out.2).1
          have hnd : ((p.dies.length : Int) == 0) = false := by rw [beq_eq_false_iff_ne]; omega
          have hn0 : (0 : Int) ≤ p.dies.length := by omega
          have hn4 : (p.dies.length : Int) ≤ 4 := by omega
          have hl8' : (l.length : Int) ≤ 8 := by omega
          have hS4 : W4.ownsRow W4.heap.size 3 1 (.slice none 0 0) 0 ((otherP p ys 0).map (Value.int .i64)) := World.ownsRow_nil _ _ _ _
          have HW4 := Lib.hid hS4
          clear hS4 HPN HPR HDR
          go_loopw [10, 11] (fun v i wr => ∃ k : Nat, k ≤ l.length ∧ i = .int .i64 k ∧ Hid (wr.ownsRow W4.heap.size 3 1 v k ((otherP p ys k).map (Value.int .i64))) ∧ Hid (Below W4.heap.size W4 wr)) (fun _ i _ => l.length - (intOf i).toNat)
          case atStart => exact ⟨0, by omega, rfl, HW4, Lib.hid (Below.refl _ _)⟩
          case round =>
            clear HW4
            obtain ⟨k, hk, rfl, HOWN, HB⟩ := hrel
            by_cases hlt : k < l.length
            · have HSR := Lib.hid (HS.out.call HB.out)
              obtain ⟨bY, oY, rfl, hbY, hat⟩ := HS.out.by_ (by intro e; rw [e] at hyi; simp at hyi)
              have hyl : 0 < ys.length := Nat.pos_of_ne_zero HYZ.out
              have hj := Nat.mod_lt k hyl
              have y0 := hat (k % ys.length) hj
              have hgd : ys.getD (k % ys.length) 0 = ys[k % ys.length] := by simp [List.getD_eq_getElem?_getD, hj]
              have hyb := HCT.out.2 ys[k % ys.length] (List.getElem_mem hj)
              have HNX := Lib.hid (other_succ p ys k)
              rw [← HB.out.cell (p := ⟨bY, _, none⟩) hbY] at y0
              rw [← hgd] at y0 hyb
              clear hat hgd
              have r0 : (k : Int).tmod (ys.length : Int) = ((k % ys.length : Nat) : Int) := rem_nat k ys.length
              generalize ys.getD (k % ys.length) 0 = y at *
              generalize k % ys.length = j at *
              have r1 : y.tmod (p.dies.length : Int) = y % (p.dies.length : Int) := Int.tmod_eq_emod_of_nonneg hyb.1
              have hwy : IntKind.i64.wrap y = y := IntWalk.i64_in _ ⟨by omega, by omega⟩
              have hd0 := Int.emod_nonneg y (show (p.dies.length : Int) ≠ 0 by omega)
              have hd1 := Int.emod_lt_of_pos y (show (0 : Int) < p.dies.length by omega)
              generalize y % (p.dies.length : Int) = d at *
              have hwd : IntKind.i64.wrap d = d := IntWalk.i64_in _ ⟨by omega, by omega⟩
              have hwj : IntKind.i64.wrap (j : Int) = (j : Int) := IntWalk.i64_in _ ⟨by omega, by omega⟩
              have hj0 : (0 : Int) ≤ j := by omega
              have hjl : (j : Int) < ys.length := by omega
              have hk0 : (0 : Int) ≤ k := by omega
              have hkl : (k : Int) < l.length := by omega
              have x0 := HSR.out.bq.cell 0
              have hS0 : wr.cell? ⟨bY, oY + j, none⟩ = some (.int .u8 y) ∧ wr.cell? ⟨w.heap.size, 0, none⟩ = some (.slice A p.dies.length c) := ⟨y0, x0⟩
              have HS0 := Lib.hid hS0
              have hsz := HB.out.size
              have hwq : w.heap.size < W4.heap.size := HS.out.bq.lt
              have hbo : Below wr.heap.size wr wr.drew := (Below.refl _ _).drew
              generalize hxs : (otherP p ys k).map (Value.int .i64) = xs at *
              obtain ⟨i0, hi, hz0, hz1, hz2⟩ := info_parts planInfo
              have hnz : ys.length ≠ 0 := HYZ.out
              have hnzd : p.dies.length ≠ 0 := by omega
              clear x0 y0 HSR
              go_wp2_with fail
              refine wp_region_held_drew (S := LbC bY oY j w.heap.size y A p.dies.length c) (by kernel_rfl) hS0 (fun hH0 => ?_)
              simp only [List.size_toArray, List.length_cons, List.length_nil, Nat.reduceAdd, Array.replicate_succ, Array.replicate_zero, List.push_toArray, List.nil_append, List.cons_append]
              refine wpAnyH_take (i := 0 ) (v := ?_) rfl (by kernel_rfl) (by kernel_rfl) (by kernel_rfl) (fun _ _ _ h => h) (Or.inl ⟨by rfl, ?_⟩) (by assumption) ?_; rotate_left; (· (intro w hSw; obtain ⟨q0, q1⟩ := hSw; go_simp); first | done | with_reducible rfl); (try simp only [Act.put, List.getElem_toArray, List.getElem_cons_zero, List.setIfInBounds_toArray, List.set_cons_zero, List.set_cons_succ])
              refine wpAnyH_take (i := 1 ) (v := ?_) rfl (by kernel_rfl) (by kernel_rfl) (by kernel_rfl) (fun _ _ _ h => h) (Or.inl ⟨by rfl, ?_⟩) (by assumption) ?_; rotate_left; (· (intro w hSw; obtain ⟨q0, q1⟩ := hSw; go_simp); first | done | with_reducible rfl); (try simp only [Act.put, List.getElem_toArray, List.getElem_cons_succ, List.getElem_cons_zero, List.setIfInBounds_toArray, List.set_cons_zero, List.set_cons_succ])
              refine wpAnyH_take (i := 2 ) (v := ?_) rfl (by kernel_rfl) (by kernel_rfl) (by kernel_rfl) (fun _ _ _ h => h) (Or.inl ⟨by rfl, ?_⟩) (by assumption) ?_; rotate_left; (· (intro w hSw; obtain ⟨q0, q1⟩ := hSw; go_simp); first | done | with_reducible rfl); (try simp only [Act.put, List.getElem_toArray, List.getElem_cons_succ, List.getElem_cons_zero, List.setIfInBounds_toArray, List.set_cons_zero, List.set_cons_succ])
              refine wpAnyH_take (i := 3 ) (v := ?_) rfl (by kernel_rfl) (by kernel_rfl) (by kernel_rfl) (fun _ _ _ h => h) (Or.inl ⟨by rfl, ?_⟩) (by assumption) ?_; rotate_left; (· (intro w hSw; obtain ⟨q0, q1⟩ := hSw; go_simp); first | done | with_reducible rfl); (try simp only [Act.put, List.getElem_toArray, List.getElem_cons_succ, List.getElem_cons_zero, List.setIfInBounds_toArray, List.set_cons_zero, List.set_cons_succ])
              refine wpAnyH_take (i := 4 ) (v := ?_) rfl (by kernel_rfl) (by kernel_rfl) (by kernel_rfl) (fun _ _ _ h => h) (Or.inl ⟨by rfl, ?_⟩) (by assumption) ?_; rotate_left; (· (intro w hSw; obtain ⟨q0, q1⟩ := hSw; go_simp); first | done | with_reducible rfl); (try simp only [Act.put, List.getElem_toArray, List.getElem_cons_succ, List.getElem_cons_zero, List.setIfInBounds_toArray, List.set_cons_zero, List.set_cons_succ])
              refine wpAnyH_take (i := 5 ) (v := ?_) rfl (by kernel_rfl) (by kernel_rfl) (by kernel_rfl) (fun _ _ _ h => h) (Or.inl ⟨by rfl, ?_⟩) (by assumption) ?_; rotate_left; (· (intro w hSw; obtain ⟨q0, q1⟩ := hSw; go_simp); first | done | with_reducible rfl); (try simp only [Act.put, List.getElem_toArray, List.getElem_cons_succ, List.getElem_cons_zero, List.setIfInBounds_toArray, List.set_cons_zero, List.set_cons_succ])
              refine wpAnyH_take (i := 6 ) (v := ?_) rfl (by kernel_rfl) (by kernel_rfl) (by kernel_rfl) (fun _ _ _ h => h) (Or.inl ⟨by rfl, ?_⟩) (by assumption) ?_; rotate_left; (· (intro w hSw; obtain ⟨q0, q1⟩ := hSw; go_simp); first | done | with_reducible rfl); (try simp only [Act.put, List.getElem_toArray, List.getElem_cons_succ, List.getElem_cons_zero, List.setIfInBounds_toArray, List.set_cons_zero, List.set_cons_succ])
              refine wpAnyH_take (i := 7 ) (v := ?_) rfl (by kernel_rfl) (by kernel_rfl) (by kernel_rfl) (fun _ _ _ h => h) (Or.inl ⟨by rfl, ?_⟩) (by assumption) ?_; rotate_left; (· (intro w hSw; obtain ⟨q0, q1⟩ := hSw; go_simp); first | done | with_reducible rfl); (try simp only [Act.put, List.getElem_toArray, List.getElem_cons_succ, List.getElem_cons_zero, List.setIfInBounds_toArray, List.set_cons_zero, List.set_cons_succ])
              refine wpAnyH_take (i := 8 ) (v := ?_) rfl (by kernel_rfl) (by kernel_rfl) (by kernel_rfl) (fun _ _ _ h => h) (Or.inl ⟨by rfl, ?_⟩) (by assumption) ?_; rotate_left; (· (intro w hSw; obtain ⟨q0, q1⟩ := hSw; go_simp); first | done | with_reducible rfl); (try simp only [Act.put, List.getElem_toArray, List.getElem_cons_succ, List.getElem_cons_zero, List.setIfInBounds_toArray, List.set_cons_zero, List.set_cons_succ])
              refine wpAnyH_take (i := 9 ) (v := ?_) rfl (by kernel_rfl) (by kernel_rfl) (by kernel_rfl) (fun _ _ _ h => h) (Or.inl ⟨by rfl, ?_⟩) (by assumption) ?_; rotate_left; (· (intro w hSw; obtain ⟨q0, q1⟩ := hSw; go_simp); first | done | with_reducible rfl); (try simp only [Act.put, List.getElem_toArray, List.getElem_cons_succ, List.getElem_cons_zero, List.setIfInBounds_toArray, List.set_cons_zero, List.set_cons_succ])
              refine wpAnyH_take (i := 10 ) (v := ?_) rfl (by kernel_rfl) (by kernel_rfl) (by kernel_rfl) (fun _ _ _ h => h) (Or.inl ⟨by rfl, ?_⟩) (by assumption) ?_; rotate_left; (· (intro w hSw; obtain ⟨q0, q1⟩ := hSw; go_simp); first | done | with_reducible rfl); (try simp only [Act.put, List.getElem_toArray, List.getElem_cons_succ, List.getElem_cons_zero, List.setIfInBounds_toArray, List.set_cons_zero, List.set_cons_succ])
              refine wpAnyH_take (i := 11 ) (v := ?_) rfl (by kernel_rfl) (by kernel_rfl) (by kernel_rfl) (fun _ _ _ h => h) (Or.inl ⟨by rfl, ?_⟩) (by assumption) ?_; rotate_left; (· (intro w hSw; obtain ⟨q0, q1⟩ := hSw; go_simp); first | done | with_reducible rfl); (try simp only [Act.put, List.getElem_toArray, List.getElem_cons_succ, List.getElem_cons_zero, List.setIfInBounds_toArray, List.set_cons_zero, List.set_cons_succ])
              refine wpAnyH_take (i := 12 ) (v := ?_) rfl (by kernel_rfl) (by kernel_rfl) (by kernel_rfl) (fun _ _ _ h => h) (Or.inl ⟨by rfl, ?_⟩) (by assumption) ?_; rotate_left; (· (intro w hSw; obtain ⟨q0, q1⟩ := hSw; go_simp); first | done | with_reducible rfl); (try simp only [Act.put, List.getElem_toArray, List.getElem_cons_succ, List.getElem_cons_zero, List.setIfInBounds_toArray, List.set_cons_zero, List.set_cons_succ])
              refine wpAnyH_ready (rs := [13]) (by kernel_rfl) (by simp) ?_
              refine AllReadyH.cons rfl (fun K hK => ?_) ?_
              · go_simp
                refine hK.out _ _ (two_cells HS0.out ((hbo.alloc hbo.size _).mono hsz) hbY hwq) (fun hH1 => ?_)
                clear hK K hH0
                try simp only [List.setIfInBounds_toArray, List.set_cons_zero, List.set_cons_succ]
                refine wpAnyH_ready (rs := [14]) (by kernel_rfl) (by simp) ?_
                refine AllReadyH.cons rfl (fun K hK => ?_) ?_
                · refine step_append_lies _ (by rfl) _ _ _ (by rfl) W4.heap.size 3 i0 _ 1 8 und_ints hi hz0 hz1 hz2 rfl (by omega) u10 k xs (by rfl) (own_call HOWN.out (hbo.alloc hbo.size _)) ⟨wr.heap.size, 0, none⟩ 1 1 [.int .i64 d] (by rfl) (by rfl) (World.news_of_block (cs := #[.int .i64 d]) (t := 3) (fr := (0, 0)) (World.alloc_heap_new wr.drew _)) (by simp [Value.oneCell']) (by omega) (by unfold maxLen; omega) (by omega) (Nat.le_trans hsz (hbo.alloc hbo.size _).size) (wr.heap.size + 1) (by simp) ?_
                  intro g cap w1 hown1 hgrow hat hlt1
                  have hba := below_append hsz HOWN.out (hbo.alloc hbo.size _) hgrow
                  refine hK.out _ _ (two_cells HS0.out hba hbY hwq) (fun hH2 => ?_)
                  have HO2 : Hid (w1.ownsRow W4.heap.size 3 1 (.slice (some ⟨g, 0, none⟩) (k + 1) cap) (k + 1) ((otherP p ys (k + 1)).map (Value.int .i64))) := Lib.hid (by rw [HNX.out, List.map_append, hxs]; exact hown1)
                  have HB2 := Lib.hid (HB.out.trans hba)
                  clear hK K hH1 hown1 hgrow hat hba r0 r1
                  try simp only [List.setIfInBounds_toArray, List.set_cons_zero, List.set_cons_succ]
                  refine wpAnyH_take (i := 15 ) (v := ?_) rfl (by kernel_rfl) (by kernel_rfl) (by kernel_rfl) (fun _ _ _ h => h) (Or.inl ⟨by rfl, ?_⟩) (by assumption) ?_; rotate_left; (· (intro w hSw; obtain ⟨q0, q1⟩ := hSw; go_simp); first | done | with_reducible rfl); (try simp only [Act.put, List.getElem_toArray, List.getElem_cons_succ, List.getElem_cons_zero, List.setIfInBounds_toArray, List.set_cons_zero, List.set_cons_succ])
                  refine wpAnyH_done (by kernel_rfl) ?_ _
                  go_wp2_with fail
                  go_roundw
                  case rel => exact ⟨k + 1, by omega, by go_num, HO2, HB2⟩
                  case measure => simp [intOf]; omega
                · exact AllReadyH.nil
              · exact AllReadyH.nil
            · obtain rfl : k = l.length := by omega
              have HSR := Lib.hid (HS.out.call HB.out)
              have hP4 := Lib.hid (P4.out.keep (.below HB.out))
              obtain ⟨P5, c5, rfl, hP5⟩ := plan_form HOWN.out (other_len p ys l.length).symm
              have P5h := Lib.hid hP5
              have HON := Lib.hid (other_in p ys l.length n1)
              have HBP := Lib.hid (best_plain HO.out.1 HO.out.2 (otherP p ys l.length) (other_len p ys l.length) (other_in p ys l.length n1))
              have hol := other_len p ys l.length
              clear hP5 HOWN HB
              generalize otherP p ys l.length = o at *
              obtain ⟨-, -, -, ch0, ch1⟩ := press_parts HO.out.1
              have HFO : Hid (∀ V, LbS w p A T Y c l ys V → IntSl V V.heap.size P5 o → Calls Try.prog 16 #[.agg #[.slice A p.dies.length c, .int .i64 p.shrink.lo, .int .i64 p.shrink.hi, .int .i64 p.change], .slice T l.length ct, .slice P5 l.length c5] V (RetFo (followR p l o) V)) := Lib.hid fun V h hi => by
                have h9 := follow_any V A T P5 c ct c5 p l o HLE.out.1 HLE.out.2.1 (by omega) h.da h.dr hi
                rw [hol] at h9
                exact h9
              have HCO : Hid (∀ V, IntSl V V.heap.size P5 o → Calls Try.prog 23 #[.agg #[.slice A p.dies.length c, .int .i64 p.shrink.lo, .int .i64 p.shrink.hi, .int .i64 p.change], .slice P5 l.length c5] V (Ret (.int .i64 (costG p.change none o)) V)) := Lib.hid fun V hi => by
                have h9 := rcost_any V A P5 c c5 p o ch0 ch1 (by omega) (fun d hd => by have := HON.out d hd; omega) hi
                rw [hol] at h9
                exact h9
              rw [hol]
              have HOL := Lib.hid hol
              clear hol
              generalize followR p l o = fr at *
              generalize costG p.change none o = own at *
              generalize planC p l = pc at *
              generalize planE p l = pe at *
              generalize planP p l = pp at *
              have x0 := HSR.out.bq.cell 0
              have x1 := HSR.out.bq.cell 1
              have x2 := HSR.out.bq.cell 2
              have x3 := HSR.out.bq.cell 3
              go_wp2_with fail
              refine (HFO.out _ HSR.out (plan_sl P5h.out)).mono ?_
              rintro e W6 ⟨A6, c6, rfl, -, hb⟩
              replace HS := Lib.hid (HSR.out.call hb)
              have Q4 := Lib.hid (hP4.out.keep (.below hb))
              have Q5 := Lib.hid (P5h.out.keep (.below hb))
              clear hb x0 x1 x2 x3 HFO HSR hP4 P5h
              by_cases hfe : fr.err = 0
              · obtain ⟨e1, e2, e3⟩ := HBP.out.2 hfe
                have HE3 := Lib.hid e3
                clear e3 HBP
                subst e1
                have hfq : (fr.err == 0) = true := by rw [hfe]; rfl
                have hle : ((pp.length : Int) == l.length) = true := by rw [beq_iff_eq]; omega
                have x0 := HS.out.bq.cell 0; have x1 := HS.out.bq.cell 1; have x2 := HS.out.bq.cell 2; have x3 := HS.out.bq.cell 3
                go_wp2_with fail
                refine (HCO.out _ (plan_sl Q5.out)).mono ?_
                rintro e W7 ⟨rfl, hb⟩
                replace HS := Lib.hid (HS.out.call hb)
                replace Q4 := Lib.hid (plan_sl (Q4.out.keep (.below hb)))
                replace Q5 := Lib.hid (plan_sl (Q5.out.keep (.below hb)))
                clear hb x0 x1 x2 x3 HCO
                by_cases hoc : own = pc
                · have hbq : (own == pc) = true := by simp [hoc]
                  have HLX : Hid (LexLe pp o) := Lib.hid (match HE3.out with | .inl h => absurd hoc (by omega) | .inr h => h.2)
                  clear HE3
                  subst hoc
                  have HLN := Lib.hid e2
                  clear e2
                  go_wp2_with fail
                  go_loopw [16] (fun i wr => ∃ k : Nat, k ≤ l.length ∧ i = .int .i64 k ∧ Hid (pp.take k = o.take k) ∧ Hid (Below W7.heap.size W7 wr)) (fun i _ => l.length - (intOf i).toNat)
                  case atStart => exact ⟨0, by omega, rfl, Lib.hid (by simp), Lib.hid (Below.refl _ _)⟩
                  case round =>
                    obtain ⟨k, hk, rfl, HTK, HW⟩ := hrel
                    by_cases hlt : k < l.length
                    · have hka : k < pp.length := by rw [HLN.out]; exact hlt
                      have hkb : k < o.length := by rw [HOL.out]; exact hlt
                      obtain ⟨ba, oa, rfl, hba, hca⟩ := Q4.out (by intro e; rw [e] at hka; simp at hka)
                      obtain ⟨bb, ob, rfl, hbb, hcb⟩ := Q5.out (by intro e; rw [e] at hkb; simp at hkb)
                      have x0 := hca k hka
                      have y0 := hcb k hkb
                      rw [← HW.out.cell (p := ⟨ba, _, none⟩) hba] at x0
                      rw [← HW.out.cell (p := ⟨bb, _, none⟩) hbb] at y0
                      clear hca hcb
                      have HEQ : Hid (pp[k] = o[k] → pp.take (k + 1) = o.take (k + 1)) := Lib.hid fun h => take_snoc_eq hka hkb HTK.out h
                      have HNE : Hid (pp[k] ≠ o[k] → pp[k] < o[k]) := Lib.hid fun h => HLX.out.at k hka hkb HTK.out h
                      have hka2 : (k : Int) < pp.length := by omega
                      have hkb2 : (k : Int) < o.length := by omega
                      have hkl : (k : Int) < l.length := by omega
                      have hk0 : (0 : Int) ≤ k := by omega
                      have hsz := HW.out.size
                      generalize pp[k] = xa at *
                      generalize o[k] = xb at *
                      clear HTK
                      by_cases hx : xa = xb
                      · have HSS := Lib.hid (HEQ.out hx)
                        have hxq : (xa == xb) = true := by simp [hx]
                        clear HEQ HNE
                        subst hx
                        go_wp2_with fail
                        go_quiet (fail)
                        go_wp2_with fail
                        go_roundw
                        case rel => exact ⟨k + 1, by omega, by go_num, HSS, Lib.hid (below_drewN HW.out _)⟩
                        case measure => simp [intOf]; omega
                      · have hlx : decide (xa < xb) = true := decide_eq_true (HNE.out hx)
                        have hxq : (xa == xb) = false := by simp [hx]
                        clear HEQ HNE hx
                        go_wp2_with fail
                        go_quiet (fail)
                        have HW2 := Lib.hid (below_drewN HW.out nq)
                        have hS0 : (World.drewN wr nq).cell? ⟨ba, oa + k, none⟩ = some (.int .i64 xa) ∧ (World.drewN wr nq).cell? ⟨bb, ob + k, none⟩ = some (.int .i64 xb) := ⟨x0, y0⟩
                        clear x0 y0
                        generalize World.drewN wr nq = V at hS0 HW2 ⊢
                        go_wp2_with fail
                        go_region_held3 (fun W => W.cell? ⟨ba, oa + k, none⟩ = some (.int .i64 xa) ∧ W.cell? ⟨bb, ob + k, none⟩ = some (.int .i64 xb))
                          (first | exact hS0 | exact hS9 | assumption | fail "keep")
                          (first
                            | (go_at_call 11; (with_reducible refine (awake_any _).mono ?_); rintro e w9 ⟨rfl, hb9⟩; have hb8 := Below.trans (Below.refl _ V).drew hb9; have hS9 := two_cells hS0 (Below.mono hb8 HW2.out.size) hba hbb; have HB9 := Lib.hid ((HS.out.call (HW2.out.trans (hb8.mono HW2.out.size))).below); clear hb9 hb8)
                            | fail "no arm")
                        go_wp2_with fail
                        go_ret
                        exact ⟨rfl, HB9.out⟩
                    · go_wp2_with fail
                      replace HS := Lib.hid (HS.out.call HW.out)
                      refine (awake_any _).mono ?_; rintro e w9 ⟨rfl, hb9⟩; have hB := (HS.out.call hb9).below; clear HS hb9; go_wp2_with fail; go_ret; exact ⟨rfl, hB⟩
                · have hbq : (own == pc) = false := by simp [hoc]
                  have hgt : decide (pc < own) = true := decide_eq_true (by rcases HE3.out with h | ⟨h, -⟩ <;> omega)
                  clear HE3 hoc
                  go_wp2_with fail
                  refine (awake_any _).mono ?_; rintro e w9 ⟨rfl, hb9⟩; have hB := (HS.out.call hb9).below; clear HS hb9; go_wp2_with fail; go_ret; exact ⟨rfl, hB⟩
              · obtain ⟨e1, e2, e3⟩ := HBP.out.1 hfe
                clear HBP hfe
                have hix : (fr.idx : Int) < l.length := by omega
                rw [e1]
                clear e1
                rcases e3 with e3 | e3
                · subst e3
                  go_wp2_with fail
                  refine (awake_any _).mono ?_; rintro e w9 ⟨rfl, hb9⟩; have hB := (HS.out.call hb9).below; clear HS hb9; go_wp2_with fail; go_ret; exact ⟨rfl, hB⟩
                · subst e3
                  go_wp2_with fail
                  refine (awake_any _).mono ?_; rintro e w9 ⟨rfl, hb9⟩; have hB := (HS.out.call hb9).below; clear HS hb9; go_wp2_with fail; go_ret; exact ⟨rfl, hB⟩
end Go.Proofs.Ytkokacdaiklfjaa
