/- Walks: Grades. -/
import Derived.Test.YtfpfafijockfnaaSy
namespace Go.Proofs.Ytfpfafijockfnaa
open Go.RowKit Go.Shelf

theorem own5 {w w' : World} {B : Nat} {e : TypeId} {size : Nat} {v : Value} {k : Nat} {xs : List Value} (hr : w.ownsRow B e size v k xs) (hb : Below w.heap.size w w') : w'.ownsRow B e size v k xs := by
  refine ⟨hr.1, ?_⟩
  rcases hr.2 with h | ⟨g, cap, cur, rfl, h1, h2, h3⟩
  · exact .inl h
  · refine .inr ⟨g, cap, cur, rfl, h1, ?_, h3⟩
    rw [hb.block g (Array.getElem?_eq_some_iff.1 h2).1]
    exact h2
theorem own_low {w : World} {B B' : Nat} {e : TypeId} {size : Nat} {v : Value} {k : Nat} {xs : List Value} (hr : w.ownsRow B e size v k xs) (hb : B' ≤ B) : w.ownsRow B' e size v k xs := by
  refine ⟨hr.1, ?_⟩
  rcases hr.2 with h | ⟨g, cap, cur, rfl, h1, h2⟩
  · exact .inl h
  · exact .inr ⟨g, cap, cur, rfl, by omega, h2⟩
theorem own_form {w : World} {B : Nat} {e : TypeId} {size : Nat} {v : Value} {k : Nat} {xs : List Value} (hr : w.ownsRow B e size v k xs) : ∃ A c, v = .slice A k c := by
  rcases hr.2 with ⟨rfl, h⟩ | ⟨g, cap, cur, rfl, h1, h2⟩
  · exact ⟨none, 0, by rw [h]⟩
  · exact ⟨_, _, rfl⟩
theorem grades_snoc {j : Jig} {a b : Slat} {x : List Int} {k : Nat} (hk : k < (leadsOf j a b).length) : (gradesOf j a b x).take (k + 1) = (gradesOf j a b x).take k ++ [gradeOf (leadsOf j a b)[k] x] := by
  have hk2 : k < (gradesOf j a b x).length := by unfold gradesOf; simpa using hk
  rw [List.take_succ_eq_append_getElem hk2]
  simp [gradesOf]
theorem grades_len (j : Jig) (a b : Slat) (x : List Int) : (gradesOf j a b x).length = (leadsOf j a b).length := by simp [gradesOf]
def RetGr (l : List Int) (er : Int) (w : World) (e : Ending) (w' : World) : Prop := ∃ A c, e = .returned (.tuple #[.slice A l.length c, .int .i64 er]) ∧ w'.ownsRow w.heap.size 3 1 (.slice A l.length c) l.length (intsV l) ∧ Below w.heap.size w w'
set_option maxRecDepth 100000 in
set_option maxHeartbeats 4000000 in
theorem grades5_any (j : Jig) (a b : Slat) (A : Option Addr) (c : Nat) (x : List Int) (w : World) (hx : x.length ≤ 9223372036854775807) (hA : IntSl w w.heap.size A x) : Calls Try.prog 23 #[.agg #[.int .i64 j.glue.lo, .int .i64 j.glue.hi, .int .i64 j.lead.lo, .int .i64 j.lead.hi, .int .i64 j.side.lo, .int .i64 j.side.hi, .int .i64 j.height.lo, .int .i64 j.height.hi, .int .i64 j.play, .int .i64 j.grooves], .agg #[.int .i64 a.thick.lo, .int .i64 a.thick.hi, .int .i64 a.depth.lo, .int .i64 a.depth.hi, .int .i64 a.shift.lo, .int .i64 a.shift.hi, .int .i64 a.pitch.lo, .int .i64 a.pitch.hi], .agg #[.int .i64 b.thick.lo, .int .i64 b.thick.hi, .int .i64 b.depth.lo, .int .i64 b.depth.hi, .int .i64 b.shift.lo, .int .i64 b.shift.hi, .int .i64 b.pitch.lo, .int .i64 b.pitch.hi], .slice A x.length c] w (RetGr (graL j a b x) (graE j a b x) w) := by
  have HOK : Hid (graE0 j a b x = 0 → JigIn j ∧ SlatIn a ∧ SlatIn b ∧ x.length ≤ 8 ∧ ∀ y ∈ x, 0 ≤ y ∧ y ≤ 1000) := Lib.hid gra_ok
  have HOE : Hid (graE j a b x = if graE0 j a b x = 0 then (if alwaysB j a b = true then 0 else 6) else graE0 j a b x) := Lib.hid rfl
  have HOL : Hid (graL j a b x = if graE0 j a b x = 0 ∧ alwaysB j a b = true then gradesOf j a b x else []) := Lib.hid rfl
  have HFE : Hid (∀ (W : World) (gA gB : Nat), Below w.heap.size w W → gA < W.heap.size → gB < W.heap.size → Blk W gA 37 #[.int .i64 a.thick.lo, .int .i64 a.thick.hi, .int .i64 a.depth.lo, .int .i64 a.depth.hi, .int .i64 a.shift.lo, .int .i64 a.shift.hi, .int .i64 a.pitch.lo, .int .i64 a.pitch.hi] → Blk W gB 37 #[.int .i64 b.thick.lo, .int .i64 b.thick.hi, .int .i64 b.depth.lo, .int .i64 b.depth.hi, .int .i64 b.shift.lo, .int .i64 b.shift.hi, .int .i64 b.pitch.lo, .int .i64 b.pitch.hi] → Calls Try.prog 36 #[.agg #[.int .i64 j.glue.lo, .int .i64 j.glue.hi, .int .i64 j.lead.lo, .int .i64 j.lead.hi, .int .i64 j.side.lo, .int .i64 j.side.hi, .int .i64 j.height.lo, .int .i64 j.height.hi, .int .i64 j.play, .int .i64 j.grooves], .slice (some ⟨gA, 0, none⟩) 1 1, .slice (some ⟨gB, 0, none⟩) 1 1, .slice A x.length c, .bool (decide (0 < x.length))] W (Ret (.int .i64 (graE0 j a b x)) W)) := Lib.hid fun W gA gB hW h1 h2 h3 h4 =>
    slErr_any W (some ⟨gA, 0, none⟩) (some ⟨gB, 0, none⟩) A 1 1 c j [a] [b] x _ (by simp) (by simp) hx (fun _ => ⟨gA, 0, rfl, h1, one_slat h3⟩) (fun _ => ⟨gB, 0, rfl, h2, one_slat h4⟩) (hA.on hW (Nat.le_refl _))
  have HA := Lib.hid hA
  have HS := Lib.hid (boxes_of j a b w)
  generalize graL j a b x = gl at *
  generalize graE j a b x = ge at *
  generalize graE0 j a b x = er at *
  have hx' : (x.length : Int) ≤ 9223372036854775807 := by omega
  have hx0 : (0 : Int) ≤ x.length := by omega
  clear hA
  go_enter Try.func23, Try.ntmps23
  go_upto_region 1 with fail
  have hVs : (((w.alloc (.cells #[.int .i64 j.glue.lo, .int .i64 j.glue.hi, .int .i64 j.lead.lo, .int .i64 j.lead.hi, .int .i64 j.side.lo, .int .i64 j.side.hi, .int .i64 j.height.lo, .int .i64 j.height.hi, .int .i64 j.play, .int .i64 j.grooves] 25)).alloc (.cells #[.int .i64 a.thick.lo, .int .i64 a.thick.hi, .int .i64 a.depth.lo, .int .i64 a.depth.hi, .int .i64 a.shift.lo, .int .i64 a.shift.hi, .int .i64 a.pitch.lo, .int .i64 a.pitch.hi] 37)).alloc (.cells #[.int .i64 b.thick.lo, .int .i64 b.thick.hi, .int .i64 b.depth.lo, .int .i64 b.depth.hi, .int .i64 b.shift.lo, .int .i64 b.shift.hi, .int .i64 b.pitch.lo, .int .i64 b.pitch.hi] 37)).heap.size = w.heap.size + 1 + 1 + 1 := by simp
  generalize World.alloc (World.alloc (World.alloc w _) _) _ = V at HS hVs ⊢
  have KJ := Lib.hid HS.out.kj
  have KA := Lib.hid HS.out.ka
  have KB := Lib.hid (HS.out.kb.alloc (.cells #[.int .i64 a.thick.lo, .int .i64 a.thick.hi, .int .i64 a.depth.lo, .int .i64 a.depth.hi, .int .i64 a.shift.lo, .int .i64 a.shift.hi, .int .i64 a.pitch.lo, .int .i64 a.pitch.hi] 37))
  have hbA : Below V.heap.size V ((V.alloc (.cells #[.int .i64 a.thick.lo, .int .i64 a.thick.hi, .int .i64 a.depth.lo, .int .i64 a.depth.hi, .int .i64 a.shift.lo, .int .i64 a.shift.hi, .int .i64 a.pitch.lo, .int .i64 a.pitch.hi] 37)).alloc (.cells #[.int .i64 b.thick.lo, .int .i64 b.thick.hi, .int .i64 b.depth.lo, .int .i64 b.depth.hi, .int .i64 b.shift.lo, .int .i64 b.shift.hi, .int .i64 b.pitch.lo, .int .i64 b.pitch.hi] 37)) := by repeat (first | exact Below.refl _ _ | assumption | refine Below.drew ?_ | refine Below.alloc ?_ (by first | omega | (simp only [World.size_alloc]; omega) | simp) _ | refine Below.setCell ?_ (by first | omega | (simp only [World.size_alloc]; omega) | simp) _)
  have KA2 : Hid (Blk ((V.alloc (.cells #[.int .i64 a.thick.lo, .int .i64 a.thick.hi, .int .i64 a.depth.lo, .int .i64 a.depth.hi, .int .i64 a.shift.lo, .int .i64 a.shift.hi, .int .i64 a.pitch.lo, .int .i64 a.pitch.hi] 37)).alloc (.cells #[.int .i64 b.thick.lo, .int .i64 b.thick.hi, .int .i64 b.depth.lo, .int .i64 b.depth.hi, .int .i64 b.shift.lo, .int .i64 b.shift.hi, .int .i64 b.pitch.lo, .int .i64 b.pitch.hi] 37)) V.heap.size 37 #[.int .i64 a.thick.lo, .int .i64 a.thick.hi, .int .i64 a.depth.lo, .int .i64 a.depth.hi, .int .i64 a.shift.lo, .int .i64 a.shift.hi, .int .i64 a.pitch.lo, .int .i64 a.pitch.hi]) := Lib.hid ((Blk.new _ _ _).alloc _)
  have KB2 : Hid (Blk ((V.alloc (.cells #[.int .i64 a.thick.lo, .int .i64 a.thick.hi, .int .i64 a.depth.lo, .int .i64 a.depth.hi, .int .i64 a.shift.lo, .int .i64 a.shift.hi, .int .i64 a.pitch.lo, .int .i64 a.pitch.hi] 37)).alloc (.cells #[.int .i64 b.thick.lo, .int .i64 b.thick.hi, .int .i64 b.depth.lo, .int .i64 b.depth.hi, .int .i64 b.shift.lo, .int .i64 b.shift.hi, .int .i64 b.pitch.lo, .int .i64 b.pitch.hi] 37)) (V.heap.size + 1) 37 #[.int .i64 b.thick.lo, .int .i64 b.thick.hi, .int .i64 b.depth.lo, .int .i64 b.depth.hi, .int .i64 b.shift.lo, .int .i64 b.shift.hi, .int .i64 b.pitch.lo, .int .i64 b.pitch.hi]) := Lib.hid (blk5 _ _ (by simp) rfl)
  have HS2 := Lib.hid (HS.out.call hbA)
  clear hbA HS hVs
  go_wp2_with (first | (with_reducible refine wpList_load_mid (by with_unfolding_all rfl) 25 _ (by with_unfolding_all rfl) _ _ (by with_unfolding_all rfl) [.int .i64 j.glue.lo, .int .i64 j.glue.hi, .int .i64 j.lead.lo, .int .i64 j.lead.hi, .int .i64 j.side.lo, .int .i64 j.side.hi, .int .i64 j.height.lo, .int .i64 j.height.hi, .int .i64 j.play, .int .i64 j.grooves] _ KJ.out.range (by with_unfolding_all rfl) (by with_unfolding_all rfl) (by kernel_rfl) ?_) | (with_reducible refine wpList_load_mid (by with_unfolding_all rfl) 37 _ (by with_unfolding_all rfl) _ _ (by with_unfolding_all rfl) [.int .i64 a.thick.lo, .int .i64 a.thick.hi, .int .i64 a.depth.lo, .int .i64 a.depth.hi, .int .i64 a.shift.lo, .int .i64 a.shift.hi, .int .i64 a.pitch.lo, .int .i64 a.pitch.hi] _ KA.out.range (by with_unfolding_all rfl) (by with_unfolding_all rfl) (by kernel_rfl) ?_) | (with_reducible refine wpList_load_mid (by with_unfolding_all rfl) 37 _ (by with_unfolding_all rfl) _ _ (by with_unfolding_all rfl) [.int .i64 b.thick.lo, .int .i64 b.thick.hi, .int .i64 b.depth.lo, .int .i64 b.depth.hi, .int .i64 b.shift.lo, .int .i64 b.shift.hi, .int .i64 b.pitch.lo, .int .i64 b.pitch.hi] _ KB.out.range (by with_unfolding_all rfl) (by with_unfolding_all rfl) (by kernel_rfl) ?_))
  refine (HFE.out _ _ _ HS2.out.hb KA2.out.lt KB2.out.lt KA2.out KB2.out).mono ?_
  rintro e W1 ⟨rfl, hb⟩
  have HS := Lib.hid (HS2.out.call hb)
  replace KJ := Lib.hid HS.out.kj
  replace KA := Lib.hid HS.out.ka
  replace KB := Lib.hid HS.out.kb
  clear HS2 KA2 KB2 hb HFE
  by_cases h0 : er = 0
  · have HI := Lib.hid (HOK.out h0)
    obtain ⟨N, hN⟩ := Int.eq_ofNat_of_zero_le (show 0 ≤ j.grooves by have := HI.out.1.n0; omega)
    have HCW : Hid (∀ W, Calls Try.prog 44 #[.agg #[.int .i64 j.glue.lo, .int .i64 j.glue.hi, .int .i64 j.lead.lo, .int .i64 j.lead.hi, .int .i64 j.side.lo, .int .i64 j.side.hi, .int .i64 j.height.lo, .int .i64 j.height.hi, .int .i64 j.play, .int .i64 j.grooves, .int .i64 a.thick.lo, .int .i64 a.thick.hi, .int .i64 a.depth.lo, .int .i64 a.depth.hi, .int .i64 a.shift.lo, .int .i64 a.shift.hi, .int .i64 a.pitch.lo, .int .i64 a.pitch.hi, .int .i64 b.thick.lo, .int .i64 b.thick.hi, .int .i64 b.depth.lo, .int .i64 b.depth.hi, .int .i64 b.shift.lo, .int .i64 b.shift.hi, .int .i64 b.pitch.lo, .int .i64 b.pitch.hi], .func (.func 45) #[] #[]] W (Ret (.bool (alwaysB j a b)) W)) := Lib.hid fun W => closes5_any j a b _ insideB W HI.out.1 HI.out.2.1 HI.out.2.2.1 isMet_within
    have HLD : Hid (∀ W, Calls Try.prog 46 #[.agg #[.int .i64 j.glue.lo, .int .i64 j.glue.hi, .int .i64 j.lead.lo, .int .i64 j.lead.hi, .int .i64 j.side.lo, .int .i64 j.side.hi, .int .i64 j.height.lo, .int .i64 j.height.hi, .int .i64 j.play, .int .i64 j.grooves, .int .i64 a.thick.lo, .int .i64 a.thick.hi, .int .i64 a.depth.lo, .int .i64 a.depth.hi, .int .i64 a.shift.lo, .int .i64 a.shift.hi, .int .i64 a.pitch.lo, .int .i64 a.pitch.hi, .int .i64 b.thick.lo, .int .i64 b.thick.hi, .int .i64 b.depth.lo, .int .i64 b.depth.hi, .int .i64 b.shift.lo, .int .i64 b.shift.hi, .int .i64 b.pitch.lo, .int .i64 b.pitch.hi]] W (RetLeads (leadsOf j a b) N W)) := Lib.hid fun W => leads5_any j a b N W HI.out.1 HI.out.2.1 HI.out.2.2.1 hN
    have HLN : Hid ((leadsOf j a b).length = N) := Lib.hid (by rw [leads_len, hN]; simp)
    have HBD : Hid (∀ k (hk : k < (leadsOf j a b).length), LeadBd (leadsOf j a b)[k]) := Lib.hid fun k hk => by
      rw [leads_at]
      have h1 := HI.out.1.n1
      rw [leads_len, hN] at hk
      exact lead_bd HI.out.1 HI.out.2.1 HI.out.2.2.1 (by omega) (by have : k < N := (by simpa using hk); omega)
    have HSN : Hid (∀ k (hk : k < (leadsOf j a b).length), (gradesOf j a b x).take (k + 1) = (gradesOf j a b x).take k ++ [gradeOf (leadsOf j a b)[k] x]) := Lib.hid fun k hk => grades_snoc hk
    have HGL : Hid ((gradesOf j a b x).length = N) := Lib.hid (by rw [grades_len]; exact HLN.out)
    have HXX := Lib.hid HI.out.2.2.2.2
    have hN10 : N ≤ 10 := by have := HI.out.1.n1; omega
    rw [if_pos h0] at HOE
    replace HOL : Hid (gl = if alwaysB j a b = true then gradesOf j a b x else []) := Lib.hid (by rw [HOL.out]; simp [h0])
    subst h0
    generalize alwaysB j a b = z1 at *
    generalize leadsOf j a b = ld at *
    generalize gradesOf j a b x = gd at *
    have K0 := Lib.hid ((Blk.new W1 95 #[.int .i64 0, .int .i64 0, .int .i64 0, .int .i64 0, .int .i64 0, .int .i64 0, .int .i64 0, .int .i64 0, .int .i64 0, .int .i64 0, .int .i64 0, .int .i64 0, .int .i64 0, .int .i64 0, .int .i64 0, .int .i64 0, .int .i64 0, .int .i64 0, .int .i64 0, .int .i64 0, .int .i64 0, .int .i64 0, .int .i64 0, .int .i64 0, .int .i64 0, .int .i64 0]).row #[.int .i64 j.glue.lo, .int .i64 j.glue.hi, .int .i64 j.lead.lo, .int .i64 j.lead.hi, .int .i64 j.side.lo, .int .i64 j.side.hi, .int .i64 j.height.lo, .int .i64 j.height.hi, .int .i64 j.play, .int .i64 j.grooves, .int .i64 a.thick.lo, .int .i64 a.thick.hi, .int .i64 a.depth.lo, .int .i64 a.depth.hi, .int .i64 a.shift.lo, .int .i64 a.shift.hi, .int .i64 a.pitch.lo, .int .i64 a.pitch.hi, .int .i64 b.thick.lo, .int .i64 b.thick.hi, .int .i64 b.depth.lo, .int .i64 b.depth.hi, .int .i64 b.shift.lo, .int .i64 b.shift.hi, .int .i64 b.pitch.lo, .int .i64 b.pitch.hi])
    have HB := Lib.hid (below_setRow (HS.out.hb.alloc HS.out.hb.size (.cells #[.int .i64 0, .int .i64 0, .int .i64 0, .int .i64 0, .int .i64 0, .int .i64 0, .int .i64 0, .int .i64 0, .int .i64 0, .int .i64 0, .int .i64 0, .int .i64 0, .int .i64 0, .int .i64 0, .int .i64 0, .int .i64 0, .int .i64 0, .int .i64 0, .int .i64 0, .int .i64 0, .int .i64 0, .int .i64 0, .int .i64 0, .int .i64 0, .int .i64 0, .int .i64 0] 95)) HS.out.hb.size #[.int .i64 j.glue.lo, .int .i64 j.glue.hi, .int .i64 j.lead.lo, .int .i64 j.lead.hi, .int .i64 j.side.lo, .int .i64 j.side.hi, .int .i64 j.height.lo, .int .i64 j.height.hi, .int .i64 j.play, .int .i64 j.grooves, .int .i64 a.thick.lo, .int .i64 a.thick.hi, .int .i64 a.depth.lo, .int .i64 a.depth.hi, .int .i64 a.shift.lo, .int .i64 a.shift.hi, .int .i64 a.pitch.lo, .int .i64 a.pitch.hi, .int .i64 b.thick.lo, .int .i64 b.thick.hi, .int .i64 b.depth.lo, .int .i64 b.depth.hi, .int .i64 b.shift.lo, .int .i64 b.shift.hi, .int .i64 b.pitch.lo, .int .i64 b.pitch.hi])
    clear HOK HI HS hN
    go_wp2_with (first | (with_reducible refine wpList_load_mid (by with_unfolding_all rfl) 25 _ (by with_unfolding_all rfl) _ _ (by with_unfolding_all rfl) [.int .i64 j.glue.lo, .int .i64 j.glue.hi, .int .i64 j.lead.lo, .int .i64 j.lead.hi, .int .i64 j.side.lo, .int .i64 j.side.hi, .int .i64 j.height.lo, .int .i64 j.height.hi, .int .i64 j.play, .int .i64 j.grooves] _ KJ.out.range (by with_unfolding_all rfl) (by with_unfolding_all rfl) (by kernel_rfl) ?_) | (with_reducible refine wpList_load_mid (by with_unfolding_all rfl) 37 _ (by with_unfolding_all rfl) _ _ (by with_unfolding_all rfl) [.int .i64 a.thick.lo, .int .i64 a.thick.hi, .int .i64 a.depth.lo, .int .i64 a.depth.hi, .int .i64 a.shift.lo, .int .i64 a.shift.hi, .int .i64 a.pitch.lo, .int .i64 a.pitch.hi] _ KA.out.range (by with_unfolding_all rfl) (by with_unfolding_all rfl) (by kernel_rfl) ?_) | (with_reducible refine wpList_load_mid (by with_unfolding_all rfl) 37 _ (by with_unfolding_all rfl) _ _ (by with_unfolding_all rfl) [.int .i64 b.thick.lo, .int .i64 b.thick.hi, .int .i64 b.depth.lo, .int .i64 b.depth.hi, .int .i64 b.shift.lo, .int .i64 b.shift.hi, .int .i64 b.pitch.lo, .int .i64 b.pitch.hi] _ KB.out.range (by with_unfolding_all rfl) (by with_unfolding_all rfl) (by kernel_rfl) ?_) | (with_reducible refine wpList_store_row (by with_unfolding_all rfl) 95 (.tmp 11) (.tmp 31) (by with_unfolding_all rfl) W1.heap.size #[.int .i64 j.glue.lo, .int .i64 j.glue.hi, .int .i64 j.lead.lo, .int .i64 j.lead.hi, .int .i64 j.side.lo, .int .i64 j.side.hi, .int .i64 j.height.lo, .int .i64 j.height.hi, .int .i64 j.play, .int .i64 j.grooves, .int .i64 a.thick.lo, .int .i64 a.thick.hi, .int .i64 a.depth.lo, .int .i64 a.depth.hi, .int .i64 a.shift.lo, .int .i64 a.shift.hi, .int .i64 a.pitch.lo, .int .i64 a.pitch.hi, .int .i64 b.thick.lo, .int .i64 b.thick.hi, .int .i64 b.depth.lo, .int .i64 b.depth.hi, .int .i64 b.shift.lo, .int .i64 b.shift.hi, .int .i64 b.pitch.lo, .int .i64 b.pitch.hi] (by with_unfolding_all rfl) (by with_unfolding_all rfl) 95 _ (World.alloc_heap_new W1 _) (by kernel_rfl) (by with_unfolding_all rfl) (by kernel_rfl) ?_) | (with_reducible refine wpList_load_mid (by with_unfolding_all rfl) 95 _ (by with_unfolding_all rfl) _ _ (by with_unfolding_all rfl) [.int .i64 j.glue.lo, .int .i64 j.glue.hi, .int .i64 j.lead.lo, .int .i64 j.lead.hi, .int .i64 j.side.lo, .int .i64 j.side.hi, .int .i64 j.height.lo, .int .i64 j.height.hi, .int .i64 j.play, .int .i64 j.grooves, .int .i64 a.thick.lo, .int .i64 a.thick.hi, .int .i64 a.depth.lo, .int .i64 a.depth.hi, .int .i64 a.shift.lo, .int .i64 a.shift.hi, .int .i64 a.pitch.lo, .int .i64 a.pitch.hi, .int .i64 b.thick.lo, .int .i64 b.thick.hi, .int .i64 b.depth.lo, .int .i64 b.depth.hi, .int .i64 b.shift.lo, .int .i64 b.shift.hi, .int .i64 b.pitch.lo, .int .i64 b.pitch.hi] _ K0.out.range (by with_unfolding_all rfl) (by with_unfolding_all rfl) (by kernel_rfl) ?_))
    refine (HCW.out _).mono ?_
    rintro e W2 ⟨rfl, hb⟩
    replace K0 := Lib.hid (K0.out.below hb K0.out.lt)
    replace HB := Lib.hid (HB.out.trans (hb.mono HB.out.size))
    clear hb KJ KA KB HCW
    cases z1 with
    | true =>
      have HE3 : ge = 0 := HOE.out
      have HL3 : gl = gd := HOL.out
      subst HE3 HL3
      clear HOE HOL
      go_wp2_with (with_reducible refine wpList_load_mid (by with_unfolding_all rfl) 95 _ (by with_unfolding_all rfl) _ _ (by with_unfolding_all rfl) [.int .i64 j.glue.lo, .int .i64 j.glue.hi, .int .i64 j.lead.lo, .int .i64 j.lead.hi, .int .i64 j.side.lo, .int .i64 j.side.hi, .int .i64 j.height.lo, .int .i64 j.height.hi, .int .i64 j.play, .int .i64 j.grooves, .int .i64 a.thick.lo, .int .i64 a.thick.hi, .int .i64 a.depth.lo, .int .i64 a.depth.hi, .int .i64 a.shift.lo, .int .i64 a.shift.hi, .int .i64 a.pitch.lo, .int .i64 a.pitch.hi, .int .i64 b.thick.lo, .int .i64 b.thick.hi, .int .i64 b.depth.lo, .int .i64 b.depth.hi, .int .i64 b.shift.lo, .int .i64 b.shift.hi, .int .i64 b.pitch.lo, .int .i64 b.pitch.hi] _ K0.out.range (by with_unfolding_all rfl) (by with_unfolding_all rfl) (by kernel_rfl) ?_)
      refine (HLD.out _).mono ?_
      rintro e W3 ⟨g, hg, rfl, hrow, hb⟩
      replace HB := Lib.hid (HB.out.trans (hb.mono HB.out.size))
      have HR := Lib.hid hrow
      have hgz := hrow.lt
      clear hb K0 HLD hrow hg
      go_wp2_with fail
      obtain ⟨i0, hi, hz0, hz1, hz2⟩ := info_parts planInfo
      have HI5 := Lib.hid (And.intro hi (And.intro hz0 (And.intro hz1 hz2)))
      clear hi hz0 hz1 hz2
      go_loopw [12, 38] (fun v i wr => ∃ (k : Nat) (s0 : Value), k ≤ N ∧ s0 = v ∧ i = .int .i64 k ∧ Hid (wr.ownsRow W3.heap.size 3 1 s0 k (intsV (gl.take k))) ∧ Hid (Below W3.heap.size W3 wr)) (fun _ i _ => N - (intOf i).toNat)
      case atStart => exact ⟨0, _, by omega, rfl, rfl, Lib.hid (World.ownsRow_nil _ _ _ _), Lib.hid (Below.refl _ _)⟩
      case round =>
        obtain ⟨k, s0, hk, rfl, rfl, HW, HB3⟩ := hrel
        by_cases hlt : k < N
        · have hkl : k < ld.length := by rw [HLN.out]; exact hlt
          obtain ⟨l0, l1, l2, l3⟩ := HR.out.at_ k hkl
          rw [← HB3.out.cell (p := ⟨g, _, none⟩) hgz] at l0 l1 l2 l3
          have hwz : g < wr.heap.size := Nat.lt_of_lt_of_le hgz HB3.out.size
          have HSK := Lib.hid (HSN.out k hkl)
          have hbd := HBD.out k hkl
          generalize ld[k] = l at *
          have hki : (k : Int) < N := by omega
          have hk0 : (0 : Int) ≤ k := by omega
          have HWB := Lib.hid (HB.out.trans (HB3.out.mono HB.out.size))
          have hbl := (Below.refl wr.heap.size wr).alloc (Nat.le_refl _) (.cells #[.int .i64 l.side.lo, .int .i64 l.side.hi, .int .i64 l.height.lo, .int .i64 l.height.hi] 109)
          have HG := Lib.hid (grade_any l (wr.alloc (.cells #[.int .i64 l.side.lo, .int .i64 l.side.hi, .int .i64 l.height.lo, .int .i64 l.height.hi] 109)) A c x hbd (HA.out.on (HWB.out.trans (hbl.mono HWB.out.size)) (Nat.le_refl _)) (by omega) HXX.out)
          have HBL := Lib.hid hbl
          clear hbd hbl
          go_wp2_with fail
          refine HG.out.mono ?_
          rintro e W5 ⟨rfl, hb⟩
          have hb5 : Below wr.heap.size wr W5 := HBL.out.trans (hb.mono HBL.out.size)
          have hb6 : Below wr.heap.size wr (W5.alloc (.cells #[.int .i64 (gradeOf l x)] 3)) := hb5.alloc hb5.size _
          have HO5 := Lib.hid (own5 HW.out hb6)
          have HB6 := Lib.hid (HB3.out.trans (hb6.mono HB3.out.size))
          have hsz := HB6.out.size
          have hk10 : k ≤ 10 := by omega
          clear hb hb5 hb6 l0 l1 l2 l3 HG HBL HW
          go_wp2_with (at_builtin; refine wpList_append_own _ rfl _ _ 27 rfl W3.heap.size 3 i0 _ 1 8 und_ints HI5.out.1 HI5.out.2.1 HI5.out.2.2.1 HI5.out.2.2.2 rfl (by decide) s0 k (intsV (gl.take k)) rfl HO5.out ⟨W5.heap.size, 0, none⟩ 1 1 (intsV [gradeOf l x]) rfl rfl (one_news ((Blk.new W5 3 #[.int .i64 (gradeOf l x)]).cell 0)) (intsV_one _) (by unfold maxLen; omega) (by omega) hsz ?_; intro v' w2 hown hgr hnn; clear hnn; have HO := Lib.hid hown; have HG := Lib.hid hgr; clear hown hgr)
          go_roundw
          case rel => exact ⟨k + 1, _, by omega, rfl, by go_num, Lib.hid (by rw [HSK.out]; have := HO.out; simpa [intsV] using this), Lib.hid (Below.grown HB6.out HG.out hsz fun j e => (HO5.out.lt j e).1)⟩
          case measure => simp [intOf]; omega
        · obtain rfl : N = k := by omega
          rw [List.take_of_length_le (by rw [HGL.out]; exact Nat.le_refl _)] at HW
          have HWB := Lib.hid (HB.out.trans (HB3.out.mono HB.out.size))
          obtain ⟨A2, c2, rfl⟩ := own_form HW.out
          clear HSN HBD HXX HI5 HR
          go_wp2_with fail
          refine bodyPost_ret (v := .tuple #[.slice A2 N c2, .int .i64 0]) (by simp [results, Try.results23, go_sem]) rfl ⟨A2, c2, by rw [HGL.out], ?_, HWB.out⟩
          have h9 := own_low HW.out HB.out.size
          rw [← HGL.out] at h9
          exact h9
    | false =>
      have HE3 : ge = 6 := HOE.out
      have HL3 : gl = [] := HOL.out
      subst HE3 HL3
      clear HOE HOL
      go_wp2_with fail
      exact bodyPost_ret (v := .tuple #[.slice none 0 0, .int .i64 6]) (by simp [results, Try.results23, go_sem]) rfl ⟨none, 0, rfl, World.ownsRow_nil _ _ _ _, HB.out⟩
  · have HE := Lib.hid (HOE.out.trans (if_neg h0))
    have HL3 : gl = [] := HOL.out.trans (if_neg (fun h => h0 h.1))
    have hne : (er == 0) = false := by rw [beq_eq_false_iff_ne]; exact h0
    obtain rfl := HE.out
    subst HL3
    clear HE HOE HOL HOK h0
    go_wp2_with fail
    exact bodyPost_ret (v := .tuple #[.slice none 0 0, .int .i64 ge]) (by simp [results, Try.results23, go_sem]) rfl ⟨none, 0, rfl, World.ownsRow_nil _ _ _ _, HS.out.hb⟩
end Go.Proofs.Ytfpfafijockfnaa
