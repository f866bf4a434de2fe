/- SackEnds returns true, whatever the input: both ends of each part, and of a share, are the rounding of what is reached at a corner of all sacks and takes, and none of the corners is beyond them. -/
import Derived.Test.YtoiggflhfbfiiaaRows
import Derived.Test.YtoiggflhfbfiiaaSo2
import Derived.Test.YtoiggflhfbfiiaaO1
import Derived.Test.YtoiggflhfbfiiaaE3
namespace Go.Proofs.Ytoiggflhfbfiiaa
section
open Go.ChangeShapes Go.WideShapes Go.ChangeAt Go.RowKit Go.Joins

theorem own : ownKnob Try.prog.godebug = none := by kernel_rfl
theorem und_bool : Try.prog.underlying 4 = some .bool := by kernel_rfl
theorem trodAll_stays {H : Type} {enc : TypeId × Value → H} {P : Program} (hl : laidOutB P = true) {W W' : World} {sp : Nat → Bool} : ∀ {ts : List TypeId} {vs : List Value} {ds : List (DataW H)} {ps : List MemPlace}, (∀ t ∈ ts, P.readableRec t = true ∧ t < P.types.size) →
    DataW.TrodAll enc P W 0 (fun _ => true) true ts vs ds ps → (∀ p ∈ ps, W.sameAt W' p) → (∀ p ∈ ps, sp p.block = true) → DataW.TrodAll enc P W' 0 sp true ts vs ds ps
  | [], [], [], _, _, h, _, _ => h
  | [], _ :: _, _, _, _, h, _, _ => h.elim
  | t :: ts, vs, ds, ps, ht, h, hs, hq => by
    obtain ⟨v, vs', d, ds', p1, p2, rfl, rfl, rfl, h0, r0⟩ := trodAll_cons h
    exact trodAll_cons_mk (WideElems.Trod_stays hl (ht t (by simp)).1 (ht t (by simp)).2 h0 (fun p hp => hs p (by simp [hp])) (fun p hp => hq p (by simp [hp])))
      (trodAll_stays hl (fun u hu => ht u (by simp [hu])) r0 (fun p hp => hs p (by simp [hp])) (fun p hp => hq p (by simp [hp])))
  | [], [], _ :: _, _, _, h, _, _ => h.elim

end
section
open Go.RowKit Go.Shelf


set_option maxRecDepth 100000 in
set_option maxHeartbeats 4000000 in
theorem ends_large (w : World) (A T : Option Addr) (c d : Nat) (l : List Sack) (b : List Take) (hl : l.length ≤ 9223372036854775807) (hA : SackSl w w.heap.size A l) (hT : TakeSl w w.heap.size T b) (h2 : 2 < l.length) :
    Calls Try.prog 6 #[.slice A l.length c, .slice T b.length d] w (Ret (.bool true) w) := by
  have HA := Lib.hid fun (W : World) (h : Below w.heap.size w W) => (hA.below h).more h.size; have HT := Lib.hid fun (W : World) (h : Below w.heap.size w W) => (hT.below h).more h.size; have HB := Lib.hid (Below.refl w.heap.size w); clear hA hT; go_enter Try.func6, Try.ntmps6; go_wp2_with fail
  refine (awake_any _).mono ?_; rintro e w9 ⟨rfl, hb'⟩; replace HB := Lib.hid (HB.out.trans (hb'.mono HB.out.size)); clear hb'; go_wp2_with fail; go_ret; exact ⟨rfl, HB.out⟩

set_option maxRecDepth 100000 in
set_option maxHeartbeats 4000000 in
theorem ends_many (w : World) (A T : Option Addr) (c d : Nat) (l : List Sack) (b : List Take) (hl : l.length ≤ 2) (hb : b.length ≤ 9223372036854775807) (hA : SackSl w w.heap.size A l) (hT : TakeSl w w.heap.size T b) (h2 : 2 < b.length) :
    Calls Try.prog 6 #[.slice A l.length c, .slice T b.length d] w (Ret (.bool true) w) := by
  have HA := Lib.hid fun (W : World) (h : Below w.heap.size w W) => (hA.below h).more h.size; have HT := Lib.hid fun (W : World) (h : Below w.heap.size w W) => (hT.below h).more h.size; have HB := Lib.hid (Below.refl w.heap.size w); clear hA hT; go_enter Try.func6, Try.ntmps6; go_wp2_with fail
  refine (awake_any _).mono ?_; rintro e w9 ⟨rfl, hb'⟩; replace HB := Lib.hid (HB.out.trans (hb'.mono HB.out.size)); clear hb'; go_wp2_with fail; go_ret; exact ⟨rfl, HB.out⟩

set_option maxRecDepth 100000 in
set_option maxHeartbeats 4000000 in
theorem ends_sacks (w : World) (A T : Option Addr) (c d : Nat) (l : List Sack) (b : List Take) (hl : l.length ≤ 2) (hb : b.length ≤ 2) (hA : SackSl w w.heap.size A l) (hT : TakeSl w w.heap.size T b) (hs : sacksOk l = false) :
    Calls Try.prog 6 #[.slice A l.length c, .slice T b.length d] w (Ret (.bool true) w) := by
  have HS := Lib.hid hs
  clear hs
  have HA := Lib.hid fun (W : World) (h : Below w.heap.size w W) => (hA.below h).more h.size; have HT := Lib.hid fun (W : World) (h : Below w.heap.size w W) => (hT.below h).more h.size; have HB := Lib.hid (Below.refl w.heap.size w); clear hA hT; go_enter Try.func6, Try.ntmps6; go_wp2_with fail
  refine (rsacks_any _ A c l (by omega) (HA.out _ HB.out)).mono ?_
  rw [HS.out]
  rintro e w1 ⟨rfl, hb'⟩
  replace HB := Lib.hid (HB.out.trans (hb'.mono HB.out.size))
  clear hb'
  go_wp2_with fail
  refine (awake_any _).mono ?_; rintro e w9 ⟨rfl, hb'⟩; replace HB := Lib.hid (HB.out.trans (hb'.mono HB.out.size)); clear hb'; go_wp2_with fail; go_ret; exact ⟨rfl, HB.out⟩

set_option maxRecDepth 100000 in
set_option maxHeartbeats 4000000 in
theorem ends_batch (w : World) (A T : Option Addr) (c d : Nat) (l : List Sack) (b : List Take) (hl : l.length ≤ 2) (hb : b.length ≤ 2) (hA : SackSl w w.heap.size A l) (hT : TakeSl w w.heap.size T b) (hs : sacksOk l = true) (hs2 : batchB l b = false) :
    Calls Try.prog 6 #[.slice A l.length c, .slice T b.length d] w (Ret (.bool true) w) := by
  have HS := Lib.hid hs
  have HS2 := Lib.hid hs2
  clear hs hs2
  have HA := Lib.hid fun (W : World) (h : Below w.heap.size w W) => (hA.below h).more h.size; have HT := Lib.hid fun (W : World) (h : Below w.heap.size w W) => (hT.below h).more h.size; have HB := Lib.hid (Below.refl w.heap.size w); clear hA hT; go_enter Try.func6, Try.ntmps6; go_wp2_with fail
  refine (rsacks_any _ A c l (by omega) (HA.out _ HB.out)).mono ?_
  rw [HS.out]
  rintro e w1 ⟨rfl, hb'⟩
  replace HB := Lib.hid (HB.out.trans (hb'.mono HB.out.size))
  clear hb'
  go_wp2_with fail
  refine (rbatch_any _ A T c d l b (by omega) (by omega) (HT.out _ HB.out)).mono ?_
  rw [HS2.out]
  rintro e w2 ⟨rfl, hb'⟩
  replace HB := Lib.hid (HB.out.trans (hb'.mono HB.out.size))
  clear hb'
  go_wp2_with fail
  refine (awake_any _).mono ?_; rintro e w9 ⟨rfl, hb'⟩; replace HB := Lib.hid (HB.out.trans (hb'.mono HB.out.size)); clear hb'; go_wp2_with fail; go_ret; exact ⟨rfl, HB.out⟩
end
open Go.ChangeShapes Go.WideShapes Go.ChangeAt Go.RowKit Go.Joins Go.Deep

theorem params_ends : Try.f6.params = #[22, 23] := by kernel_rfl

theorem sackEnds_any (w : World) (A T : Option Addr) (c d : Nat) (l : List Sack) (b : List Take) (hl : l.length ≤ 9223372036854775807) (hb : b.length ≤ 9223372036854775807) (hA : SackSl w w.heap.size A l) (hT : TakeSl w w.heap.size T b) :
    Calls Try.prog 6 #[.slice A l.length c, .slice T b.length d] w (Ret (.bool true) w) := by
  by_cases h12 : 2 < l.length
  · exact ends_large w A T c d l b hl hA hT h12
  · by_cases h8 : 2 < b.length
    · exact ends_many w A T c d l b (by omega) hb hA hT h8
    · cases hs : sacksOk l with
      | false => exact ends_sacks w A T c d l b (by omega) (by omega) hA hT hs
      | true =>
        cases hs2 : batchB l b with
        | false => exact ends_batch w A T c d l b (by omega) (by omega) hA hT hs hs2
        | true => exact ends_main w A T c d l b (by omega) (by omega) hA hT (by rw [validB_split, hs, hs2]; rfl)

set_option maxRecDepth 100000 in
theorem ends_lifted (os : Os) (started : os.Started) (H : Type) (enc : TypeId × Value → H) :
    ReturnsInHanded {} Try.checked os 6 .any (Rows.sackEndsSpec.pre6 enc Try.prog Try.f6 Rows.sackEndsRow.domain false) (Rows.sackEndsSpec.post enc Try.prog Try.f6 false true false false) := by
  refine returnsInHanded_of_change (C := Try.checked) own started (by kernel_rfl) Try.func6
    (ChangeSpec.witness6 (enc := enc) (C := Try.checked) false ⟨#[], #[.slice none 0 0, .slice none 0 0], []⟩ 8 (by kernel_rfl) (by kernel_rfl) (by kernel_rfl) (by kernel_rfl)) ?_
  intro W base args ds gs before hval0 hW hcnd _
  have hval : ∀ (j : Nat) t v, Try.f6.params[j]? = some t → args[j]? = some v → Value.okWide Try.prog W .any base t v := hval0
  have hW' := hW
  obtain ⟨p, q, hA0, hV, rfl, hfz, hnd⟩ := hW
  have hA : DataW.TrodAll enc Try.prog W 0 (fun _ => true) true Try.f6.params.toList args.toList ds p := hA0
  rw [params_ends] at hA hval
  obtain ⟨v0, vs0, d0, ds0, p0, q0, hargs, rfl, rfl, h0, r0⟩ := trodAll_cons hA
  obtain ⟨v1, vs1, d1, ds1, p1, q1, rfl, rfl, rfl, h1, r1⟩ := trodAll_cons r0
  obtain ⟨rfl, rfl, rfl⟩ := trodAll_nil r1
  obtain rfl : args = #[v0, v1] := by cases args; simp_all
  obtain ⟨rfl, rfl⟩ := trodVars_none hV
  obtain ⟨A, c, l, rfl, hlen, hS⟩ := open_sacks (hval 0 22 v0 rfl rfl) h0
  obtain ⟨T, d, b, rfl, hlenb, hT⟩ := open_takes (hval 1 23 v1 rfl rfl) h1
  clear hA0 hval0
  refine (sackEnds_any W A T c d l b hlen hlenb hS hT).mono fun e W' ⟨he, hb⟩ => ?_
  subst he
  refine ⟨_, rfl, ?_⟩
  have hlt : ∀ x ∈ p0 ++ (p1 ++ []), x.block < W.heap.size := fun x hx => hW'.lt x (by simpa using hx)
  have hR : ∀ sp : Nat → Bool, (∀ x ∈ p0 ++ p1, sp x.block = true) → DataW.TrodAll enc Try.prog W' 0 sp true Try.f6.params.toList _ _ _ := fun sp hsp => by
    rw [params_ends]
    exact trodAll_stays (by kernel_rfl) (by decide +kernel) hA (fun x hx => hb.same (hlt x hx)) (fun x hx => hsp x (by simpa using hx))
  have hold : ∀ x ∈ p0 ++ p1, (fun b => decide (b < W.heap.size)) x.block = true := fun x hx => by simpa using hlt x (by simpa using hx)
  refine ⟨_, _, _, [], _, [], hW', trodAll_cons_mk (shut_bool und_bool _) trodAll_mk0, hR _ hold, rfl, World.keptBut_mono (fun x hx => ⟨hx, ?_⟩) (hb.frame (· ∈ _)), fun _ => ?_⟩
  · simpa using hx
  · obtain ⟨_, _, _, _, _, hz, hn⟩ := hW'
    refine ⟨ok_one (by kernel_rfl) rfl (okWide_bool_mk und_bool _), _, [], _, ⟨_, [], trodAll_append (hR _ (fun _ _ => rfl)) (trodAll_cons_mk (shut_bool und_bool _) trodAll_mk0), rfl, rfl, ?_, ?_⟩, ?_⟩
    · intro b off hx
      rw [hb.frozen (hlt _ (by simpa using hx))]
      exact hz b off (by simpa using hx)
    · intro h; cases h
    · intro x hx _
      simpa using hx

theorem ends_over : Rows.sackEndsRow.holds Try.pinned (OpenSpec.ofChange Rows.sackEndsSpec) :=
  OpenClaim.holds_of_wide 6 Try.f6 rfl rfl rfl rfl rfl rfl rfl ⟨rfl, rfl, rfl, rfl, rfl⟩ rfl rfl rfl rfl rfl (by kernel_rfl) Try.func6 (by kernel_rfl)
    (of_decide_eq_true (by kernel_rfl)) (by unfold Func.isWrapper; first | (rw [if_pos (by decide +kernel)]; kernel_rfl) | (rw [if_neg (by decide +kernel)]; exact ⟨rfl, rfl⟩))
    (fun os started H enc _ => ends_lifted os started H enc)

theorem sackEnds_proved : Rows.SackEndsSaid := ends_over
end Go.Proofs.Ytoiggflhfbfiiaa
