/- Share: the walk. -/
import Derived.Test.YtoiggflhfbfiiaaL
import Derived.Test.YtoiggflhfbfiiaaS
import Derived.Test.YtoiggflhfbfiiaaSpec2
namespace Go.Proofs.Ytoiggflhfbfiiaa
open Go.RowKit Go.Shelf

theorem together_perm_fun {l l' : List Held} (h : List.Perm l l') : loP l = loP l' ∧ hiP l = hiP l' :=
  ⟨funext fun x => by unfold loP; rw [together_perm h], funext fun x => by unfold hiP; rw [together_perm h]⟩

theorem lo_pred (w : World) (q : Nat) (hs : List Held) (hq : AdBox w q hs) (hok : ∀ h ∈ hs, h.ok) (hl : hs.length ≤ 8) : IsPred w w.heap.size (.func (.func 38) #[] #[.pointer (some ⟨q, 0, none⟩)]) 1000 (loP hs) :=
  ⟨_, _, rfl, enters_of Try.func38 (by kernel_rfl) rfl, fun W i hW h0 h1 => lo_any W q hs i (hq.below hW) hok hl h0 h1⟩
theorem hi_pred (w : World) (q : Nat) (hs : List Held) (hq : AdBox w q hs) (hok : ∀ h ∈ hs, h.ok) (hl : hs.length ≤ 8) : IsPred w w.heap.size (.func (.func 40) #[] #[.pointer (some ⟨q, 0, none⟩)]) 1000 (hiP hs) :=
  ⟨_, _, rfl, enters_of Try.func40 (by kernel_rfl) rfl, fun W i hW h0 h1 => hi_any W q hs i (hq.below hW) hok hl h0 h1⟩

theorem search_first (w : World) (v : Value) (p : Int → Bool) (hp : IsPred w w.heap.size v 1000 p) (hm : ∀ i j, i ≤ j → p i = true → p j = true) :
    Calls Try.prog 37 #[.int .i64 1000, v] w (Ret (.int .i64 (firstOf 1000 p)) w) := by
  refine (search_any w v 1000 p (by omega) (by omega) hp (fun i j _ h _ => hm i j h)).mono ?_
  rintro e w' ⟨r, rfl, h1, h2, h3, h4, hb⟩
  rw [firstOf_is p 1000 r h1 h2 h3 (fun h => h4 r (by omega) (by omega))]
  exact ⟨rfl, hb⟩


set_option maxRecDepth 100000 in
set_option maxHeartbeats 2000000 in
theorem share_no (w : World) (A T : Option Addr) (c d : Nat) (l : List Sack) (b : List Take) (hl : l.length ≤ 100) (hb : b.length ≤ 100) (hA : SackSl w w.heap.size A l) (hT : TakeSl w w.heap.size T b) (hv : validB l b = false) :
    Calls Try.prog 13 #[.slice A l.length c, .slice T b.length d] w (Ret (.tuple #[.agg #[.int .i64 0, .int .i64 0], .int .i64 1]) w) := by
  have h0 := (Below.refl w.heap.size w).alloc (Nat.le_refl _) (.cells #[.int .i64 0, .int .i64 0] 25)
  have HB0 := Lib.hid (Blk.new w 25 #[.int .i64 0, .int .i64 0])
  have HA := Lib.hid ((hA.below h0).more h0.size)
  have HT := Lib.hid ((hT.below h0).more h0.size)
  have H0 := Lib.hid h0
  clear hA hT h0
  go_enter Try.func13, Try.ntmps13
  go_wp2_with (first | (go_at_call 30; refine (valid_any _ _ _ _ _ _ _ hl hb HA.out HT.out).mono ?_; rintro e w1 ⟨rfl, hb1⟩; have hB1 := H0.out.trans (hb1.mono H0.out.size); have B0 := Lib.hid (HB0.out.below hb1 HB0.out.lt); clear hb1) | (refine wpList_store_row rfl 25 (.tmp 4) (.tmp 13) rfl w.heap.size #[.int .i64 0, .int .i64 0] rfl rfl 25 _ B0.out (by kernel_rfl) rfl (by kernel_rfl) ?_; have B1 := Lib.hid (B0.out.row #[.int .i64 0, .int .i64 0]); have hB2 := below_setRow hB1 (Nat.le_refl _) #[.int .i64 0, .int .i64 0]; clear hB1))
  exact bodyPost_ret (results_blk_tmp rfl _ rfl B1.out (by kernel_rfl) (by kernel_rfl)) rfl ⟨rfl, hB2⟩

set_option maxRecDepth 100000 in
set_option maxHeartbeats 4000000 in
theorem share_yes (w : World) (A T : Option Addr) (c d : Nat) (l : List Sack) (b : List Take) (hl : l.length ≤ 100) (hb : b.length ≤ 100) (hA : SackSl w w.heap.size A l) (hT : TakeSl w w.heap.size T b) (hv : validB l b = true) :
    Calls Try.prog 13 #[.slice A l.length c, .slice T b.length d] w (Ret (.tuple #[.agg #[.int .i64 (shareOf (heldsOf l b)).lo, .int .i64 (shareOf (heldsOf l b)).hi], .int .i64 0]) w) := by
  have h0 := (Below.refl w.heap.size w).alloc (Nat.le_refl _) (.cells #[.int .i64 0, .int .i64 0] 25)
  have HB0 := Lib.hid (Blk.new w 25 #[.int .i64 0, .int .i64 0])
  have HA := Lib.hid ((hA.below h0).more h0.size)
  have HT := Lib.hid ((hT.below h0).more h0.size)
  have H0 := Lib.hid h0
  have hbl := (validB_len hv).1
  have HV := Lib.hid (validB_take hv)
  have HO := Lib.hid (helds_ok hv)
  have HL := Lib.hid (helds_len hv)
  have HGL := Lib.hid (gather_len l b).1
  clear hA hT h0
  go_enter Try.func13, Try.ntmps13
  go_wp2_with fail
  refine (valid_any _ _ _ _ _ _ _ hl hb HA.out HT.out).mono ?_
  rintro e w1 ⟨rfl, hb1⟩
  rw [hv]
  replace HA := Lib.hid ((HA.out.below hb1).more hb1.size)
  replace HT := Lib.hid ((HT.out.below hb1).more hb1.size)
  have B0 := Lib.hid (HB0.out.below hb1 HB0.out.lt)
  have hB1 := H0.out.trans (hb1.mono H0.out.size)
  clear hb1 HB0 H0
  go_wp2_with fail
  refine (gather_any _ _ _ _ _ _ _ hl hb (by omega) HA.out HT.out HV.out).mono ?_
  rintro e w2 ⟨r, rfl, hm, hr, hb2⟩
  replace B0 := Lib.hid (B0.out.below hb2 B0.out.lt)
  have hB2 := hB1.trans (hb2.mono hB1.size)
  clear hb2 hB1 HA HT
  go_wp2_with fail
  refine (whatAdds_any _ r _ hm (by have := HGL.out; omega)).mono ?_
  rintro e w3 ⟨v, hs, rfl, had, hp, hb3⟩
  replace B0 := Lib.hid (B0.out.below hb3 B0.out.lt)
  have hB3 := hB2.trans (hb3.mono hB2.size)
  have HLEN : Hid (hs.length = (heldsOf l b).length) := by show _ = _; rw [hp.length_eq]; rfl
  obtain ⟨A3, c3, rfl, had3⟩ := AdSl.of_own had (by have := HL.out; have := HLEN.out; omega)
  have HF : Hid (shareOf (heldsOf l b) = shareOf hs) := by
    show _ = _
    have := together_perm_fun (l := hs) (l' := heldsOf l b) hp
    simp only [shareOf, this.1, this.2]
  have HOK : Hid (∀ h ∈ hs, h.ok) := fun h hh => HO.out h (hp.mem_iff.1 hh)
  have h8 : hs.length ≤ 8 := by have := HL.out; have := HLEN.out; omega
  clear hb3 hB2 hm hr hp had HO HL HGL HV HLEN
  go_wp2_with fail
  have hx : Below w3.heap.size w3 (w3.alloc (.cells #[.slice A3 hs.length c3] 64)) := (Below.refl _ _).alloc (Nat.le_refl _) _
  have hq : AdBox (w3.alloc (.cells #[.slice A3 hs.length c3] 64)) w3.heap.size hs := ⟨by simp, A3, c3, (Blk.new w3 64 #[.slice A3 hs.length c3]).cell 0, (had3.below hx).more (by simp)⟩
  have B4 := Lib.hid (B0.out.alloc (.cells #[.slice A3 hs.length c3] 64))
  have hB4 := hB3.alloc hB3.size (.cells #[.slice A3 hs.length c3] 64)
  clear hx B0 hB3 had3
  refine (search_first _ _ _ (lo_pred _ _ hs hq HOK.out h8) (fun i j h => loP_mono HOK.out h)).mono ?_
  rintro e w4 ⟨rfl, hb4⟩
  replace hq := hq.below hb4
  have B5 := Lib.hid (B4.out.below hb4 B4.out.lt)
  have hB5 := hB4.trans (hb4.mono hB4.size)
  clear hb4 B4 hB4
  go_wp2_with fail
  refine (search_first _ _ _ (hi_pred _ _ hs hq HOK.out h8) (fun i j h => hiP_mono HOK.out h)).mono ?_
  rintro e w5 ⟨rfl, hb5⟩
  have B6 := Lib.hid (B5.out.below hb5 B5.out.lt)
  have hB6 := hB5.trans (hb5.mono hB5.size)
  clear hb5 B5 hB5 hq
  go_wp2_with (refine wpList_store_row rfl 25 (.tmp 4) (.tmp 24) rfl w.heap.size #[.int .i64 (firstOf 1000 (loP hs)), .int .i64 (firstOf 1000 (hiP hs))] rfl rfl 25 _ B6.out (by kernel_rfl) rfl (by kernel_rfl) ?_; have B7 := Lib.hid (B6.out.row #[.int .i64 (firstOf 1000 (loP hs)), .int .i64 (firstOf 1000 (hiP hs))]); have hB7 := below_setRow hB6 (Nat.le_refl _) #[.int .i64 (firstOf 1000 (loP hs)), .int .i64 (firstOf 1000 (hiP hs))]; clear hB6 B6)
  exact bodyPost_ret (results_blk_tmp rfl _ rfl B7.out (by kernel_rfl) (by kernel_rfl)) rfl ⟨by rw [HF.out]; rfl, hB7⟩
end Go.Proofs.Ytoiggflhfbfiiaa
