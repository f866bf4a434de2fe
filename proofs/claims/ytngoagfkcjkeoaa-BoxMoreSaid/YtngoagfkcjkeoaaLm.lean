/- tally.canFill, tallyOf. -/
import Derived.Test.YtngoagfkcjkeoaaLl
import Derived.Test.YtngoagfkcjkeoaaRd
namespace Go.Proofs.Ytngoagfkcjkeoaa
open Go.RowKit Go.Shelf
attribute [local go_sem] Oper.semAt_some

set_option maxRecDepth 100000 in
set_option maxHeartbeats 2000000 in
theorem canFill_any (w : World) (r m : Nat) (cf : Nat → Int × Int) (b : Int) (hm : m ≤ 8) (hT : TabAt w r m cf) (hc : CountIn cf) (hb : -1000000000 ≤ b ∧ b ≤ 1000000000) :
    Calls Try.prog 39 #[.agg #[.int .i64 (m : Int), .map (some r)], .int .i64 b] w (Ret (.bool (lackingC cf m b == 0)) w) := by
  have HB := Lib.hid (Below.refl w.heap.size w)
  have h0 := lacking_any (w.alloc (.cells #[.int .i64 (m : Int), .map (some r)] 73)) r m cf b hm (hT.below ((Below.refl _ _).alloc (Nat.le_refl _) _) hT.lt) hc hb
  have H0 := Lib.hid h0
  clear h0 hT hc hb HB
  generalize lackingC cf m b = z at *
  go_enter Try.func39, Try.ntmps39
  go_wp2_with fail
  refine H0.out.mono ?_
  rintro e w1 ⟨rfl, hb1⟩
  have HB := Lib.hid (((Below.refl _ _).alloc (Nat.le_refl _) _ : Below w.heap.size w _).trans (hb1.mono (by simp)))
  clear hb1 H0
  go_wp2_with fail
  go_ret
  refine ⟨ret_bool ?_, HB.out⟩
  rw [Bool.eq_iff_iff]
  simp
def cfOf (need : List Int) (l : List Pile) (s : Nat) : Int × Int := (hasS l s, needS need s)
def accT (cf : Nat → Int × Int) (pre : List Nat) : List (Int × (Int × Int)) := pre.foldl (fun mm (s : Nat) => upd mm (s : Int) (cf s)) []
theorem accT_snoc (cf : Nat → Int × Int) (pre : List Nat) (x : Nat) : accT cf (pre ++ [x]) = upd (accT cf pre) (x : Int) (cf x) := by unfold accT; rw [List.foldl_append]; rfl
theorem accT_range (cf : Nat → Int × Int) : ∀ k, accT cf (List.range' 1 k) = tabF cf (List.range' 1 k)
  | 0 => rfl
  | k + 1 => by rw [← upd_next, ← accT_range cf k, List.range'_concat, accT_snoc, Nat.one_mul, Nat.add_comm 1 k]
theorem accT_sets (cf : Nat → Int × Int) (m : Nat) : accT cf (setsS m) = tabF cf (setsS m) := accT_range cf (2 ^ m - 1)
/-- What lies in the boxes. -/
structure TyS (w : World) (need : List Int) (l : List Pile) (A B : Option Addr) (c d : Nat) (pre : List Nat) (W : World) : Prop where
  hb : Below w.heap.size w W
  k2 : Blk W w.heap.size 22 #[.slice A need.length c]
  k3 : Blk W (w.heap.size + 1) 23 #[.slice B l.length d]
  k4 : Blk W (w.heap.size + 1 + 1) 73 #[.int .i64 0, .map none]
  k5 : Blk W (w.heap.size + 1 + 1 + 1 + 1) 73 #[.int .i64 (need.length : Int), .map (some (w.heap.size + 1 + 1 + 1))]
  mp : MapI encC W (w.heap.size + 1 + 1 + 1) (accT (cfOf need l) pre)
section
variable {w : World} {need : List Int} {l : List Pile} {A B : Option Addr} {c d : Nat} {pre : List Nat} {W W' : World}
theorem keeps_of_below' {B : Nat} {W W' : World} (h : Below W.heap.size W W') : KeepsFrom B W W' := (keeps_of_below h).from _
theorem same_grown {q r : Nat} {W W' : World} (hg : W.grownBy W' (some r)) (hq : q < W.heap.size) (hne : q ≠ r) : SameAt q W W' := hg.block q hq (fun e => hne (Option.some.inj e))
theorem TyS.low (h : TyS w need l A B c d pre W) {b : Nat} (hb : Below b W W') (hB : w.heap.size + 1 + 1 + 1 + 1 < b) : TyS w need l A B c d pre W' := ⟨h.hb.trans (hb.mono (by omega)), h.k2.below hb (by omega), h.k3.below hb (by omega), h.k4.below hb (by omega), h.k5.below hb (by omega), h.mp.below hb (by omega)⟩
theorem TyS.call (h : TyS w need l A B c d pre W) (hb : Below W.heap.size W W') : TyS w need l A B c d pre W' := h.low hb h.k5.lt
theorem TyS.start (w : World) (need : List Int) (l : List Pile) (A B : Option Addr) (c d : Nat) : TyS w need l A B c d [] (((((w.alloc (.cells #[.slice A need.length c] 22)).alloc (.cells #[.slice B l.length d] 23)).alloc (.cells #[.int .i64 0, .map none] 73)).alloc (.map #[] 0)).alloc (.cells #[.int .i64 (need.length : Int), .map (some (w.heap.size + 1 + 1 + 1))] 73)) := by
  refine ⟨by repeat (first | exact Below.refl _ _ | assumption | refine Below.drew ?_ | refine Below.alloc ?_ (by first | omega | (simp only [World.size_alloc]; omega) | simp) _ | refine Below.setCell ?_ (by first | omega | (simp only [World.size_alloc]; omega) | simp) _), ((((Blk.new _ _ _).alloc _).alloc _).alloc _).alloc _, (((blk9 _ _ (by simp)).alloc _).alloc _).alloc _, ((blk9 _ _ (by simp)).alloc _).alloc _, blk9 _ _ (by simp), ?_⟩
  have h := MapI.made (enc := encC) (((w.alloc (.cells #[.slice A need.length c] 22)).alloc (.cells #[.slice B l.length d] 23)).alloc (.cells #[.int .i64 0, .map none] 73))
  have e : (((w.alloc (.cells #[.slice A need.length c] 22)).alloc (.cells #[.slice B l.length d] 23)).alloc (.cells #[.int .i64 0, .map none] 73)).heap.size = w.heap.size + 1 + 1 + 1 := by simp
  rw [e] at h
  exact MapI.alloc h _
theorem TyS.step (h : TyS w need l A B c d pre W) {x : Nat} (hm : MapI encC W' (w.heap.size + 1 + 1 + 1) (upd (accT (cfOf need l) pre) (x : Int) (cfOf need l x))) (hg : W.grownBy W' (some (w.heap.size + 1 + 1 + 1))) : TyS w need l A B c d (pre ++ [x]) W' :=
  ⟨⟨hg.os.trans h.hb.os, hg.tape.trans h.hb.tape, hg.output.trans h.hb.output, Nat.le_trans h.hb.size hg.size, fun i hi => (hg.block i (Nat.lt_of_lt_of_le hi h.hb.size) (fun e => by have := Option.some.inj e; omega)).trans (h.hb.block i hi)⟩,
    h.k2.kept hg (fun e => by have := Option.some.inj e; omega), h.k3.kept hg (fun e => by have := Option.some.inj e; omega), h.k4.kept hg (fun e => by have := Option.some.inj e; omega), h.k5.kept hg (fun e => by have := Option.some.inj e; omega), by rw [accT_snoc]; exact hm⟩
theorem TyS.tab (h : TyS w need l A B c d (setsS need.length) W) : TabAt W (w.heap.size + 1 + 1 + 1) need.length (cfOf need l) := by
  have := h.mp
  rwa [accT_sets] at this
end
def RetTy (need : List Int) (l : List Pile) (w : World) (e : Ending) (w' : World) : Prop := ∃ r, e = .returned (.agg #[.int .i64 (need.length : Int), .map (some r)]) ∧ TabAt w' r need.length (cfOf need l) ∧ Below w.heap.size w w'
def RetTyR (need : List Int) (l : List Pile) (w : World) (e : Ending) (w' : World) : Prop := ∃ r, e = .returned (.agg #[.int .i64 (need.length : Int), .map (some r)]) ∧ TabAt w' r need.length (cfOf need l) ∧ Below w.heap.size w w' ∧ w.heap.size ≤ r
set_option maxRecDepth 100000 in
set_option maxHeartbeats 8000000 in
theorem tallyOfR_any (w : World) (A B : Option Addr) (c d : Nat) (need : List Int) (l : List Pile) (hn : NeedIn need) (hl : PilesIn l) (hA : IntSl w w.heap.size A need) (hB : PileSl w w.heap.size B l) :
    Calls Try.prog 37 #[.slice A need.length c, .slice B l.length d] w (RetTyR need l w) := by
  have hmm := @run_makeMap Try.prog
  have HS := Lib.hid (TyS.start w need l A B c d)
  have HA := Lib.hid hA
  have HBB := Lib.hid hB
  have HNI := Lib.hid hn
  have HPI := Lib.hid hl
  have h8 := hn.1
  have hm0 : (0 : Int) ≤ need.length := by omega
  have hm1 : (need.length : Int) ≤ 8 := by omega
  have hP2 : 2 ^ need.length ≤ 2 ^ 8 := Nat.pow_le_pow_right (by omega) h8
  clear hA hB hn hl
  refine (callsIn_wide (n := 10)).1 ?_
  refine callsIn_of_wp_marks Try.func37 rfl trivial ?_ rfl
  simp only [Try.ntmps37, List.size_toArray, List.length_cons, List.length_nil, Nat.reduceAdd, Nat.reduceSub, Array.replicate_succ, Array.replicate_zero, List.push_toArray, List.append_toArray, List.nil_append, List.cons_append]
  gi_wp2_with (refine ⟨trivial, ?_⟩; gi_at_call 62; refine (callsIn_wide.2 (sets_any _ need.length)).mono ?_; rintro e w' ⟨rfl, rfl⟩)
  clear hmm
  have HS0 := Lib.hid (HS.out.call ((Below.refl _ _).alloc (Nat.le_refl _) (.cells #[.int .i64 (need.length : Int)] 3)))
  have hq := blk9 (((((w.alloc (.cells #[.slice A need.length c] 22)).alloc (.cells #[.slice B l.length d] 23)).alloc (.cells #[.int .i64 0, .map none] 73)).alloc (.map #[] 0)).alloc (.cells #[.int .i64 (need.length : Int), .map (some (w.heap.size + 1 + 1 + 1))] 73)) (g := w.heap.size + 1 + 1 + 1 + 1 + 1) 3 (cs := #[.int .i64 (need.length : Int)]) (by simp)
  have hz : ((((((w.alloc (.cells #[.slice A need.length c] 22)).alloc (.cells #[.slice B l.length d] 23)).alloc (.cells #[.int .i64 0, .map none] 73)).alloc (.map #[] 0)).alloc (.cells #[.int .i64 (need.length : Int), .map (some (w.heap.size + 1 + 1 + 1))] 73)).alloc (.cells #[.int .i64 (need.length : Int)] 3)).heap.size = w.heap.size + 1 + 1 + 1 + 1 + 1 + 1 := by simp
  clear HS
  generalize World.alloc (World.alloc (World.alloc (World.alloc (World.alloc (World.alloc w _) _) _) _) _) _ = W0 at hq HS0 hz ⊢
  have HZ := Lib.hid hz
  refine wpIn_rangeFunc_facts (n := 10) (by omega) (gf := 77) (lb := #[.pointer (some ⟨w.heap.size + 1 + 1 + 1 + 1 + 1, 0, none⟩)]) rfl (enters_of Try.func77 (by kernel_rfl) rfl)
    (sets_facts 9 (by omega) (w.heap.size + 1 + 1 + 1 + 1 + 1) need.length W0 h8 hq) (fun a b => a.trans b) ?hKb (fun _ => rfl)
    (fun pre U => TyS w need l A B c d pre U ∧ w.heap.size + 1 + 1 + 1 + 1 + 1 + 1 ≤ U.heap.size) (fun _ _ _ => False)
    ?hI (fun _ _ _ _ _ hs _ _ => hs) ?h0 (fun x a' U => SetFact need.length x U ∧ a' = { tmps := #[.slice A need.length c, .slice B l.length d, .pointer (some ⟨w.heap.size, 0, none⟩), .pointer (some ⟨w.heap.size + 1, 0, none⟩), .pointer (some ⟨w.heap.size + 1 + 1, 0, none⟩), .pointer (some ⟨w.heap.size + 1 + 1 + 1 + 1, 0, none⟩), .int .i64 (x : Int), .slice A need.length c, .int .i64 (need.length : Int), .map (some (w.heap.size + 1 + 1 + 1)), .agg #[.int .i64 (need.length : Int), .map (some (w.heap.size + 1 + 1 + 1))], .slice A need.length c, .int .i64 (need.length : Int), .func (.func 77) #[] #[.pointer (some ⟨w.heap.size + 1 + 1 + 1 + 1 + 1, 0, none⟩)], .int .i64 (x : Int), undef, undef, undef, undef, undef, undef, undef, undef, undef, undef, undef, undef, undef], defers := [] }) ?hAx ?assign ?body ?done ?stop
  case hKb =>
    intro U o'
    unfold SameAt World.putObj
    exact Array.getElem?_setIfInBounds_ne (by omega)
  case hI => exact own_of_low (fun _ _ h => by rw [HZ.out]; exact h.2) (fun _ _ _ h hb => ⟨h.1.low hb (by omega), Nat.le_trans h.2 hb.size⟩)
  case h0 => exact ⟨HS0.out, by omega⟩
  case hAx =>
    rintro x a' _ X Y row h1 hg2 hr
    exact h1
  case assign =>
    rintro l9 pre x U K hI hF hK
    unfold setV
    gi_wp2
    exact hK _ _ (KeepsFrom.refl _ _) rfl hI ⟨hF, rfl⟩
  case body =>
    rintro l9 pre x a' U ⟨hL, hsz⟩ ⟨⟨hx1, hx2⟩, rfl⟩ hlen
    have hx8 : x < 256 := by omega
    have HS := Lib.hid (hL.call (Below.refl _ _).drew)
    have HKP : Hid (KeepsFrom W0.heap.size U U.drew ∧ SameAt (w.heap.size + 1 + 1 + 1 + 1 + 1) U U.drew) := Lib.hid ⟨keeps_of_below' (Below.refl U.heap.size U).drew, SameAt.of_below (Below.refl U.heap.size U).drew (by omega)⟩
    have HSZ : Hid (w.heap.size + 1 + 1 + 1 + 1 + 1 + 1 ≤ U.drew.heap.size) := Lib.hid hsz
    clear hL hsz hx1 hx2 hlen
    gi_wp2_with fail
    refine wpIn_region_round (S := fun W9 => Blk W9 w.heap.size 22 #[.slice A need.length c] ∧ Blk W9 (w.heap.size + 1) 23 #[.slice B l.length d] ∧ Blk W9 (w.heap.size + 1 + 1 + 1 + 1) 73 #[.int .i64 (need.length : Int), .map (some (w.heap.size + 1 + 1 + 1))]) (by kernel_rfl) (by kernel_rfl) (fun ⟨_, _, h⟩ => h) ⟨HS.out.k2, HS.out.k3, HS.out.k5⟩ (fun hH0 => ?_)
    generalize World.drew _ = V0 at *
    simp only [List.size_toArray, List.length_cons, List.length_nil, Nat.reduceAdd, Array.replicate_succ, Array.replicate_zero, List.push_toArray, List.nil_append, List.cons_append]
    refine wpAnyH_take (i := 0 ) (v := ?_) rfl (by kernel_rfl) (by kernel_rfl) (by kernel_rfl) (fun _ _ _ h => h) (Or.inl ⟨by rfl, ?_⟩) (by assumption) ?_; rotate_left; (· (intro w0 hSw; obtain ⟨h2, h3, h5⟩ := hSw; have y2 := h2.cell 0; have y3 := h3.cell 0; have y5 := h5.cell 1; clear h2 h3 h5; go_simp); first | done | with_reducible rfl); (try simp only [Act.put, List.getElem_toArray, List.getElem_cons_zero, List.setIfInBounds_toArray, List.set_cons_zero, List.set_cons_succ])
    refine wpAnyH_take (i := 1 ) (v := ?_) rfl (by kernel_rfl) (by kernel_rfl) (by kernel_rfl) (fun _ _ _ h => h) (Or.inl ⟨by rfl, ?_⟩) (by assumption) ?_; rotate_left; (· (intro w0 hSw; obtain ⟨h2, h3, h5⟩ := hSw; have y2 := h2.cell 0; have y3 := h3.cell 0; have y5 := h5.cell 1; clear h2 h3 h5; go_simp); first | done | with_reducible rfl); (try simp only [Act.put, List.getElem_toArray, List.getElem_cons_succ, List.getElem_cons_zero, List.setIfInBounds_toArray, List.set_cons_zero, List.set_cons_succ])
    refine wpAnyH_take (i := 2 ) (v := ?_) rfl (by kernel_rfl) (by kernel_rfl) (by kernel_rfl) (fun _ _ _ h => h) (Or.inl ⟨by rfl, ?_⟩) (by assumption) ?_; rotate_left; (· (intro w0 hSw; obtain ⟨h2, h3, h5⟩ := hSw; have y2 := h2.cell 0; have y3 := h3.cell 0; have y5 := h5.cell 1; clear h2 h3 h5; go_simp); first | done | with_reducible rfl); (try simp only [Act.put, List.getElem_toArray, List.getElem_cons_succ, List.getElem_cons_zero, List.setIfInBounds_toArray, List.set_cons_zero, List.set_cons_succ])
    refine wpAnyH_take (i := 3 ) (v := ?_) rfl (by kernel_rfl) (by kernel_rfl) (by kernel_rfl) (fun _ _ _ h => h) (Or.inl ⟨by rfl, ?_⟩) (by assumption) ?_; rotate_left; (· (intro w0 hSw; obtain ⟨h2, h3, h5⟩ := hSw; have y2 := h2.cell 0; have y3 := h3.cell 0; have y5 := h5.cell 1; clear h2 h3 h5; go_simp); first | done | with_reducible rfl); (try simp only [Act.put, List.getElem_toArray, List.getElem_cons_succ, List.getElem_cons_zero, List.setIfInBounds_toArray, List.set_cons_zero, List.set_cons_succ])
    refine wpAnyH_take (i := 4 ) (v := ?_) rfl (by kernel_rfl) (by kernel_rfl) (by kernel_rfl) (fun _ _ _ h => h) (Or.inl ⟨by rfl, ?_⟩) (by assumption) ?_; rotate_left; (· (intro w0 hSw; obtain ⟨h2, h3, h5⟩ := hSw; have y2 := h2.cell 0; have y3 := h3.cell 0; have y5 := h5.cell 1; clear h2 h3 h5; go_simp); first | done | with_reducible rfl); (try simp only [Act.put, List.getElem_toArray, List.getElem_cons_succ, List.getElem_cons_zero, List.setIfInBounds_toArray, List.set_cons_zero, List.set_cons_succ])
    refine wpAnyH_take (i := 5 ) (v := ?_) rfl (by kernel_rfl) (by kernel_rfl) (by kernel_rfl) (fun _ _ _ h => h) (Or.inl ⟨by rfl, ?_⟩) (by assumption) ?_; rotate_left; (· (intro w0 hSw; obtain ⟨h2, h3, h5⟩ := hSw; have y2 := h2.cell 0; have y3 := h3.cell 0; have y5 := h5.cell 1; clear h2 h3 h5; go_simp); first | done | with_reducible rfl); (try simp only [Act.put, List.getElem_toArray, List.getElem_cons_succ, List.getElem_cons_zero, List.setIfInBounds_toArray, List.set_cons_zero, List.set_cons_succ])
    refine wpAnyH_take (i := 7 ) (v := ?_) rfl (by kernel_rfl) (by kernel_rfl) (by kernel_rfl) (fun _ _ _ h => h) (Or.inl ⟨by rfl, ?_⟩) (by assumption) ?_; rotate_left; (· (intro w0 hSw; obtain ⟨h2, h3, h5⟩ := hSw; have y2 := h2.cell 0; have y3 := h3.cell 0; have y5 := h5.cell 1; clear h2 h3 h5; go_simp); first | done | with_reducible rfl); (try simp only [Act.put, List.getElem_toArray, List.getElem_cons_succ, List.getElem_cons_zero, List.setIfInBounds_toArray, List.set_cons_zero, List.set_cons_succ])
    refine wpAnyH_take (i := 8 ) (v := ?_) rfl (by kernel_rfl) (by kernel_rfl) (by kernel_rfl) (fun _ _ _ h => h) (Or.inl ⟨by rfl, ?_⟩) (by assumption) ?_; rotate_left; (· (intro w0 hSw; obtain ⟨h2, h3, h5⟩ := hSw; have y2 := h2.cell 0; have y3 := h3.cell 0; have y5 := h5.cell 1; clear h2 h3 h5; go_simp); first | done | with_reducible rfl); (try simp only [Act.put, List.getElem_toArray, List.getElem_cons_succ, List.getElem_cons_zero, List.setIfInBounds_toArray, List.set_cons_zero, List.set_cons_succ])
    refine wpAnyH_take (i := 9 ) (v := ?_) rfl (by kernel_rfl) (by kernel_rfl) (by kernel_rfl) (fun _ _ _ h => h) (Or.inl ⟨by rfl, ?_⟩) (by assumption) ?_; rotate_left; (· (intro w0 hSw; obtain ⟨h2, h3, h5⟩ := hSw; have y2 := h2.cell 0; have y3 := h3.cell 0; have y5 := h5.cell 1; clear h2 h3 h5; go_simp); first | done | with_reducible rfl); (try simp only [Act.put, List.getElem_toArray, List.getElem_cons_succ, List.getElem_cons_zero, List.setIfInBounds_toArray, List.set_cons_zero, List.set_cons_succ])
    refine wpAnyH_ready (rs := [6]) (by kernel_rfl) (by simp) ?_
    refine AllReadyH.cons (by simp only [List.getElem?_toArray, List.getElem?_cons_succ, List.getElem?_cons_zero]; rfl) (fun K hK => ?_) AllReadyH.nil
    go_simp
    refine (has_any _ B d x l hx8 HPI.out (HBB.out.on HS.out.hb (Nat.le_refl _))).mono ?_
    rintro e X1 ⟨rfl, hb⟩
    replace HKP := Lib.hid (And.intro (HKP.out.1.trans (keeps_of_below' hb)) (HKP.out.2.trans (SameAt.of_below hb (by have := HSZ.out; omega))))
    replace HSZ := Lib.hid (Nat.le_trans HSZ.out hb.size)
    replace HS := Lib.hid (HS.out.call hb)
    clear hb
    refine hK.out _ _ ⟨HS.out.k2, HS.out.k3, HS.out.k5⟩ (fun hH1 => ?_)
    clear hK K
    try simp only [List.setIfInBounds_toArray, List.set_cons_zero, List.set_cons_succ]
    refine wpAnyH_ready (rs := [10]) (by kernel_rfl) (by simp) ?_
    refine AllReadyH.cons (by simp only [List.getElem?_toArray, List.getElem?_cons_succ, List.getElem?_cons_zero]; rfl) (fun K hK => ?_) AllReadyH.nil
    go_simp
    refine (needs_any _ A c x need hx8 HNI.out (HA.out.on HS.out.hb (Nat.le_refl _))).mono ?_
    rintro e X2 ⟨rfl, rfl⟩
    refine hK.out _ _ ⟨HS.out.k2, HS.out.k3, HS.out.k5⟩ (fun hH2 => ?_)
    clear hK K
    try simp only [List.setIfInBounds_toArray, List.set_cons_zero, List.set_cons_succ]
    refine wpAnyH_take (i := 11 ) (v := ?_) rfl (by kernel_rfl) (by kernel_rfl) (by kernel_rfl) (fun _ _ _ h => h) (Or.inl ⟨by rfl, ?_⟩) (by assumption) ?_; rotate_left; (· (intro w0 hSw; obtain ⟨h2, h3, h5⟩ := hSw; have y2 := h2.cell 0; have y3 := h3.cell 0; have y5 := h5.cell 1; clear h2 h3 h5; go_simp); first | done | with_reducible rfl); (try simp only [Act.put, List.getElem_toArray, List.getElem_cons_succ, List.getElem_cons_zero, List.setIfInBounds_toArray, List.set_cons_zero, List.set_cons_succ])
    refine wpAnyH_ready (rs := [12]) (by kernel_rfl) (by simp) ?_
    refine AllReadyH.cons (by simp only [List.getElem?_toArray, List.getElem?_cons_succ, List.getElem?_cons_zero]; rfl) (fun K hK => ?_) AllReadyH.nil
    rw [if_pos (by rfl)]
    obtain ⟨X3, hst, hm3, hg3, hz3⟩ := run_updateI (P := Try.prog) HS.out.mp und_tab und_set (x : Int) (cfOf need l x)
    simp only [encC, cfOf] at hst
    go_simp
    replace HKP := Lib.hid (And.intro (HKP.out.1.trans (keeps_grown hg3 (by omega))) (HKP.out.2.trans (same_grown hg3 (by have := HSZ.out; omega) (by omega))))
    replace HSZ := Lib.hid (Nat.le_trans HSZ.out hg3.size)
    replace HS := Lib.hid (HS.out.step hm3 hg3)
    clear hst hm3 hg3 hz3
    refine hK.out _ _ ⟨HS.out.k2, HS.out.k3, HS.out.k5⟩ (fun hH3 => ?_)
    clear hK K
    try simp only [List.setIfInBounds_toArray, List.set_cons_zero, List.set_cons_succ]
    refine wpAnyH_done (by kernel_rfl) ?_ _
    gi_wp2_with fail
    exact ⟨HKP.out.1, HKP.out.2, HS.out, HSZ.out⟩
  case done =>
    rintro D ys U hD rfl ⟨hL, hsz⟩ hK
    have HT := Lib.hid hL.tab
    have c50 := hL.k5.cell 0
    have c51 := hL.k5.cell 1
    have c40 := hL.k4.cell 0
    have c41 := hL.k4.cell 1
    have f40 := hL.k4.frozen 0
    have f41 := hL.k4.frozen 1
    have l4 := hL.k4.lt
    have HL := Lib.hid hL
    clear hL
    gi_wp2
    have e2 := (HL.out.k4.set_ 0 (.int .i64 (need.length : Int))).set_ 1 (.map (some (w.heap.size + 1 + 1 + 1)))
    have eK := ((KeepsOthers.setCell U ⟨w.heap.size + 1 + 1, 0, none⟩ (.int .i64 (need.length : Int))).trans (KeepsOthers.setCell _ ⟨w.heap.size + 1 + 1, 1, none⟩ (.map (some (w.heap.size + 1 + 1 + 1))))).same D _ hK rfl
    have eB := (HL.out.hb.setCell (p := ⟨w.heap.size + 1 + 1, 0, none⟩) (by simp only []; omega) (.int .i64 (need.length : Int))).setCell (p := ⟨w.heap.size + 1 + 1, 1, none⟩) (by simp only []; omega) (.map (some (w.heap.size + 1 + 1 + 1)))
    have eM := MapI.set (MapI.set HT.out ⟨w.heap.size + 1 + 1, 0, none⟩ (.int .i64 (need.length : Int)) (by simp only []; omega)) ⟨w.heap.size + 1 + 1, 1, none⟩ (.map (some (w.heap.size + 1 + 1 + 1))) (by simp only []; omega)
    generalize World.setCell (World.setCell U _ _) _ _ = W2 at e2 eK eB eM ⊢
    have e4 := e2.kept (grownBy_putObj' W2 D (.deferred none)) (by simp; omega)
    have eB2 := eB.trans (belowK_b (w := w) (Nat.le_refl _) W2 D _ (.deferred none) (by omega) eK rfl rfl)
    have eM2 := MapI.kept eM (grownBy_putObj' W2 D (.deferred none)) (by simp; omega)
    have d0 := e4.cell 0
    have d1 := e4.cell 1
    refine ⟨by simp, .inl ⟨_, _, rfl, run_takeDeferred eK, ?_⟩⟩
    refine ⟨.agg #[.int .i64 (need.length : Int), .map (some (w.heap.size + 1 + 1 + 1))], ?_, w.heap.size + 1 + 1 + 1, rfl, eM2, eB2, by omega⟩
    simp only [Array.setIfInBounds] at d0 d1
    simp [results, Try.results37, go_sem, d0, d1]
    try exact ⟨rfl, rfl⟩
  case stop =>
    rintro D cd pre U hD hSp h hK
    exact h.elim
theorem tallyOf_any (w : World) (A B : Option Addr) (c d : Nat) (need : List Int) (l : List Pile) (hn : NeedIn need) (hl : PilesIn l) (hA : IntSl w w.heap.size A need) (hB : PileSl w w.heap.size B l) :
    Calls Try.prog 37 #[.slice A need.length c, .slice B l.length d] w (RetTy need l w) :=
  (tallyOfR_any w A B c d need l hn hl hA hB).mono fun _ _ ⟨r, h1, h2, h3, _⟩ => ⟨r, h1, h2, h3⟩
end Go.Proofs.Ytngoagfkcjkeoaa
