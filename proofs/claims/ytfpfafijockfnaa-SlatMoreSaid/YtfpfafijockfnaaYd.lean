/- pairing.before. -/
import Derived.Test.YtfpfafijockfnaaYc
import Derived.Deep.OwnRows
import Derived.Laws.CopyRow
import Derived.Laws.IdiomCopy
namespace Go.Proofs.Ytfpfafijockfnaa
open Go.RowKit Go.Shelf

def intsB (l : List Int) : Array Value := (l.map fun i => Value.int .i64 i).toArray
theorem intsB_set (l : List Int) (j : Nat) (x : Int) : (intsB l).setIfInBounds j (.int .i64 x) = intsB (l.set j x) := by simp [intsB, List.map_set]
theorem made_intsB (n : Nat) : madeCells #[Value.int .i64 0] n = intsB (List.replicate n 0) := by
  apply Array.ext
  · simp [madeCells, intsB]
  · intro i h1 h2
    simp [madeCells, intsB, Nat.mod_one]
theorem plan_of_blkB {W : World} {g n : Nat} {l : List Int} (h : Blk W g 3 (intsB l)) (hn : n = l.length) (hm : n ≤ 100) : PlanAt W (.slice (some ⟨g, 0, none⟩) n n) l := by
  subst hn
  exact ⟨by simp [intsV], .inr ⟨g, l.length, intsB l, rfl, Nat.zero_le _, h, Nat.le_refl _, by unfold maxLen; omega, by simp [intsB], by simp [intsB, intsV]; rw [List.take_of_length_le (by simp)]⟩⟩
def RetBf (u m : Int) (l : List Int) (s : Int) (w : World) (e : Ending) (w' : World) : Prop := ∃ g, e = .returned (.agg #[.slice (some ⟨g, 0, none⟩) (l.length + 1) (l.length + 1), .int .i64 (m + s)]) ∧ PlanAt w' (.slice (some ⟨g, 0, none⟩) (l.length + 1) (l.length + 1)) (u :: l) ∧ Below w.heap.size w w'
structure BwS (w : World) (A : Option Addr) (c : Nat) (l : List Int) (s : Int) (W : World) : Prop where
  hb : Below w.heap.size w W
  kp : Blk W w.heap.size 83 #[.slice A l.length c, .int .i64 s]
  kr : Blk W (w.heap.size + 1) 83 #[.slice none 0 0, .int .i64 0]
theorem BwS.call {w : World} {A : Option Addr} {c : Nat} {l : List Int} {s : Int} {W W' : World} (h : BwS w A c l s W) (hb : Below W.heap.size W W') : BwS w A c l s W' := ⟨h.hb.trans (hb.mono h.hb.size), h.kp.below hb h.kp.lt, h.kr.below hb h.kr.lt⟩
theorem BwS.low {w : World} {A : Option Addr} {c : Nat} {l : List Int} {s : Int} {W W' : World} (h : BwS w A c l s W) (hb : Below (w.heap.size + 1 + 1) W W') : BwS w A c l s W' := ⟨h.hb.trans (hb.mono (by omega)), h.kp.below hb (by omega), h.kr.below hb (by omega)⟩
theorem setRow_low {B g : Nat} {W : World} {cs : Array Value} (hg : B ≤ g) : Below B W (W.setRow g cs) := below_setRow (Below.refl _ _) hg cs
/-- The copy behind the first cell. -/
theorem copied {W : World} {A D : Option Addr} {c g d : Nat} {l : List Int} {u : Int} (hD : (if l = [] then some (⟨g, 0, none⟩ : Addr) else some ⟨g, 1, none⟩) = D) (hA : PlanAt W (.slice A l.length c) l) (hg : Blk W g 3 (intsB (u :: List.replicate l.length 0))) :
    ∃ W', (Builtin.copy_ #[27, 27] d #[.slice D l.length l.length, .slice A l.length c]).run Try.prog W = .ok (goInt l.length) W' ∧ Blk W' g 3 (intsB (u :: l)) ∧ ∀ B, B ≤ g → Below B W W' := by
  by_cases hl : l = []
  · subst hl
    exact ⟨W, by simpa using run_copy_none (P := Try.prog) W 27 27 d 3 D A 0 0 0 c und_ints (by kernel_rfl) rfl, hg, fun B _ => Below.refl _ _⟩
  · rw [if_neg hl] at hD
    subst hD
    obtain ⟨gA, cap, e, hgA, hat⟩ := plan_cells hA hl
    obtain rfl : A = some ⟨gA, 0, none⟩ := by cases e; rfl
    have hlen : (intsV l).length = l.length := by simp [intsV]
    have h9 := run_copy_row (P := Try.prog) W 27 27 d 3 g 1 l.length l.length ⟨gA, 0, none⟩ l.length c _ 3 (intsV l) und_ints (by kernel_rfl) hg (by rw [hlen]; exact (Nat.min_self _).symm) hat (by rw [hlen]; simp [intsB]; omega) (intsV_one l)
    rw [hlen] at h9
    refine ⟨_, h9, ?_, fun B hB => setRow_low hB⟩
    have h8 := hg.row ((List.take 1 (intsB (u :: List.replicate l.length 0)).toList ++ intsV l ++ List.drop (1 + l.length) (intsB (u :: List.replicate l.length 0)).toList).toArray)
    have e2 : (List.take 1 (intsB (u :: List.replicate l.length 0)).toList ++ intsV l ++ List.drop (1 + l.length) (intsB (u :: List.replicate l.length 0)).toList).toArray = intsB (u :: l) := by
      simp [intsB, intsV, Nat.add_comm]
    rw [e2] at h8 ⊢
    exact h8
set_option maxRecDepth 100000 in
set_option maxHeartbeats 4000000 in
theorem before5p_any (u m s : Int) (A : Option Addr) (c : Nat) (l : List Int) (w : World) (hm0 : 0 ≤ m) (hm1 : m ≤ 1000) (hs0 : 0 ≤ s) (hs1 : s ≤ 1000) (hl : l.length ≤ 7) (hA : PlanAt w (.slice A l.length c) l) :
    Calls Try.prog 66 #[.agg #[.slice A l.length c, .int .i64 s], .int .i64 u, .int .i64 m] w (RetBf u m l s w) := by
  have hmk := run_make_row' (P := Try.prog) 27 3 (.int .i64 0) 8 (by kernel_rfl) (by kernel_rfl) rfl .i64 .i64 (l.length + 1) (by omega) (by omega)
  rw [made_intsB, show ((l.length + 1 : Nat) : Int) = 1 + (l.length : Int) by omega] at hmk
  have hS0 : BwS w A c l s ((w.alloc (.cells #[.slice A l.length c, .int .i64 s] 83)).alloc (.cells #[.slice none 0 0, .int .i64 0] 83)) := ⟨((Below.refl _ _).alloc (Nat.le_refl _) _).alloc (by simp) _, (Blk.new _ _ _).below ((Below.refl _ _).alloc (Nat.le_refl _) _) (by simp), blk5 _ _ (by simp) rfl⟩
  have HS := Lib.hid hS0
  have HA := Lib.hid hA
  have hl0 : (0 : Int) ≤ l.length := by omega
  have hl1 : (l.length : Int) ≤ 7 := by omega
  have wl : IntKind.i64.wrap (1 + (l.length : Int)) = 1 + (l.length : Int) := IntWalk.i64_in _ ⟨by omega, by omega⟩
  have ws : IntKind.i64.wrap (m + s) = m + s := IntWalk.i64_in _ ⟨by omega, by omega⟩
  have hpos : (0 : Int) < ((l.length + 1 : Nat) : Int) := by omega
  clear hA hS0
  go_enter Try.func66, Try.ntmps66
  go_upto_region 1 with fail
  generalize hV : World.alloc (World.alloc w _) _ = V at HS ⊢
  have hsz : V.heap.size = w.heap.size + 1 + 1 := by rw [← hV]; simp
  clear hV
  have x0 := HS.out.kp.cell 0
  go_upto_region 2 with fail
  have HN := Lib.hid (Blk.new V 3 (intsB (List.replicate (l.length + 1) 0)))
  replace HS := Lib.hid (HS.out.call ((Below.refl _ _).alloc (Nat.le_refl _) (.cells (intsB (List.replicate (l.length + 1) 0)) 3)))
  rw [hsz] at HN
  clear hmk x0 hsz wl
  generalize World.alloc V _ = V1 at HS HN ⊢
  have HN2 := Lib.hid (HN.out.set_ 0 (.int .i64 u))
  have HS2 := Lib.hid (HS.out.low (W' := V1.setCell ⟨w.heap.size + 1 + 1, 0, none⟩ (.int .i64 u)) ((Below.refl (w.heap.size + 1 + 1) V1).setCell (p := ⟨w.heap.size + 1 + 1, 0, none⟩) (Nat.le_refl _) _))
  have f0 := HN.out.frozen 0
  have y0 : V1.cell? ⟨w.heap.size + 1 + 1, 0, none⟩ = some (.int .i64 0) := by rw [HN.out.cell]; simp [intsB]
  go_upto_region 3 with fail
  clear HS HN f0 y0
  generalize World.setCell V1 _ _ = V2 at HS2 HN2 ⊢
  replace HS := Lib.hid (HS2.out.call (Below.refl _ _).drew)
  replace HN := Lib.hid (HN2.out.below (Below.refl _ _).drew HN2.out.lt)
  clear HS2 HN2
  have HN3 : Hid (Blk V2.drew (w.heap.size + 1 + 1) 3 (intsB (u :: List.replicate l.length 0))) := Lib.hid (by have h9 := HN.out; rwa [show (intsB (List.replicate (l.length + 1) 0)).setIfInBounds 0 (.int .i64 u) = intsB (u :: List.replicate l.length 0) by rw [intsB_set]; simp [List.replicate_succ]] at h9)
  have HA3 : Hid (PlanAt V2.drew (.slice A l.length c) l) := Lib.hid (HA.out.below HS.out.hb)
  obtain ⟨D, hD⟩ : ∃ D, (if l = [] then some (⟨w.heap.size + 1 + 1, 0, none⟩ : Addr) else some ⟨w.heap.size + 1 + 1, 1, none⟩) = D := ⟨_, rfl⟩
  have hle : (1 : Int) ≤ (l.length : Int) + 1 := by omega
  obtain ⟨VC, hcp, hck, hcb⟩ := copied (d := 3) hD HA3.out HN3.out
  have HCK := Lib.hid hck
  have HCB := Lib.hid (hcb _ (Nat.le_refl _))
  clear hck hcb HN HN3 HA3 HA
  refine wp_region_held_drew (S := fun W => Blk W w.heap.size 83 #[.slice A l.length c, .int .i64 s]) (by kernel_rfl) HS.out.kp (fun hH0 => ?_)
  generalize World.drew _ = V0 at *
  simp only [List.size_toArray, List.length_cons, List.length_nil, Nat.reduceAdd, Array.replicate_succ, Array.replicate_zero, List.push_toArray, List.nil_append, List.cons_append]
  refine wpAnyH_take (i := 0 ) (v := ?_) rfl (by kernel_rfl) (by kernel_rfl) (by kernel_rfl) (fun _ _ _ h => h) (Or.inl ⟨by rfl, ?_⟩) (by assumption) ?_; rotate_left; (· (intro w0 hSw; have x0 := hSw.cell 0; have x1 := hSw.cell 1; clear hSw; go_simp); first | done | with_reducible rfl); (try simp only [Act.put, List.getElem_toArray, List.getElem_cons_zero, List.setIfInBounds_toArray, List.set_cons_zero, List.set_cons_succ])
  refine wpAnyH_take (i := 1 ) (v := ?_) rfl (by kernel_rfl) (by kernel_rfl) (by kernel_rfl) (fun _ _ _ h => h) (Or.inl ⟨by rfl, ?_⟩) (by assumption) ?_; rotate_left; (· (intro w0 hSw; have x0 := hSw.cell 0; have x1 := hSw.cell 1; clear hSw; go_simp); first | done | with_reducible rfl); (try simp only [Act.put, List.getElem_toArray, List.getElem_cons_succ, List.getElem_cons_zero, List.setIfInBounds_toArray, List.set_cons_zero, List.set_cons_succ])
  refine wpAnyH_take (i := 2 ) (v := ?_) rfl (by kernel_rfl) (by kernel_rfl) (by kernel_rfl) (fun _ _ _ h => h) (Or.inl ⟨by rfl, ?_⟩) (by assumption) ?_; rotate_left; (· (intro w0 hSw; have x0 := hSw.cell 0; have x1 := hSw.cell 1; clear hSw; go_simp); first | done | with_reducible rfl); (try simp only [Act.put, List.getElem_toArray, List.getElem_cons_succ, List.getElem_cons_zero, List.setIfInBounds_toArray, List.set_cons_zero, List.set_cons_succ])
  refine wpAnyH_take (i := 3 ) (v := ?_) rfl (by kernel_rfl) (by kernel_rfl) (by kernel_rfl) (fun _ _ _ h => h) (Or.inl ⟨by rfl, ?_⟩) (by assumption) ?_; rotate_left; (· (intro w0 hSw; have x0 := hSw.cell 0; have x1 := hSw.cell 1; clear hSw; go_simp); first | done | with_reducible rfl); (try simp only [Act.put, List.getElem_toArray, List.getElem_cons_succ, List.getElem_cons_zero, List.setIfInBounds_toArray, List.set_cons_zero, List.set_cons_succ])
  refine wpAnyH_ready (rs := [4]) (by kernel_rfl) (by simp) ?_
  refine AllReadyH.cons (by simp only [List.getElem?_toArray, List.getElem?_cons_succ, List.getElem?_cons_zero]; rfl) (fun K hK => ?_) AllReadyH.nil
  go_simp
  replace HS := Lib.hid (HS.out.low HCB.out)
  clear hcp
  refine hK.out _ _ HS.out.kp (fun hH1 => ?_)
  clear hK K
  try simp only [List.setIfInBounds_toArray, List.set_cons_zero, List.set_cons_succ]
  refine wpAnyH_done (by kernel_rfl) ?_ _
  have x1 := HS.out.kp.cell 1
  have HT := Lib.hid (there_mid (o := 0) HS.out.kr (by simp))
  have HB := Lib.hid (below_set2 (x := .slice (some ⟨w.heap.size + 1 + 1, 0, none⟩) (l.length + 1) (l.length + 1)) (y := .int .i64 (m + s)) HS.out.hb (g := w.heap.size + 1) (by omega))
  have HK := Lib.hid (set2_blk (x := .slice (some ⟨w.heap.size + 1 + 1, 0, none⟩) (l.length + 1) (l.length + 1)) (y := .int .i64 (m + s)) HS.out.kr)
  have HP : Hid (PlanAt (VC.setCells (w.heap.size + 1) 0 [.slice (some ⟨w.heap.size + 1 + 1, 0, none⟩) (l.length + 1) (l.length + 1), .int .i64 (m + s)]) (.slice (some ⟨w.heap.size + 1 + 1, 0, none⟩) (l.length + 1) (l.length + 1)) (u :: l)) := Lib.hid (plan_of_blkB ((HCK.out.far (p := ⟨w.heap.size + 1, 0, none⟩) (by simp) _).far (p := ⟨w.heap.size + 1, 1, none⟩) (by simp) _) (by simp) (by omega))
  go_wp2_with (refine wpList_store_mid (by rfl) 83 (.tmp 6) (.tmp 26) (by rfl) (w.heap.size + 1) 0 #[.slice (some ⟨w.heap.size + 1 + 1, 0, none⟩) (l.length + 1) (l.length + 1), .int .i64 (m + s)] (by rfl) (by rfl) HT.out (by kernel_rfl) (by simp [Value.oneCell']) ?_)
  exact bodyPost_ret (results_blk rfl _ rfl HK.out (by kernel_rfl) (by kernel_rfl)) rfl ⟨_, rfl, HP.out, HB.out⟩
end Go.Proofs.Ytfpfafijockfnaa