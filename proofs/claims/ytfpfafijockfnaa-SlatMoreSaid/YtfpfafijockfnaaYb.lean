/- glued: how many leads are within a limit in each pair that always closes. -/
import Derived.Test.YtfpfafijockfnaaYa
namespace Go.Proofs.Ytfpfafijockfnaa
open Go.RowKit Go.Shelf

/-- What is known of a pair. -/
def pairS (j : Jig) (l u : List Slat) (lim : Int) (i k : Int) : Option Int :=
  if 0 ≤ i ∧ 0 ≤ k then
    match l[i.toNat]?, u[k.toNat]? with
    | some a, some b => if alwaysB j a b = true then some (((leadsOf j a b).countP (leadIn · lim) : Nat) : Int) else none
    | _, _ => none
  else none
/-- The pairs before (r, s), row by row. -/
def upto (g : Int → Int → Option Int) (r s : Nat) (i k : Int) : Option Int := if i < r ∨ (i = r ∧ k < s) then g i k else none
theorem pairS_at {j : Jig} {l u : List Slat} {lim : Int} {r s : Nat} (h1 : r < l.length) (h2 : s < u.length) : pairS j l u lim r s = if alwaysB j l[r] u[s] = true then some (((leadsOf j l[r] u[s]).countP (leadIn · lim) : Nat) : Int) else none := by
  unfold pairS
  rw [if_pos ⟨by omega, by omega⟩]
  simp [h1, h2]
theorem pairS_low {j : Jig} {l u : List Slat} {lim i k : Int} (h : pairS j l u lim i k ≠ none) : (0 ≤ i ∧ i < l.length) ∧ 0 ≤ k ∧ k < u.length := by
  unfold pairS at h
  split at h
  · rename_i h0
    split at h
    · rename_i a b e1 e2
      have h3 := (List.getElem?_eq_some_iff.1 e1).1
      have h4 := (List.getElem?_eq_some_iff.1 e2).1
      omega
    · exact absurd rfl h
  · exact absurd rfl h
theorem upto_0 (g : Int → Int → Option Int) (hg : ∀ i k, g i k ≠ none → 0 ≤ i ∧ 0 ≤ k) : upto g 0 0 = fun _ _ => none := by
  funext i k
  unfold upto
  split
  · cases h : g i k with
    | none => rfl
    | some m => have := hg i k (by rw [h]; simp); omega
  · rfl
theorem upto_row (g : Int → Int → Option Int) (r s : Nat) (hg : ∀ i k, g i k ≠ none → 0 ≤ k ∧ k < s) : upto g (r + 1) 0 = upto g r s := by
  funext i k
  unfold upto
  cases h : g i k with
  | none => simp
  | some m =>
    have := hg i k (by rw [h]; simp)
    have e : (i < ((r + 1 : Nat) : Int) ∨ (i = ((r + 1 : Nat) : Int) ∧ k < ((0 : Nat) : Int))) ↔ (i < (r : Int) ∨ (i = (r : Int) ∧ k < (s : Int))) := by omega
    simp only [e]
theorem upto_none (g : Int → Int → Option Int) (r s : Nat) (h : g r s = none) : upto g r (s + 1) = upto g r s := by
  funext i k
  unfold upto
  by_cases he : i = r ∧ k = s
  · obtain ⟨rfl, rfl⟩ := he
    rw [h]; simp
  · have e : (i < (r : Int) ∨ (i = (r : Int) ∧ k < ((s + 1 : Nat) : Int))) ↔ (i < (r : Int) ∨ (i = (r : Int) ∧ k < (s : Int))) := by omega
    simp only [e]
theorem upto_some (g : Int → Int → Option Int) (r s : Nat) (m : Int) (h : g r s = some m) : upto g r (s + 1) = fun (i k : Int) => if i = r ∧ k = s then some m else upto g r s i k := by
  funext i k
  unfold upto
  by_cases he : i = r ∧ k = s
  · obtain ⟨rfl, rfl⟩ := he
    rw [h, if_pos (by omega), if_pos ⟨rfl, rfl⟩]
  · rw [if_neg he]
    have e : (i < (r : Int) ∨ (i = (r : Int) ∧ k < ((s + 1 : Nat) : Int))) ↔ (i < (r : Int) ∨ (i = (r : Int) ∧ k < (s : Int))) := by omega
    simp only [e]
theorem upto_all (g : Int → Int → Option Int) (r : Nat) (hg : ∀ i k, g i k ≠ none → i < r) : upto g r 0 = g := by
  funext i k
  unfold upto
  cases h : g i k with
  | none => simp
  | some m =>
    have := hg i k (by rw [h]; simp)
    rw [if_pos (.inl this)]
def RetGl (g : Int → Int → Option Int) (w : World) (e : Ending) (w' : World) : Prop := ∃ m, w.heap.size ≤ m ∧ e = .returned (.map (some m)) ∧ PairsAt w' m 49 g ∧ Below w.heap.size w w'
theorem below_low {B m : Nat} {W V V' : World} (hB : B ≤ W.heap.size) (hb : Below B W V) (hg : V.grownBy V' (some m)) (hm : B ≤ m) : Below B W V' :=
  ⟨hg.os.trans hb.os, hg.tape.trans hb.tape, hg.output.trans hb.output, Nat.le_trans hb.size hg.size, fun i hi => (hg.block i (Nat.lt_of_lt_of_le hi (Nat.le_trans hB hb.size)) (fun e => by have := Option.some.inj e; omega)).trans (hb.block i hi)⟩
theorem PairsAt.more {W : World} {b n m : Nat} {g : Int → Int → Option Int} (h : PairsAt W b n g) (hn : n ≤ m) : PairsAt W b m g := by
  obtain ⟨es, clock, h1, h2, h3, h4⟩ := h
  exact ⟨es, clock, h1, h2, by omega, h4⟩
structure GlS (w : World) (j : Jig) (g : Int → Int → Option Int) (n : Nat) (W : World) : Prop where
  hb : Below w.heap.size w W
  kj : Blk W w.heap.size 25 #[.int .i64 j.glue.lo, .int .i64 j.glue.hi, .int .i64 j.lead.lo, .int .i64 j.lead.hi, .int .i64 j.side.lo, .int .i64 j.side.hi, .int .i64 j.height.lo, .int .i64 j.height.hi, .int .i64 j.play, .int .i64 j.grooves]
  km : PairsAt W (w.heap.size + 1) n g
theorem GlS.call {w : World} {j : Jig} {g : Int → Int → Option Int} {n : Nat} {W W' : World} (h : GlS w j g n W) (hb : Below W.heap.size W W') : GlS w j g n W' := ⟨h.hb.trans (hb.mono h.hb.size), h.kj.below hb h.kj.lt, h.km.below hb h.km.lt⟩
theorem GlS.store {w : World} {j : Jig} {g g' : Int → Int → Option Int} {n n' : Nat} {W W' : World} (h : GlS w j g n W) (hm : PairsAt W' (w.heap.size + 1) n' g') (hg : W.grownBy W' (some (w.heap.size + 1))) : GlS w j g' n' W' :=
  ⟨below_low (Nat.le_refl _) h.hb hg (by omega), (hg.block _ h.kj.lt (by intro e; have := Option.some.inj e; omega)).trans h.kj, hm⟩
set_option maxRecDepth 100000 in
set_option maxHeartbeats 8000000 in
theorem glued5_any (w : World) (A B : Option Addr) (ca cb : Nat) (j : Jig) (l u : List Slat) (lim : Int) (hji : JigIn j) (hli : ∀ s ∈ l, SlatIn s) (hui : ∀ s ∈ u, SlatIn s) (hl7 : l.length ≤ 7) (hu7 : u.length ≤ 7) (hlm0 : 0 ≤ lim) (hlm1 : lim ≤ 1000) (hA : SlatSl w w.heap.size A l) (hB : SlatSl w w.heap.size B u) :
    Calls Try.prog 38 #[.agg #[.int .i64 j.glue.lo, .int .i64 j.glue.hi, .int .i64 j.lead.lo, .int .i64 j.lead.hi, .int .i64 j.side.lo, .int .i64 j.side.hi, .int .i64 j.height.lo, .int .i64 j.height.hi, .int .i64 j.play, .int .i64 j.grooves], .slice A l.length ca, .slice B u.length cb, .int .i64 lim] w (RetGl (pairS j l u lim) w) := by
  have hmm := @run_makeMap Try.prog
  have HMM := Lib.hid hmm
  have hb0 : Below w.heap.size w (w.alloc (.cells #[.int .i64 j.glue.lo, .int .i64 j.glue.hi, .int .i64 j.lead.lo, .int .i64 j.lead.hi, .int .i64 j.side.lo, .int .i64 j.side.hi, .int .i64 j.height.lo, .int .i64 j.height.hi, .int .i64 j.play, .int .i64 j.grooves] 25)) := (Below.refl _ _).alloc (Nat.le_refl _) _
  have HS : Hid (GlS w j (upto (pairS j l u lim) 0 0) 0 ((w.alloc (.cells #[.int .i64 j.glue.lo, .int .i64 j.glue.hi, .int .i64 j.lead.lo, .int .i64 j.lead.hi, .int .i64 j.side.lo, .int .i64 j.side.hi, .int .i64 j.height.lo, .int .i64 j.height.hi, .int .i64 j.play, .int .i64 j.grooves] 25)).alloc (.map #[] 0))) := Lib.hid ⟨hb0.alloc hb0.size _, (Blk.new w 25 #[.int .i64 j.glue.lo, .int .i64 j.glue.hi, .int .i64 j.lead.lo, .int .i64 j.lead.hi, .int .i64 j.side.lo, .int .i64 j.side.hi, .int .i64 j.height.lo, .int .i64 j.height.hi, .int .i64 j.play, .int .i64 j.grooves]).below ((Below.refl _ _).alloc (Nat.le_refl _) _) (by simp), by rw [upto_0 _ (fun i k h => ⟨(pairS_low h).1.1, (pairS_low h).2.1⟩)]; have h9 := PairsAt.made (w.alloc (.cells #[.int .i64 j.glue.lo, .int .i64 j.glue.hi, .int .i64 j.lead.lo, .int .i64 j.lead.hi, .int .i64 j.side.lo, .int .i64 j.side.hi, .int .i64 j.height.lo, .int .i64 j.height.hi, .int .i64 j.play, .int .i64 j.grooves] 25)); rwa [show (w.alloc (.cells #[.int .i64 j.glue.lo, .int .i64 j.glue.hi, .int .i64 j.lead.lo, .int .i64 j.lead.hi, .int .i64 j.side.lo, .int .i64 j.side.hi, .int .i64 j.height.lo, .int .i64 j.height.hi, .int .i64 j.play, .int .i64 j.grooves] 25)).heap.size = w.heap.size + 1 by simp] at h9⟩
  have HAA := Lib.hid hA
  have HBB := Lib.hid hB
  have HI := Lib.hid (And.intro hji (And.intro hli (And.intro hui (And.intro hlm0 hlm1))))
  obtain ⟨N, hN⟩ := Int.eq_ofNat_of_zero_le (show 0 ≤ j.grooves by have := hji.n0; omega)
  have HN := Lib.hid hN
  have hl0 : (0 : Int) ≤ l.length := by omega
  have hl1 : (l.length : Int) ≤ 9223372036854775807 := by omega
  have hu0 : (0 : Int) ≤ u.length := by omega
  have hu1 : (u.length : Int) ≤ 9223372036854775807 := by omega
  have hN10 : N ≤ 10 := by have := hji.n1; omega
  obtain ⟨G, hG⟩ : ∃ G, pairS j l u lim = G := ⟨_, rfl⟩
  have HGL : Hid (∀ i k, G i k ≠ none → (0 ≤ i ∧ i < l.length) ∧ 0 ≤ k ∧ k < u.length) := Lib.hid fun i k h => pairS_low (by rw [hG]; exact h)
  have HGA : Hid (∀ (r s : Nat) (h1 : r < l.length) (h2 : s < u.length), G r s = if alwaysB j l[r] u[s] = true then some (((leadsOf j l[r] u[s]).countP (leadIn · lim) : Nat) : Int) else none) := Lib.hid fun r s h1 h2 => by rw [← hG]; exact pairS_at h1 h2
  rw [hG] at HS ⊢
  clear hA hB hji hli hui hlm0 hlm1 hN hb0 hG
  go_enter Try.func38, Try.ntmps38
  go_wp2_with fail
  clear hmm
  generalize World.alloc (World.alloc w _) _ = W0 at HS ⊢
  go_loopw [19] (fun i wr => ∃ r : Nat, r ≤ l.length ∧ i = .int .i64 r ∧ Hid (GlS w j (upto G r 0) (r * 7) wr)) (fun i _ => l.length - (intOf i).toNat)
  case atStart => exact ⟨0, Nat.zero_le _, rfl, HS⟩
  case round =>
    clear HS
    obtain ⟨r, hr, rfl, HS⟩ := hrel
    by_cases hlt : r < l.length
    · have hr0 : (0 : Int) ≤ r := by omega
      have hr1 : (r : Int) < l.length := by omega
      go_wp2_with fail
      go_loopw [24] (fun i wr => ∃ s : Nat, s ≤ u.length ∧ i = .int .i64 s ∧ Hid (GlS w j (upto G r s) (r * 7 + s) wr)) (fun i _ => u.length - (intOf i).toNat)
      case atStart => exact ⟨0, Nat.zero_le _, rfl, HS⟩
      case round =>
        clear HS
        obtain ⟨k, hk, rfl, HS⟩ := hrel
        by_cases hku : k < u.length
        · obtain ⟨bA, oA, rfl, hbA, hsA⟩ := HAA.out (by intro e; rw [e] at hlt; simp at hlt)
          obtain ⟨bB, oB, rfl, hbB, hsB⟩ := HBB.out (by intro e; rw [e] at hku; simp at hku)
          have HG := Lib.hid (HGA.out r k hlt hku)
          have hka := HI.out.2.1 l[r] (List.getElem_mem hlt)
          have hkb := HI.out.2.2.1 u[k] (List.getElem_mem hku)
          have HRA := Lib.hid fun V (hV : Below w.heap.size w V) => range_low (slats_range hsA hlt rfl) hV hbA
          have HRB := Lib.hid fun V (hV : Below w.heap.size w V) => range_low (slats_range hsB hku rfl) hV hbB
          generalize l[r] = a at *
          generalize u[k] = b at *
          have HCL : Hid (∀ W, Calls Try.prog 44 #[.agg #[.int .i64 j.glue.lo, .int .i64 j.glue.hi, .int .i64 j.lead.lo, .int .i64 j.lead.hi, .int .i64 j.side.lo, .int .i64 j.side.hi, .int .i64 j.height.lo, .int .i64 j.height.hi, .int .i64 j.play, .int .i64 j.grooves, .int .i64 a.thick.lo, .int .i64 a.thick.hi, .int .i64 a.depth.lo, .int .i64 a.depth.hi, .int .i64 a.shift.lo, .int .i64 a.shift.hi, .int .i64 a.pitch.lo, .int .i64 a.pitch.hi, .int .i64 b.thick.lo, .int .i64 b.thick.hi, .int .i64 b.depth.lo, .int .i64 b.depth.hi, .int .i64 b.shift.lo, .int .i64 b.shift.hi, .int .i64 b.pitch.lo, .int .i64 b.pitch.hi], .func (.func 45) #[] #[]] W (Ret (.bool (alwaysB j a b)) W)) := Lib.hid fun W => closes5_any j a b _ insideB W HI.out.1 hka hkb isMet_within
          have HLD : Hid (∀ W, Calls Try.prog 46 #[.agg #[.int .i64 j.glue.lo, .int .i64 j.glue.hi, .int .i64 j.lead.lo, .int .i64 j.lead.hi, .int .i64 j.side.lo, .int .i64 j.side.hi, .int .i64 j.height.lo, .int .i64 j.height.hi, .int .i64 j.play, .int .i64 j.grooves, .int .i64 a.thick.lo, .int .i64 a.thick.hi, .int .i64 a.depth.lo, .int .i64 a.depth.hi, .int .i64 a.shift.lo, .int .i64 a.shift.hi, .int .i64 a.pitch.lo, .int .i64 a.pitch.hi, .int .i64 b.thick.lo, .int .i64 b.thick.hi, .int .i64 b.depth.lo, .int .i64 b.depth.hi, .int .i64 b.shift.lo, .int .i64 b.shift.hi, .int .i64 b.pitch.lo, .int .i64 b.pitch.hi]] W (RetLeads (leadsOf j a b) N W)) := Lib.hid fun W => leads5_any j a b N W HI.out.1 hka hkb HN.out
          have HLN : Hid ((leadsOf j a b).length = N) := Lib.hid (by rw [leads_len, HN.out]; simp)
          have HBD : Hid (∀ k (hk : k < (leadsOf j a b).length), LeadBd (leadsOf j a b)[k]) := Lib.hid fun k hk => by
            rw [leads_at]
            have h1 := HI.out.1.n1
            rw [leads_len, HN.out] at hk
            exact lead_bd HI.out.1 hka hkb (by omega) (by have h2 : k < N := (by simpa using hk); have h3 := HN.out; omega)
          have hk0 : (0 : Int) ≤ k := by omega
          have hk2 : (k : Int) < u.length := by omega
          clear hka hkb hsA hsB hbA hbB
          go_upto_region 8 with fail
          replace HS := Lib.hid (HS.out.call (Below.refl _ _).drew)
          refine wp_region_held_drew (S := fun W => Blk W w.heap.size 25 #[.int .i64 j.glue.lo, .int .i64 j.glue.hi, .int .i64 j.lead.lo, .int .i64 j.lead.hi, .int .i64 j.side.lo, .int .i64 j.side.hi, .int .i64 j.height.lo, .int .i64 j.height.hi, .int .i64 j.play, .int .i64 j.grooves] ∧ W.rangeAt bA (oA + r * 8) [.int .i64 a.thick.lo, .int .i64 a.thick.hi, .int .i64 a.depth.lo, .int .i64 a.depth.hi, .int .i64 a.shift.lo, .int .i64 a.shift.hi, .int .i64 a.pitch.lo, .int .i64 a.pitch.hi] ∧ W.rangeAt bB (oB + k * 8) [.int .i64 b.thick.lo, .int .i64 b.thick.hi, .int .i64 b.depth.lo, .int .i64 b.depth.hi, .int .i64 b.shift.lo, .int .i64 b.shift.hi, .int .i64 b.pitch.lo, .int .i64 b.pitch.hi]) (by kernel_rfl) ⟨HS.out.kj, HRA.out _ HS.out.hb, HRB.out _ HS.out.hb⟩ (fun hH0 => ?_)
          generalize World.drew _ = V0 at *
          simp only [List.size_toArray, List.length_cons, List.length_nil, Nat.reduceAdd, Array.replicate_succ, Array.replicate_zero, List.push_toArray, List.nil_append, List.cons_append]
          refine wpAnyH_take (i := 0) (v := _) rfl (by kernel_rfl) (by kernel_rfl) (by kernel_rfl) (fun _ _ _ h => h) (yieldsIf_load_mid (by rfl) _ _ rfl _ _ rfl [.int .i64 j.glue.lo, .int .i64 j.glue.hi, .int .i64 j.lead.lo, .int .i64 j.lead.hi, .int .i64 j.side.lo, .int .i64 j.side.hi, .int .i64 j.height.lo, .int .i64 j.height.hi, .int .i64 j.play, .int .i64 j.grooves] _ (fun w0 h0 => h0.1.range) (by rfl) (by rfl) (by kernel_rfl)) (by assumption) ?_
          (try simp only [Act.put, List.getElem_toArray, List.getElem_cons_zero, List.setIfInBounds_toArray, List.set_cons_zero, List.set_cons_succ])
          refine wpAnyH_take (i := 1 ) (v := ?_) rfl (by kernel_rfl) (by kernel_rfl) (by kernel_rfl) (fun _ _ _ h => h) (Or.inl ⟨by rfl, ?_⟩) (by assumption) ?_; rotate_left; (· (intro w0 hSw; clear hSw; go_simp); first | done | with_reducible rfl); (try simp only [Act.put, List.getElem_toArray, List.getElem_cons_succ, List.getElem_cons_zero, List.setIfInBounds_toArray, List.set_cons_zero, List.set_cons_succ])
          refine wpAnyH_take (i := 2 ) (v := ?_) rfl (by kernel_rfl) (by kernel_rfl) (by kernel_rfl) (fun _ _ _ h => h) (Or.inl ⟨by rfl, ?_⟩) (by assumption) ?_; rotate_left; (· (intro w0 hSw; clear hSw; go_simp); first | done | with_reducible rfl); (try simp only [Act.put, List.getElem_toArray, List.getElem_cons_succ, List.getElem_cons_zero, List.setIfInBounds_toArray, List.set_cons_zero, List.set_cons_succ])
          refine wpAnyH_take (i := 3 ) (v := ?_) rfl (by kernel_rfl) (by kernel_rfl) (by kernel_rfl) (fun _ _ _ h => h) (Or.inl ⟨by rfl, ?_⟩) (by assumption) ?_; rotate_left; (· (intro w0 hSw; clear hSw; go_simp); first | done | with_reducible rfl); (try simp only [Act.put, List.getElem_toArray, List.getElem_cons_succ, List.getElem_cons_zero, List.setIfInBounds_toArray, List.set_cons_zero, List.set_cons_succ])
          refine wpAnyH_take (i := 4) (v := _) rfl (by kernel_rfl) (by kernel_rfl) (by kernel_rfl) (fun _ _ _ h => h) (yieldsIf_load_mid (by rfl) _ _ rfl _ _ rfl [.int .i64 a.thick.lo, .int .i64 a.thick.hi, .int .i64 a.depth.lo, .int .i64 a.depth.hi, .int .i64 a.shift.lo, .int .i64 a.shift.hi, .int .i64 a.pitch.lo, .int .i64 a.pitch.hi] _ (fun w0 h0 => h0.2.1) (by rfl) (by rfl) (by kernel_rfl)) (by assumption) ?_
          (try simp only [Act.put, List.getElem_toArray, List.getElem_cons_succ, List.getElem_cons_zero, List.setIfInBounds_toArray, List.set_cons_zero, List.set_cons_succ])
          refine wpAnyH_take (i := 5 ) (v := ?_) rfl (by kernel_rfl) (by kernel_rfl) (by kernel_rfl) (fun _ _ _ h => h) (Or.inl ⟨by rfl, ?_⟩) (by assumption) ?_; rotate_left; (· (intro w0 hSw; clear hSw; go_simp); first | done | with_reducible rfl); (try simp only [Act.put, List.getElem_toArray, List.getElem_cons_succ, List.getElem_cons_zero, List.setIfInBounds_toArray, List.set_cons_zero, List.set_cons_succ])
          refine wpAnyH_take (i := 6 ) (v := ?_) rfl (by kernel_rfl) (by kernel_rfl) (by kernel_rfl) (fun _ _ _ h => h) (Or.inl ⟨by rfl, ?_⟩) (by assumption) ?_; rotate_left; (· (intro w0 hSw; clear hSw; go_simp); first | done | with_reducible rfl); (try simp only [Act.put, List.getElem_toArray, List.getElem_cons_succ, List.getElem_cons_zero, List.setIfInBounds_toArray, List.set_cons_zero, List.set_cons_succ])
          refine wpAnyH_take (i := 7 ) (v := ?_) rfl (by kernel_rfl) (by kernel_rfl) (by kernel_rfl) (fun _ _ _ h => h) (Or.inl ⟨by rfl, ?_⟩) (by assumption) ?_; rotate_left; (· (intro w0 hSw; clear hSw; go_simp); first | done | with_reducible rfl); (try simp only [Act.put, List.getElem_toArray, List.getElem_cons_succ, List.getElem_cons_zero, List.setIfInBounds_toArray, List.set_cons_zero, List.set_cons_succ])
          refine wpAnyH_take (i := 8) (v := _) rfl (by kernel_rfl) (by kernel_rfl) (by kernel_rfl) (fun _ _ _ h => h) (yieldsIf_load_mid (by rfl) _ _ rfl _ _ rfl [.int .i64 b.thick.lo, .int .i64 b.thick.hi, .int .i64 b.depth.lo, .int .i64 b.depth.hi, .int .i64 b.shift.lo, .int .i64 b.shift.hi, .int .i64 b.pitch.lo, .int .i64 b.pitch.hi] _ (fun w0 h0 => h0.2.2) (by rfl) (by rfl) (by kernel_rfl)) (by assumption) ?_
          (try simp only [Act.put, List.getElem_toArray, List.getElem_cons_succ, List.getElem_cons_zero, List.setIfInBounds_toArray, List.set_cons_zero, List.set_cons_succ])
          refine wpAnyH_take (i := 9 ) (v := ?_) rfl (by kernel_rfl) (by kernel_rfl) (by kernel_rfl) (fun _ _ _ h => h) (Or.inl ⟨by rfl, ?_⟩) (by assumption) ?_; rotate_left; (· (intro w0 hSw; clear hSw; go_simp); first | done | with_reducible rfl); (try simp only [Act.put, List.getElem_toArray, List.getElem_cons_succ, List.getElem_cons_zero, List.setIfInBounds_toArray, List.set_cons_zero, List.set_cons_succ])
          refine wpAnyH_ready (rs := [10]) (by kernel_rfl) (by simp) ?_
          refine AllReadyH.cons (by simp only [List.getElem?_toArray, List.getElem?_cons_succ, List.getElem?_cons_zero]; rfl) (fun K hK => ?_) AllReadyH.nil
          go_simp
          have hbz : Below V0.heap.size V0 (V0.alloc (.cells #[.int .i64 0, .int .i64 0, .int .i64 0, .int .i64 0, .int .i64 0, .int .i64 0, .int .i64 0, .int .i64 0, .int .i64 0, .int .i64 0, .int .i64 0, .int .i64 0, .int .i64 0, .int .i64 0, .int .i64 0, .int .i64 0, .int .i64 0, .int .i64 0, .int .i64 0, .int .i64 0, .int .i64 0, .int .i64 0, .int .i64 0, .int .i64 0, .int .i64 0, .int .i64 0] 95)) := (Below.refl _ _).alloc (Nat.le_refl _) _
          have HSZ := Lib.hid (HS.out.call hbz)
          clear hbz
          refine hK.out _ _ ⟨HSZ.out.kj, HRA.out _ HSZ.out.hb, HRB.out _ HSZ.out.hb⟩ (fun hH1 => ?_)
          clear hK K
          try simp only [List.setIfInBounds_toArray, List.set_cons_zero, List.set_cons_succ]
          refine wpAnyH_ready (rs := [11]) (by kernel_rfl) (by simp) ?_
          refine AllReadyH.cons (by simp only [List.getElem?_toArray, List.getElem?_cons_succ, List.getElem?_cons_zero]; rfl) (fun K hK => ?_) AllReadyH.nil
          rw [if_pos (by rfl)]
          refine wp_store_row 95 (.tmp 12) (.tmp 36) (by rfl) V0.heap.size #[.int .i64 j.glue.lo, .int .i64 j.glue.hi, .int .i64 j.lead.lo, .int .i64 j.lead.hi, .int .i64 j.side.lo, .int .i64 j.side.hi, .int .i64 j.height.lo, .int .i64 j.height.hi, .int .i64 j.play, .int .i64 j.grooves, .int .i64 a.thick.lo, .int .i64 a.thick.hi, .int .i64 a.depth.lo, .int .i64 a.depth.hi, .int .i64 a.shift.lo, .int .i64 a.shift.hi, .int .i64 a.pitch.lo, .int .i64 a.pitch.hi, .int .i64 b.thick.lo, .int .i64 b.thick.hi, .int .i64 b.depth.lo, .int .i64 b.depth.hi, .int .i64 b.shift.lo, .int .i64 b.shift.hi, .int .i64 b.pitch.lo, .int .i64 b.pitch.hi] (by rfl) (by rfl) 95 _ (Blk.new V0 95 #[.int .i64 0, .int .i64 0, .int .i64 0, .int .i64 0, .int .i64 0, .int .i64 0, .int .i64 0, .int .i64 0, .int .i64 0, .int .i64 0, .int .i64 0, .int .i64 0, .int .i64 0, .int .i64 0, .int .i64 0, .int .i64 0, .int .i64 0, .int .i64 0, .int .i64 0, .int .i64 0, .int .i64 0, .int .i64 0, .int .i64 0, .int .i64 0, .int .i64 0, .int .i64 0]) (by kernel_rfl) (by rfl) (by kernel_rfl) ?_
          have hbz2 : Below V0.heap.size V0 ((V0.alloc (.cells #[.int .i64 0, .int .i64 0, .int .i64 0, .int .i64 0, .int .i64 0, .int .i64 0, .int .i64 0, .int .i64 0, .int .i64 0, .int .i64 0, .int .i64 0, .int .i64 0, .int .i64 0, .int .i64 0, .int .i64 0, .int .i64 0, .int .i64 0, .int .i64 0, .int .i64 0, .int .i64 0, .int .i64 0, .int .i64 0, .int .i64 0, .int .i64 0, .int .i64 0, .int .i64 0] 95)).setRow V0.heap.size #[.int .i64 j.glue.lo, .int .i64 j.glue.hi, .int .i64 j.lead.lo, .int .i64 j.lead.hi, .int .i64 j.side.lo, .int .i64 j.side.hi, .int .i64 j.height.lo, .int .i64 j.height.hi, .int .i64 j.play, .int .i64 j.grooves, .int .i64 a.thick.lo, .int .i64 a.thick.hi, .int .i64 a.depth.lo, .int .i64 a.depth.hi, .int .i64 a.shift.lo, .int .i64 a.shift.hi, .int .i64 a.pitch.lo, .int .i64 a.pitch.hi, .int .i64 b.thick.lo, .int .i64 b.thick.hi, .int .i64 b.depth.lo, .int .i64 b.depth.hi, .int .i64 b.shift.lo, .int .i64 b.shift.hi, .int .i64 b.pitch.lo, .int .i64 b.pitch.hi]) := below_setRow ((Below.refl _ _).alloc (Nat.le_refl _) _) (Nat.le_refl _) _
          have HSY := Lib.hid (HS.out.call hbz2)
          clear hbz2 HSZ
          refine hK.out _ _ ⟨HSY.out.kj, HRA.out _ HSY.out.hb, HRB.out _ HSY.out.hb⟩ (fun hH2 => ?_)
          clear hK K
          try simp only [List.setIfInBounds_toArray, List.set_cons_zero, List.set_cons_succ]
          refine wpAnyH_done (by kernel_rfl) ?_ _
          have K0 := Lib.hid ((Blk.new V0 95 #[.int .i64 0, .int .i64 0, .int .i64 0, .int .i64 0, .int .i64 0, .int .i64 0, .int .i64 0, .int .i64 0, .int .i64 0, .int .i64 0, .int .i64 0, .int .i64 0, .int .i64 0, .int .i64 0, .int .i64 0, .int .i64 0, .int .i64 0, .int .i64 0, .int .i64 0, .int .i64 0, .int .i64 0, .int .i64 0, .int .i64 0, .int .i64 0, .int .i64 0, .int .i64 0]).row #[.int .i64 j.glue.lo, .int .i64 j.glue.hi, .int .i64 j.lead.lo, .int .i64 j.lead.hi, .int .i64 j.side.lo, .int .i64 j.side.hi, .int .i64 j.height.lo, .int .i64 j.height.hi, .int .i64 j.play, .int .i64 j.grooves, .int .i64 a.thick.lo, .int .i64 a.thick.hi, .int .i64 a.depth.lo, .int .i64 a.depth.hi, .int .i64 a.shift.lo, .int .i64 a.shift.hi, .int .i64 a.pitch.lo, .int .i64 a.pitch.hi, .int .i64 b.thick.lo, .int .i64 b.thick.hi, .int .i64 b.depth.lo, .int .i64 b.depth.hi, .int .i64 b.shift.lo, .int .i64 b.shift.hi, .int .i64 b.pitch.lo, .int .i64 b.pitch.hi])
          have hbz : Below V0.heap.size V0 ((V0.alloc (.cells #[.int .i64 0, .int .i64 0, .int .i64 0, .int .i64 0, .int .i64 0, .int .i64 0, .int .i64 0, .int .i64 0, .int .i64 0, .int .i64 0, .int .i64 0, .int .i64 0, .int .i64 0, .int .i64 0, .int .i64 0, .int .i64 0, .int .i64 0, .int .i64 0, .int .i64 0, .int .i64 0, .int .i64 0, .int .i64 0, .int .i64 0, .int .i64 0, .int .i64 0, .int .i64 0] 95)).setRow V0.heap.size #[.int .i64 j.glue.lo, .int .i64 j.glue.hi, .int .i64 j.lead.lo, .int .i64 j.lead.hi, .int .i64 j.side.lo, .int .i64 j.side.hi, .int .i64 j.height.lo, .int .i64 j.height.hi, .int .i64 j.play, .int .i64 j.grooves, .int .i64 a.thick.lo, .int .i64 a.thick.hi, .int .i64 a.depth.lo, .int .i64 a.depth.hi, .int .i64 a.shift.lo, .int .i64 a.shift.hi, .int .i64 a.pitch.lo, .int .i64 a.pitch.hi, .int .i64 b.thick.lo, .int .i64 b.thick.hi, .int .i64 b.depth.lo, .int .i64 b.depth.hi, .int .i64 b.shift.lo, .int .i64 b.shift.hi, .int .i64 b.pitch.lo, .int .i64 b.pitch.hi]) := below_setRow ((Below.refl _ _).alloc (Nat.le_refl _) _) (Nat.le_refl _) _
          replace HS := Lib.hid (HS.out.call hbz)
          clear hbz
          generalize World.setRow (World.alloc V0 _) _ _ = V2 at *
          generalize V0.heap.size = g0 at *
          go_wp2_with (with_reducible refine wpList_load_mid (by with_unfolding_all rfl) 95 _ (by with_unfolding_all rfl) _ _ (by with_unfolding_all rfl) [.int .i64 j.glue.lo, .int .i64 j.glue.hi, .int .i64 j.lead.lo, .int .i64 j.lead.hi, .int .i64 j.side.lo, .int .i64 j.side.hi, .int .i64 j.height.lo, .int .i64 j.height.hi, .int .i64 j.play, .int .i64 j.grooves, .int .i64 a.thick.lo, .int .i64 a.thick.hi, .int .i64 a.depth.lo, .int .i64 a.depth.hi, .int .i64 a.shift.lo, .int .i64 a.shift.hi, .int .i64 a.pitch.lo, .int .i64 a.pitch.hi, .int .i64 b.thick.lo, .int .i64 b.thick.hi, .int .i64 b.depth.lo, .int .i64 b.depth.hi, .int .i64 b.shift.lo, .int .i64 b.shift.hi, .int .i64 b.pitch.lo, .int .i64 b.pitch.hi] _ K0.out.range (by with_unfolding_all rfl) (by with_unfolding_all rfl) (by kernel_rfl) ?_)
          refine (HCL.out _).mono ?_
          rintro e V3 ⟨rfl, hb⟩
          replace HS := Lib.hid (HS.out.call hb)
          replace K0 := Lib.hid (K0.out.below hb K0.out.lt)
          clear hb HCL
          cases hz : alwaysB j a b with
          | false =>
            rw [hz] at HG
            have HG2 : Hid (upto G r (k + 1) = upto G r k) := Lib.hid (upto_none _ _ _ HG.out)
            clear hz HG HLD HBD HLN
            go_wp2_with fail
            go_roundw
            case rel => exact ⟨k + 1, by omega, by go_num, Lib.hid ⟨HS.out.hb, HS.out.kj, by rw [HG2.out]; exact HS.out.km.more (by omega)⟩⟩
            case measure => simp [intOf]; omega
          | true =>
            rw [hz, if_pos rfl] at HG
            clear hz
            go_wp2_with (with_reducible refine wpList_load_mid (by with_unfolding_all rfl) 95 _ (by with_unfolding_all rfl) _ _ (by with_unfolding_all rfl) [.int .i64 j.glue.lo, .int .i64 j.glue.hi, .int .i64 j.lead.lo, .int .i64 j.lead.hi, .int .i64 j.side.lo, .int .i64 j.side.hi, .int .i64 j.height.lo, .int .i64 j.height.hi, .int .i64 j.play, .int .i64 j.grooves, .int .i64 a.thick.lo, .int .i64 a.thick.hi, .int .i64 a.depth.lo, .int .i64 a.depth.hi, .int .i64 a.shift.lo, .int .i64 a.shift.hi, .int .i64 a.pitch.lo, .int .i64 a.pitch.hi, .int .i64 b.thick.lo, .int .i64 b.thick.hi, .int .i64 b.depth.lo, .int .i64 b.depth.hi, .int .i64 b.shift.lo, .int .i64 b.shift.hi, .int .i64 b.pitch.lo, .int .i64 b.pitch.hi] _ K0.out.range (by with_unfolding_all rfl) (by with_unfolding_all rfl) (by kernel_rfl) ?_)
            refine (HLD.out _).mono ?_
            rintro e V4 ⟨gl, hgl, rfl, hrow, hb⟩
            replace HS := Lib.hid (HS.out.call hb)
            have HR := Lib.hid hrow
            have hgz := hrow.lt
            clear hb HLD K0 hrow hgl
            generalize leadsOf j a b = ld at *
            go_wp2_with fail
            go_loopw [13, 43] (fun v i wr => ∃ q : Nat, q ≤ N ∧ i = .int .i64 q ∧ ∃ m : Nat, v = .int .i64 m ∧ Hid (m = (ld.take q).countP (leadIn · lim)) ∧ Hid (GlS w j (upto G r k) (r * 7 + k) wr) ∧ Hid (Below V4.heap.size V4 wr)) (fun _ i _ => N - (intOf i).toNat)
            case atStart => exact ⟨0, Nat.zero_le _, rfl, 0, rfl, Lib.hid (by simp), HS, Lib.hid (Below.refl _ _)⟩
            case round =>
              clear HS
              obtain ⟨q, hq, rfl, m, rfl, HM, HS, HB⟩ := hrel
              by_cases hqt : q < N
              · have hql : q < ld.length := by rw [HLN.out]; exact hqt
                obtain ⟨y0, y1, y2, y3⟩ := (HR.out.low HB.out hgz).at_ q hql
                have HIN := Lib.hid fun W => leadin_any ld[q] lim W (HBD.out q hql) HI.out.2.2.2.1 HI.out.2.2.2.2
                have HCN : Hid ((ld.take (q + 1)).countP (leadIn · lim) = (ld.take q).countP (leadIn · lim) + if leadIn ld[q] lim = true then 1 else 0) := Lib.hid (by rw [List.take_succ_eq_append_getElem hql, List.countP_append]; simp [List.countP_cons])
                have hm10 : m ≤ 10 := by
                  have h1 := HM.out
                  have h2 := List.countP_le_length (p := (leadIn · lim)) (l := ld.take q)
                  rw [List.length_take] at h2
                  omega
                have wm : IntKind.i64.wrap ((m : Int) + 1) = (m : Int) + 1 := IntWalk.i64_in _ ⟨by omega, by omega⟩
                have hq0 : (0 : Int) ≤ q := by omega
                have hq1 : (q : Int) < N := by omega
                generalize ld[q] = lq at *
                have hbl := (Below.refl wr.heap.size wr).alloc (Nat.le_refl _) (.cells #[.int .i64 lq.side.lo, .int .i64 lq.side.hi, .int .i64 lq.height.lo, .int .i64 lq.height.hi] 109)
                replace HS := Lib.hid (HS.out.call hbl)
                replace HB := Lib.hid (HB.out.trans (hbl.mono HB.out.size))
                clear hbl
                go_wp2_with fail
                refine (HIN.out _).mono ?_
                rintro e V5 ⟨rfl, hb⟩
                replace HS := Lib.hid (HS.out.call hb)
                replace HB := Lib.hid (HB.out.trans (hb.mono HB.out.size))
                clear hb HIN y0 y1 y2 y3
                cases hw : leadIn lq lim with
                | true =>
                  rw [hw] at HCN
                  have HM2 : Hid (m + 1 = (ld.take (q + 1)).countP (leadIn · lim)) := Lib.hid (by rw [HCN.out, ← HM.out]; rfl)
                  clear hw HCN HM
                  go_wp2_with fail
                  go_roundw
                  case rel => exact ⟨q + 1, by omega, by go_num, m + 1, by go_num, HM2, HS, HB⟩
                  case measure => simp [intOf]; omega
                | false =>
                  rw [hw] at HCN
                  have HM2 : Hid (m = (ld.take (q + 1)).countP (leadIn · lim)) := Lib.hid (by rw [HCN.out, ← HM.out]; rfl)
                  clear hw HCN HM wm
                  go_wp2_with fail
                  go_roundw
                  case rel => exact ⟨q + 1, by omega, by go_num, m, rfl, HM2, HS, HB⟩
                  case measure => simp [intOf]; omega
              · obtain rfl : N = q := by omega
                rw [List.take_of_length_le (by rw [HLN.out]; exact Nat.le_refl _)] at HM
                have HG2 : Hid (upto G r (k + 1) = fun (i' k' : Int) => if i' = r ∧ k' = k then some (m : Int) else upto G r k i' k') := Lib.hid (upto_some _ _ _ _ (by rw [HG.out, HM.out]))
                obtain ⟨W', hst, hkm, hgr, hsz⟩ := HS.out.km.store (i := (r : Int)) (k := (k : Int)) (by unfold In64; omega) (by unfold In64; omega) (by omega) (m : Int)
                rw [← HG2.out] at hkm
                have HS2 := Lib.hid (HS.out.store hkm hgr)
                clear hkm hgr hsz HG HG2 HM HR HBD HLN
                go_wp2_with fail
                go_roundw
                case rel => exact ⟨k + 1, by omega, by go_num, HS2⟩
                case measure => simp [intOf]; omega
        · obtain rfl : u.length = k := by omega
          have HG2 : Hid (upto G (r + 1) 0 = upto G r u.length) := Lib.hid (upto_row _ _ _ (fun i k h => (HGL.out i k h).2))
          have hlt' : ¬ (u.length : Int) < u.length := by omega
          go_wp2_with fail
          go_roundw
          case rel => exact ⟨r + 1, by omega, by go_num, Lib.hid ⟨HS.out.hb, HS.out.kj, by rw [HG2.out]; exact HS.out.km.more (by omega)⟩⟩
          case measure => simp [intOf]; omega
    · obtain rfl : l.length = r := by omega
      have hlt' : ¬ (l.length : Int) < l.length := by omega
      have HG2 : Hid (upto G l.length 0 = G) := Lib.hid (upto_all _ _ (fun i k h => (HGL.out i k h).1.2))
      go_wp2_with fail
      exact bodyPost_ret (v := .map (some (w.heap.size + 1))) (by simp [results, Try.results38, go_sem]) rfl ⟨_, by omega, rfl, by have h9 := HS.out.km; rw [HG2.out] at h9; exact h9.more (by omega), HS.out.hb⟩
end Go.Proofs.Ytfpfafijockfnaa