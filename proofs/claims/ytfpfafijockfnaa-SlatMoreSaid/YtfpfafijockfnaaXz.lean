/- Tune: the setting with which most leads are within a limit. -/
import Derived.Test.YtfpfafijockfnaaXy
import Derived.Test.YtfpfafijockfnaaSy
namespace Go.Proofs.Ytfpfafijockfnaa
open Go.RowKit Go.Shelf

/-- The cells of leads. -/
def leadsV : List Lead → List Value
  | [] => []
  | l :: r => .int .i64 l.side.lo :: .int .i64 l.side.hi :: .int .i64 l.height.lo :: .int .i64 l.height.hi :: leadsV r
theorem leadsV_len : ∀ l, (leadsV l).length = l.length * 4
  | [] => rfl
  | _ :: l => by simp only [leadsV, List.length_cons, leadsV_len l]; omega
theorem leadsV_append : ∀ a b, leadsV (a ++ b) = leadsV a ++ leadsV b
  | [], _ => rfl
  | s :: a, b => by simp only [List.cons_append, leadsV, leadsV_append a b]
theorem leadsV_one : ∀ (l : List Lead), ∀ u ∈ leadsV l, u.oneCell' = true
  | [], u, h => by simp [leadsV] at h
  | l :: r, u, h => by
    simp only [leadsV, List.mem_cons] at h
    rcases h with rfl | rfl | rfl | rfl | h
    · rfl
    · rfl
    · rfl
    · rfl
    · exact leadsV_one r u h
theorem leadsV_at : ∀ (l : List Lead) (i : Nat) (h : i < l.length), (leadsV l)[i * 4]? = some (.int .i64 l[i].side.lo) ∧ (leadsV l)[i * 4 + 1]? = some (.int .i64 l[i].side.hi) ∧ (leadsV l)[i * 4 + 2]? = some (.int .i64 l[i].height.lo) ∧ (leadsV l)[i * 4 + 3]? = some (.int .i64 l[i].height.hi)
  | s :: l, 0, _ => ⟨rfl, rfl, rfl, rfl⟩
  | s :: l, i + 1, h => by
    have := leadsV_at l i (by simpa using h)
    rw [show (i + 1) * 4 = i * 4 + 4 by omega]
    exact this
theorem ldrow_news {W : World} {g : Nat} {l : List Lead} (h : LdRow W g l) : ∀ (j : Nat) u, (leadsV l)[j]? = some u → W.cell? ((⟨g, 0, none⟩ : Addr).add j) = some u := fun j u hj => by
  rw [Addr.add_mid, Nat.zero_add]
  have hlt : j < (leadsV l).length := (List.getElem?_eq_some_iff.1 hj).1
  rw [leadsV_len] at hlt
  have hi : j / 4 < l.length := by omega
  obtain ⟨a0, a1, a2, a3⟩ := h.at_ (j / 4) hi
  obtain ⟨b0, b1, b2, b3⟩ := leadsV_at l (j / 4) hi
  have hr : j = j / 4 * 4 ∨ j = j / 4 * 4 + 1 ∨ j = j / 4 * 4 + 2 ∨ j = j / 4 * 4 + 3 := by omega
  generalize j / 4 = i at *
  rcases hr with rfl | rfl | rfl | rfl
  · rw [b0] at hj; cases hj; exact a0
  · rw [b1] at hj; cases hj; exact a1
  · rw [b2] at hj; cases hj; exact a2
  · rw [b3] at hj; cases hj; exact a3
theorem leadInfo : (Try.prog.info? 109).map (fun i => (i.zero, i.size, i.bytes)) = some (some (.agg #[.int .i64 0, .int .i64 0, .int .i64 0, .int .i64 0]), 4, 32) := by kernel_rfl
theorem und_leads : Try.prog.underlying 93 = some (.slice 109) := by kernel_rfl
theorem lead_own {W : World} {B : Nat} {A : Option Addr} {n c : Nat} {l : List Lead} (h : W.ownsRow B 109 4 (.slice A n c) n (leadsV l)) (hn : n = l.length) : LeadSl W W.heap.size A l := fun hne => by
  have hpos := List.length_pos_iff.2 hne
  obtain ⟨h1, ⟨-, h2⟩ | ⟨g, cap, cur, hv, h3, h4, h5, h6, h7, h8⟩⟩ := h
  · omega
  · rw [Value.slice.injEq] at hv
    have hg := (Array.getElem?_eq_some_iff.1 h4).1
    refine ⟨g, hv.1, hg, hg, fun i hi => ?_, fun j => Blk.frozen (cs := cur) (t := 109) h4 j⟩
    have key : ∀ j, j < n * 4 → ∀ u, (leadsV l)[j]? = some u → W.cell? ⟨g, j, none⟩ = some u := fun j hj u hu => by
      rw [cell_of_row W g j cur 109 (0, 0) h4]
      rw [← h8, List.getElem?_take, if_pos hj] at hu
      simpa using hu
    obtain ⟨b0, b1, b2, b3⟩ := leadsV_at l i hi
    exact ⟨key _ (by omega) _ b0, key _ (by omega) _ b1, key _ (by omega) _ b2, key _ (by omega) _ b3⟩
/-- Sandwiches: whether all always close, and all their leads. -/
def allB (j : Jig) (l u : List Slat) : Bool := (l.zip u).all fun p => alwaysB j p.1 p.2
def allL (j : Jig) (l u : List Slat) : List Lead := (l.zip u).flatMap fun p => leadsOf j p.1 p.2
def tuneE (j : Jig) (l u : List Slat) (lim : Int) : Int := slErr j l u [lim] (decide (l.length = u.length))
def tuneR (j : Jig) (l u : List Slat) (lim : Int) : Setg × Int × Int :=
  if tuneE j l u lim = 0 then (if allB j l u = true then ((tuneS (allL j l u) lim).1, (tuneS (allL j l u) lim).2, 0) else (zS, 0, 6)) else (zS, 0, tuneE j l u lim)
theorem lead_far5 {j : Jig} {a b : Slat} (hj : JigIn j) (ha : SlatIn a) (hb : SlatIn b) : ∀ x ∈ leadsOf j a b, LeadFar x := fun x hx => by
  obtain ⟨i, hi, rfl⟩ := List.mem_iff_getElem.1 hx
  rw [leads_len] at hi
  have h1 := hj.n1
  have h2 := hj.n0
  rw [leads_at]
  have h3 := side_bd hj ha hb (i := (i : Int)) (by omega) (by omega)
  have h4 := height_bd hj ha hb
  have h5 := lead_bd hj ha hb (i := (i : Int)) (by omega) (by omega)
  unfold LeadBd at h5
  unfold LeadFar SpanBd
  unfold SpanBd at h3 h4
  have e1 : (leadOf j a b (i : Int)).side = sideS j a b i := rfl
  have e2 : (leadOf j a b (i : Int)).height = heightS j a b := rfl
  have h6 := h5.1.2
  have h7 := h5.2.2
  rw [e1] at h6 ⊢
  rw [e2] at h7 ⊢
  omega
theorem slats_range {W : World} {b off : Nat} {l : List Slat} (h : SlatsAt W b off l) {i : Nat} (hi : i < l.length) {s : Slat} (hs : l[i] = s) : W.rangeAt b (off + i * 8) [.int .i64 s.thick.lo, .int .i64 s.thick.hi, .int .i64 s.depth.lo, .int .i64 s.depth.hi, .int .i64 s.shift.lo, .int .i64 s.shift.hi, .int .i64 s.pitch.lo, .int .i64 s.pitch.hi] := fun j v hv => by
  subst hs
  obtain ⟨h0, h1, h2, h3, h4, h5, h6, h7⟩ := h i hi
  have hj : j < 8 := (List.getElem?_eq_some_iff.1 hv).1
  match j, hj with
  | 0, _ => cases hv; exact h0
  | 1, _ => cases hv; exact h1
  | 2, _ => cases hv; exact h2
  | 3, _ => cases hv; exact h3
  | 4, _ => cases hv; exact h4
  | 5, _ => cases hv; exact h5
  | 6, _ => cases hv; exact h6
  | 7, _ => cases hv; exact h7
theorem range_low {W W' : World} {b o B : Nat} {cs : List Value} (h : W.rangeAt b o cs) (hb : Below B W W') (hlt : b < B) : W'.rangeAt b o cs := fun j v hv => (hb.cell (p := ⟨b, _, none⟩) hlt).trans (h j v hv)
structure TuS (w : World) (j : Jig) (W : World) : Prop where
  hb : Below w.heap.size w W
  kj : Blk W w.heap.size 25 #[.int .i64 j.glue.lo, .int .i64 j.glue.hi, .int .i64 j.lead.lo, .int .i64 j.lead.hi, .int .i64 j.side.lo, .int .i64 j.side.hi, .int .i64 j.height.lo, .int .i64 j.height.hi, .int .i64 j.play, .int .i64 j.grooves]
theorem TuS.call {w : World} {j : Jig} {W W' : World} (h : TuS w j W) (hb : Below W.heap.size W W') : TuS w j W' := ⟨h.hb.trans (hb.mono h.hb.size), h.kj.below hb h.kj.lt⟩
def RetTu (r : Setg × Int × Int) (w : World) (e : Ending) (w' : World) : Prop := e = .returned (.tuple #[.int .i64 r.1.side, .int .i64 r.1.height, .int .i64 r.2.1, .int .i64 r.2.2]) ∧ Below w.heap.size w w'
theorem allB_take (j : Jig) (p : List (Slat × Slat)) {k : Nat} (hk : k < p.length) : ((p.take (k + 1)).all fun p => alwaysB j p.1 p.2) = (((p.take k).all fun p => alwaysB j p.1 p.2) && alwaysB j p[k].1 p[k].2) := by
  rw [List.take_succ_eq_append_getElem hk, List.all_append]; simp
theorem allL_take (j : Jig) (p : List (Slat × Slat)) {k : Nat} (hk : k < p.length) : (p.take (k + 1)).flatMap (fun p => leadsOf j p.1 p.2) = (p.take k).flatMap (fun p => leadsOf j p.1 p.2) ++ leadsOf j p[k].1 p[k].2 := by
  rw [List.take_succ_eq_append_getElem hk, List.flatMap_append]; simp
theorem flat_len (j : Jig) (N : Nat) (hN : j.grooves.toNat = N) : ∀ (p : List (Slat × Slat)), (p.flatMap (fun p => leadsOf j p.1 p.2)).length = p.length * N
  | [] => by simp
  | x :: p => by
    rw [List.flatMap_cons, List.length_append, leads_len, hN, flat_len j N hN p, List.length_cons, Nat.add_mul]
    omega
theorem one_lim {W : World} {g : Nat} {x : Int} (h : Blk W g 3 #[.int .i64 x]) : IntSl W W.heap.size (some ⟨g, 0, none⟩) [x] := fun _ => ⟨g, 0, rfl, h.lt, fun i hi => by
  obtain rfl : i = 0 := by simp at hi; omega
  exact h.cell 0⟩
set_option maxRecDepth 100000 in
set_option maxHeartbeats 8000000 in
theorem tuneW_any (w : World) (A B : Option Addr) (ca cb : Nat) (j : Jig) (l u : List Slat) (lim : Int) (h1 : l.length ≤ 9223372036854775807) (h2 : u.length ≤ 9223372036854775807) (hA : SlatSl w w.heap.size A l) (hB : SlatSl w w.heap.size B u) :
    Calls Try.prog 15 #[.agg #[.int .i64 j.glue.lo, .int .i64 j.glue.hi, .int .i64 j.lead.lo, .int .i64 j.lead.hi, .int .i64 j.side.lo, .int .i64 j.side.hi, .int .i64 j.height.lo, .int .i64 j.height.hi, .int .i64 j.play, .int .i64 j.grooves], .slice A l.length ca, .slice B u.length cb, .int .i64 lim] w (RetTu (tuneR j l u lim) w) := by
  obtain ⟨o, ho⟩ : ∃ o, ((l.length : Int) == u.length) = o := ⟨_, rfl⟩
  have ho2 : (l.length == u.length) = o := by rw [← ho, Bool.eq_iff_iff]; simp; omega
  have hod : decide (l.length = u.length) = o := by rw [← ho2, Bool.eq_iff_iff]; simp
  have HS : Hid (TuS w j (w.alloc (.cells #[.int .i64 j.glue.lo, .int .i64 j.glue.hi, .int .i64 j.lead.lo, .int .i64 j.lead.hi, .int .i64 j.side.lo, .int .i64 j.side.hi, .int .i64 j.height.lo, .int .i64 j.height.hi, .int .i64 j.play, .int .i64 j.grooves] 25))) := Lib.hid ⟨(Below.refl _ _).alloc (Nat.le_refl _) _, Blk.new _ _ _⟩
  have HFE : Hid (∀ W, TuS w j W → ∀ g, Blk W g 3 #[.int .i64 lim] → Calls Try.prog 36 #[.agg #[.int .i64 j.glue.lo, .int .i64 j.glue.hi, .int .i64 j.lead.lo, .int .i64 j.lead.hi, .int .i64 j.side.lo, .int .i64 j.side.hi, .int .i64 j.height.lo, .int .i64 j.height.hi, .int .i64 j.play, .int .i64 j.grooves], .slice A l.length ca, .slice B u.length cb, .slice (some ⟨g, 0, none⟩) 1 1, .bool o] W (Ret (.int .i64 (tuneE j l u lim)) W)) := Lib.hid fun W hW g hg => by
    have h9 := slErr_any W A B (some ⟨g, 0, none⟩) ca cb 1 j l u [lim] o h1 h2 (by simp) (hA.on hW.hb (Nat.le_refl _)) (hB.on hW.hb (Nat.le_refl _)) (one_lim hg)
    unfold tuneE
    rw [hod]
    exact h9
  have HOK : Hid (tuneE j l u lim = 0 → JigIn j ∧ (∀ s ∈ l, SlatIn s) ∧ (∀ s ∈ u, SlatIn s) ∧ l.length ≤ 7 ∧ l.length = u.length ∧ 0 ≤ lim ∧ lim ≤ 1000) := Lib.hid fun h => by
    obtain ⟨k1, ⟨k2, k3⟩, ⟨k4, -, -⟩, k5, k6⟩ := slErr_0 h
    have k7 := lims_in k5 lim (by simp)
    exact ⟨jigIn_of k1, fun s hs => slatIn_of (List.all_eq_true.1 k2 s hs), fun s hs => slatIn_of (List.all_eq_true.1 k3 s hs), k4, of_decide_eq_true k6, k7.1, k7.2⟩
  have HAA := Lib.hid hA
  have HBB := Lib.hid hB
  have hl0 : (0 : Int) ≤ l.length := by omega
  have hl1 : (l.length : Int) ≤ 9223372036854775807 := by omega
  have hu0 : (0 : Int) ≤ u.length := by omega
  have hu1 : (u.length : Int) ≤ 9223372036854775807 := by omega
  have HTR : Hid (tuneR j l u lim = if tuneE j l u lim = 0 then (if allB j l u = true then ((tuneS (allL j l u) lim).1, (tuneS (allL j l u) lim).2, 0) else (zS, 0, 6)) else (zS, 0, tuneE j l u lim)) := Lib.hid rfl
  generalize tuneR j l u lim = tr at HTR ⊢
  generalize tuneE j l u lim = te at HFE HOK HTR
  clear hA hB h1 h2 hod
  have KJ := Lib.hid HS.out.kj
  go_enter Try.func15, Try.ntmps15
  go_wp2_with (with_reducible refine wpList_load_mid (by with_unfolding_all rfl) 25 _ (by with_unfolding_all rfl) _ _ (by with_unfolding_all rfl) [.int .i64 j.glue.lo, .int .i64 j.glue.hi, .int .i64 j.lead.lo, .int .i64 j.lead.hi, .int .i64 j.side.lo, .int .i64 j.side.hi, .int .i64 j.height.lo, .int .i64 j.height.hi, .int .i64 j.play, .int .i64 j.grooves] _ KJ.out.range (by with_unfolding_all rfl) (by with_unfolding_all rfl) (by kernel_rfl) ?_)
  have hb1 := (Below.refl (w.alloc (.cells #[.int .i64 j.glue.lo, .int .i64 j.glue.hi, .int .i64 j.lead.lo, .int .i64 j.lead.hi, .int .i64 j.side.lo, .int .i64 j.side.hi, .int .i64 j.height.lo, .int .i64 j.height.hi, .int .i64 j.play, .int .i64 j.grooves] 25)).heap.size (w.alloc (.cells #[.int .i64 j.glue.lo, .int .i64 j.glue.hi, .int .i64 j.lead.lo, .int .i64 j.lead.hi, .int .i64 j.side.lo, .int .i64 j.side.hi, .int .i64 j.height.lo, .int .i64 j.height.hi, .int .i64 j.play, .int .i64 j.grooves] 25))).alloc (Nat.le_refl _) (.cells #[.int .i64 lim] 3)
  replace HS := Lib.hid (HS.out.call hb1)
  refine (HFE.out _ HS.out (w.heap.size + 1) (blk5 _ _ (by simp) rfl)).mono ?_
  rintro e W1 ⟨rfl, hb⟩
  replace HS := Lib.hid (HS.out.call hb)
  clear hb hb1 KJ HFE ho ho2
  by_cases h0 : te = 0
  · obtain ⟨hji, hli, hui, hl7, hlu, hlm0, hlm1⟩ := HOK.out h0
    have HI := Lib.hid (And.intro hji (And.intro hli (And.intro hui (And.intro hlm0 hlm1))))
    have HLU := Lib.hid hlu
    subst h0
    replace HTR : Hid (tr = (if allB j l u = true then ((tuneS (allL j l u) lim).1, (tuneS (allL j l u) lim).2, 0) else (zS, 0, 6))) := HTR
    obtain ⟨N, hN⟩ := Int.eq_ofNat_of_zero_le (show 0 ≤ j.grooves by have := hji.n0; omega)
    have HN := Lib.hid hN
    have hN10 : N ≤ 10 := by have := hji.n1; omega
    have hN1 : 1 ≤ N := by have := hji.n0; omega
    obtain ⟨i0, hi, hz0, hz1, hz2⟩ := info_parts leadInfo
    have HZP : Hid ((l.zip u).length = l.length) := Lib.hid (by rw [List.length_zip, ← hlu]; omega)
    clear hji hli hui hlu hlm0 hlm1 hN HOK
    go_wp2_with fail
    go_loopw [33, 13] (fun i v wr => ∃ k : Nat, k ≤ l.length ∧ i = .int .i64 k ∧ ∃ AX cX NX, v = .slice AX NX cX ∧ Hid (NX = (((l.zip u).take k).flatMap (fun p => leadsOf j p.1 p.2)).length) ∧ Hid (TuS w j wr) ∧ Hid (wr.ownsRow (w.heap.size + 1) 109 4 (.slice AX NX cX) NX (leadsV (((l.zip u).take k).flatMap (fun p => leadsOf j p.1 p.2)))) ∧ Hid (((l.zip u).take k).all (fun p => alwaysB j p.1 p.2) = true)) (fun i _ _ => l.length - (intOf i).toNat)
    case atStart => exact ⟨0, Nat.zero_le _, rfl, none, 0, 0, rfl, Lib.hid (by simp), HS, Lib.hid (by simpa [leadsV] using World.ownsRow_nil _ _ _ _), Lib.hid (by simp)⟩
    case round =>
      clear HS
      obtain ⟨k, hk, rfl, AX, cX, NX, rfl, HNX, HS, HOW, HAL⟩ := hrel
      by_cases hlt : k < l.length
      · have hku : k < u.length := by have := HLU.out; omega
        have hkz : k < (l.zip u).length := by rw [HZP.out]; exact hlt
        obtain ⟨bA, oA, rfl, hbA, hsA⟩ := HAA.out (by intro e; rw [e] at hlt; simp at hlt)
        obtain ⟨bB, oB, rfl, hbB, hsB⟩ := HBB.out (by intro e; rw [e] at hku; simp at hku)
        have HLT := Lib.hid (allL_take j (l.zip u) hkz)
        have HBT := Lib.hid (allB_take j (l.zip u) hkz)
        have hzk : (l.zip u)[k] = (l[k], u[k]) := List.getElem_zip
        rw [hzk] at HLT HBT
        have hka := HI.out.2.1 l[k] (List.getElem_mem hlt)
        have hkb := HI.out.2.2.1 u[k] (List.getElem_mem hku)
        have HRA := Lib.hid fun V (hV : TuS w j V) => range_low (slats_range hsA hlt rfl) hV.hb hbA
        have HRB := Lib.hid fun V (hV : TuS w j V) => range_low (slats_range hsB hku rfl) hV.hb hbB
        have HNF : Hid (alwaysB j l[k] u[k] = false → allB j l u = false) := Lib.hid fun h => by
          unfold allB
          exact all_no (l := l.zip u) hkz (by rw [hzk]; exact h)
        generalize l[k] = a at *
        generalize u[k] = b at *
        have HCL : Hid (∀ W, Calls Try.prog 44 #[.agg #[.int .i64 j.glue.lo, .int .i64 j.glue.hi, .int .i64 j.lead.lo, .int .i64 j.lead.hi, .int .i64 j.side.lo, .int .i64 j.side.hi, .int .i64 j.height.lo, .int .i64 j.height.hi, .int .i64 j.play, .int .i64 j.grooves, .int .i64 a.thick.lo, .int .i64 a.thick.hi, .int .i64 a.depth.lo, .int .i64 a.depth.hi, .int .i64 a.shift.lo, .int .i64 a.shift.hi, .int .i64 a.pitch.lo, .int .i64 a.pitch.hi, .int .i64 b.thick.lo, .int .i64 b.thick.hi, .int .i64 b.depth.lo, .int .i64 b.depth.hi, .int .i64 b.shift.lo, .int .i64 b.shift.hi, .int .i64 b.pitch.lo, .int .i64 b.pitch.hi], .func (.func 45) #[] #[]] W (Ret (.bool (alwaysB j a b)) W)) := Lib.hid fun W => closes5_any j a b _ insideB W HI.out.1 hka hkb isMet_within
        have HLD : Hid (∀ W, Calls Try.prog 46 #[.agg #[.int .i64 j.glue.lo, .int .i64 j.glue.hi, .int .i64 j.lead.lo, .int .i64 j.lead.hi, .int .i64 j.side.lo, .int .i64 j.side.hi, .int .i64 j.height.lo, .int .i64 j.height.hi, .int .i64 j.play, .int .i64 j.grooves, .int .i64 a.thick.lo, .int .i64 a.thick.hi, .int .i64 a.depth.lo, .int .i64 a.depth.hi, .int .i64 a.shift.lo, .int .i64 a.shift.hi, .int .i64 a.pitch.lo, .int .i64 a.pitch.hi, .int .i64 b.thick.lo, .int .i64 b.thick.hi, .int .i64 b.depth.lo, .int .i64 b.depth.hi, .int .i64 b.shift.lo, .int .i64 b.shift.hi, .int .i64 b.pitch.lo, .int .i64 b.pitch.hi]] W (RetLeads (leadsOf j a b) N W)) := Lib.hid fun W => leads5_any j a b N W HI.out.1 hka hkb HN.out
        have HLN : Hid ((leadsOf j a b).length = N) := Lib.hid (by rw [leads_len, HN.out]; simp)
        have hk0 : (0 : Int) ≤ k := by omega
        have hk1 : (k : Int) < l.length := by omega
        have hk2 : (k : Int) < u.length := by omega
        have hNX : NX ≤ 70 := by
          rw [HNX.out, flat_len j N (by rw [HN.out]; simp), List.length_take, HZP.out]
          have := Nat.mul_le_mul (show min k l.length ≤ 7 by omega) hN10
          omega
        clear hzk hka hkb hsA hsB hbA hbB hkz
        go_upto_region 8 with fail
        replace HS := Lib.hid (HS.out.call (Below.refl _ _).drew)
        replace HOW := Lib.hid (own_call8 HOW.out (Below.refl _ _).drew)
        refine wp_region_held_drew (S := fun W => Blk W w.heap.size 25 #[.int .i64 j.glue.lo, .int .i64 j.glue.hi, .int .i64 j.lead.lo, .int .i64 j.lead.hi, .int .i64 j.side.lo, .int .i64 j.side.hi, .int .i64 j.height.lo, .int .i64 j.height.hi, .int .i64 j.play, .int .i64 j.grooves] ∧ W.rangeAt bA (oA + k * 8) [.int .i64 a.thick.lo, .int .i64 a.thick.hi, .int .i64 a.depth.lo, .int .i64 a.depth.hi, .int .i64 a.shift.lo, .int .i64 a.shift.hi, .int .i64 a.pitch.lo, .int .i64 a.pitch.hi] ∧ W.rangeAt bB (oB + k * 8) [.int .i64 b.thick.lo, .int .i64 b.thick.hi, .int .i64 b.depth.lo, .int .i64 b.depth.hi, .int .i64 b.shift.lo, .int .i64 b.shift.hi, .int .i64 b.pitch.lo, .int .i64 b.pitch.hi]) (by kernel_rfl) ⟨HS.out.kj, HRA.out _ HS.out, HRB.out _ HS.out⟩ (fun hH0 => ?_)
        generalize World.drew _ = V0 at *
        simp only [List.size_toArray, List.length_cons, List.length_nil, Nat.reduceAdd, Array.replicate_succ, Array.replicate_zero, List.push_toArray, List.nil_append, List.cons_append]
        refine wpAnyH_take (i := 0) (v := _) rfl (by kernel_rfl) (by kernel_rfl) (by kernel_rfl) (fun _ _ _ h => h) (yieldsIf_load_mid (by rfl) _ _ rfl _ _ rfl [.int .i64 j.glue.lo, .int .i64 j.glue.hi, .int .i64 j.lead.lo, .int .i64 j.lead.hi, .int .i64 j.side.lo, .int .i64 j.side.hi, .int .i64 j.height.lo, .int .i64 j.height.hi, .int .i64 j.play, .int .i64 j.grooves] _ (fun w0 h0 => h0.1.range) (by rfl) (by rfl) (by kernel_rfl)) (by assumption) ?_
        (try simp only [Act.put, List.getElem_toArray, List.getElem_cons_zero, List.setIfInBounds_toArray, List.set_cons_zero, List.set_cons_succ])
        refine wpAnyH_take (i := 1 ) (v := ?_) rfl (by kernel_rfl) (by kernel_rfl) (by kernel_rfl) (fun _ _ _ h => h) (Or.inl ⟨by rfl, ?_⟩) (by assumption) ?_; rotate_left; (· (intro w0 hSw; clear hSw; go_simp); first | done | with_reducible rfl); (try simp only [Act.put, List.getElem_toArray, List.getElem_cons_succ, List.getElem_cons_zero, List.setIfInBounds_toArray, List.set_cons_zero, List.set_cons_succ])
        refine wpAnyH_take (i := 2 ) (v := ?_) rfl (by kernel_rfl) (by kernel_rfl) (by kernel_rfl) (fun _ _ _ h => h) (Or.inl ⟨by rfl, ?_⟩) (by assumption) ?_; rotate_left; (· (intro w0 hSw; clear hSw; go_simp); first | done | with_reducible rfl); (try simp only [Act.put, List.getElem_toArray, List.getElem_cons_succ, List.getElem_cons_zero, List.setIfInBounds_toArray, List.set_cons_zero, List.set_cons_succ])
        refine wpAnyH_take (i := 3 ) (v := ?_) rfl (by kernel_rfl) (by kernel_rfl) (by kernel_rfl) (fun _ _ _ h => h) (Or.inl ⟨by rfl, ?_⟩) (by assumption) ?_; rotate_left; (· (intro w0 hSw; clear hSw; go_simp); first | done | with_reducible rfl); (try simp only [Act.put, List.getElem_toArray, List.getElem_cons_succ, List.getElem_cons_zero, List.setIfInBounds_toArray, List.set_cons_zero, List.set_cons_succ])
        refine wpAnyH_take (i := 4) (v := _) rfl (by kernel_rfl) (by kernel_rfl) (by kernel_rfl) (fun _ _ _ h => h) (yieldsIf_load_mid (by rfl) _ _ rfl _ _ rfl [.int .i64 a.thick.lo, .int .i64 a.thick.hi, .int .i64 a.depth.lo, .int .i64 a.depth.hi, .int .i64 a.shift.lo, .int .i64 a.shift.hi, .int .i64 a.pitch.lo, .int .i64 a.pitch.hi] _ (fun w0 h0 => h0.2.1) (by rfl) (by rfl) (by kernel_rfl)) (by assumption) ?_
        (try simp only [Act.put, List.getElem_toArray, List.getElem_cons_succ, List.getElem_cons_zero, List.setIfInBounds_toArray, List.set_cons_zero, List.set_cons_succ])
        refine wpAnyH_take (i := 5 ) (v := ?_) rfl (by kernel_rfl) (by kernel_rfl) (by kernel_rfl) (fun _ _ _ h => h) (Or.inl ⟨by rfl, ?_⟩) (by assumption) ?_; rotate_left; (· (intro w0 hSw; clear hSw; go_simp); first | done | with_reducible rfl); (try simp only [Act.put, List.getElem_toArray, List.getElem_cons_succ, List.getElem_cons_zero, List.setIfInBounds_toArray, List.set_cons_zero, List.set_cons_succ])
        refine wpAnyH_take (i := 6 ) (v := ?_) rfl (by kernel_rfl) (by kernel_rfl) (by kernel_rfl) (fun _ _ _ h => h) (Or.inl ⟨by rfl, ?_⟩) (by assumption) ?_; rotate_left; (· (intro w0 hSw; clear hSw; go_simp); first | done | with_reducible rfl); (try simp only [Act.put, List.getElem_toArray, List.getElem_cons_succ, List.getElem_cons_zero, List.setIfInBounds_toArray, List.set_cons_zero, List.set_cons_succ])
        refine wpAnyH_take (i := 7 ) (v := ?_) rfl (by kernel_rfl) (by kernel_rfl) (by kernel_rfl) (fun _ _ _ h => h) (Or.inl ⟨by rfl, ?_⟩) (by assumption) ?_; rotate_left; (· (intro w0 hSw; clear hSw; go_simp); first | done | with_reducible rfl); (try simp only [Act.put, List.getElem_toArray, List.getElem_cons_succ, List.getElem_cons_zero, List.setIfInBounds_toArray, List.set_cons_zero, List.set_cons_succ])
        refine wpAnyH_take (i := 8) (v := _) rfl (by kernel_rfl) (by kernel_rfl) (by kernel_rfl) (fun _ _ _ h => h) (yieldsIf_load_mid (by rfl) _ _ rfl _ _ rfl [.int .i64 b.thick.lo, .int .i64 b.thick.hi, .int .i64 b.depth.lo, .int .i64 b.depth.hi, .int .i64 b.shift.lo, .int .i64 b.shift.hi, .int .i64 b.pitch.lo, .int .i64 b.pitch.hi] _ (fun w0 h0 => h0.2.2) (by rfl) (by rfl) (by kernel_rfl)) (by assumption) ?_
        (try simp only [Act.put, List.getElem_toArray, List.getElem_cons_succ, List.getElem_cons_zero, List.setIfInBounds_toArray, List.set_cons_zero, List.set_cons_succ])
        refine wpAnyH_take (i := 9 ) (v := ?_) rfl (by kernel_rfl) (by kernel_rfl) (by kernel_rfl) (fun _ _ _ h => h) (Or.inl ⟨by rfl, ?_⟩) (by assumption) ?_; rotate_left; (· (intro w0 hSw; clear hSw; go_simp); first | done | with_reducible rfl); (try simp only [Act.put, List.getElem_toArray, List.getElem_cons_succ, List.getElem_cons_zero, List.setIfInBounds_toArray, List.set_cons_zero, List.set_cons_succ])
        refine wpAnyH_ready (rs := [10]) (by kernel_rfl) (by simp) ?_
        refine AllReadyH.cons (by simp only [List.getElem?_toArray, List.getElem?_cons_succ, List.getElem?_cons_zero]; rfl) (fun K hK => ?_) AllReadyH.nil
        go_simp
        have hbz : Below V0.heap.size V0 (V0.alloc (.cells #[.int .i64 0, .int .i64 0, .int .i64 0, .int .i64 0, .int .i64 0, .int .i64 0, .int .i64 0, .int .i64 0, .int .i64 0, .int .i64 0, .int .i64 0, .int .i64 0, .int .i64 0, .int .i64 0, .int .i64 0, .int .i64 0, .int .i64 0, .int .i64 0, .int .i64 0, .int .i64 0, .int .i64 0, .int .i64 0, .int .i64 0, .int .i64 0, .int .i64 0, .int .i64 0] 95)) := (Below.refl _ _).alloc (Nat.le_refl _) _
        have HSZ := Lib.hid (HS.out.call hbz)
        clear hbz
        refine hK.out _ _ ⟨HSZ.out.kj, HRA.out _ HSZ.out, HRB.out _ HSZ.out⟩ (fun hH1 => ?_)
        clear hK K
        try simp only [List.setIfInBounds_toArray, List.set_cons_zero, List.set_cons_succ]
        refine wpAnyH_ready (rs := [11]) (by kernel_rfl) (by simp) ?_
        refine AllReadyH.cons (by simp only [List.getElem?_toArray, List.getElem?_cons_succ, List.getElem?_cons_zero]; rfl) (fun K hK => ?_) AllReadyH.nil
        rw [if_pos (by rfl)]
        refine wp_store_row 95 (.tmp 15) (.tmp 45) (by rfl) V0.heap.size #[.int .i64 j.glue.lo, .int .i64 j.glue.hi, .int .i64 j.lead.lo, .int .i64 j.lead.hi, .int .i64 j.side.lo, .int .i64 j.side.hi, .int .i64 j.height.lo, .int .i64 j.height.hi, .int .i64 j.play, .int .i64 j.grooves, .int .i64 a.thick.lo, .int .i64 a.thick.hi, .int .i64 a.depth.lo, .int .i64 a.depth.hi, .int .i64 a.shift.lo, .int .i64 a.shift.hi, .int .i64 a.pitch.lo, .int .i64 a.pitch.hi, .int .i64 b.thick.lo, .int .i64 b.thick.hi, .int .i64 b.depth.lo, .int .i64 b.depth.hi, .int .i64 b.shift.lo, .int .i64 b.shift.hi, .int .i64 b.pitch.lo, .int .i64 b.pitch.hi] (by rfl) (by rfl) 95 _ (Blk.new V0 95 #[.int .i64 0, .int .i64 0, .int .i64 0, .int .i64 0, .int .i64 0, .int .i64 0, .int .i64 0, .int .i64 0, .int .i64 0, .int .i64 0, .int .i64 0, .int .i64 0, .int .i64 0, .int .i64 0, .int .i64 0, .int .i64 0, .int .i64 0, .int .i64 0, .int .i64 0, .int .i64 0, .int .i64 0, .int .i64 0, .int .i64 0, .int .i64 0, .int .i64 0, .int .i64 0]) (by kernel_rfl) (by rfl) (by kernel_rfl) ?_
        have hbz2 : Below V0.heap.size V0 ((V0.alloc (.cells #[.int .i64 0, .int .i64 0, .int .i64 0, .int .i64 0, .int .i64 0, .int .i64 0, .int .i64 0, .int .i64 0, .int .i64 0, .int .i64 0, .int .i64 0, .int .i64 0, .int .i64 0, .int .i64 0, .int .i64 0, .int .i64 0, .int .i64 0, .int .i64 0, .int .i64 0, .int .i64 0, .int .i64 0, .int .i64 0, .int .i64 0, .int .i64 0, .int .i64 0, .int .i64 0] 95)).setRow V0.heap.size #[.int .i64 j.glue.lo, .int .i64 j.glue.hi, .int .i64 j.lead.lo, .int .i64 j.lead.hi, .int .i64 j.side.lo, .int .i64 j.side.hi, .int .i64 j.height.lo, .int .i64 j.height.hi, .int .i64 j.play, .int .i64 j.grooves, .int .i64 a.thick.lo, .int .i64 a.thick.hi, .int .i64 a.depth.lo, .int .i64 a.depth.hi, .int .i64 a.shift.lo, .int .i64 a.shift.hi, .int .i64 a.pitch.lo, .int .i64 a.pitch.hi, .int .i64 b.thick.lo, .int .i64 b.thick.hi, .int .i64 b.depth.lo, .int .i64 b.depth.hi, .int .i64 b.shift.lo, .int .i64 b.shift.hi, .int .i64 b.pitch.lo, .int .i64 b.pitch.hi]) := below_setRow ((Below.refl _ _).alloc (Nat.le_refl _) _) (Nat.le_refl _) _
        have HSY := Lib.hid (HS.out.call hbz2)
        clear hbz2 HSZ
        refine hK.out _ _ ⟨HSY.out.kj, HRA.out _ HSY.out, HRB.out _ HSY.out⟩ (fun hH2 => ?_)
        clear hK K
        try simp only [List.setIfInBounds_toArray, List.set_cons_zero, List.set_cons_succ]
        refine wpAnyH_done (by kernel_rfl) ?_ _
        have HB9 := Lib.hid (below_setRow (HS.out.hb.alloc HS.out.hb.size (.cells #[.int .i64 0, .int .i64 0, .int .i64 0, .int .i64 0, .int .i64 0, .int .i64 0, .int .i64 0, .int .i64 0, .int .i64 0, .int .i64 0, .int .i64 0, .int .i64 0, .int .i64 0, .int .i64 0, .int .i64 0, .int .i64 0, .int .i64 0, .int .i64 0, .int .i64 0, .int .i64 0, .int .i64 0, .int .i64 0, .int .i64 0, .int .i64 0, .int .i64 0, .int .i64 0] 95)) HS.out.hb.size #[.int .i64 j.glue.lo, .int .i64 j.glue.hi, .int .i64 j.lead.lo, .int .i64 j.lead.hi, .int .i64 j.side.lo, .int .i64 j.side.hi, .int .i64 j.height.lo, .int .i64 j.height.hi, .int .i64 j.play, .int .i64 j.grooves, .int .i64 a.thick.lo, .int .i64 a.thick.hi, .int .i64 a.depth.lo, .int .i64 a.depth.hi, .int .i64 a.shift.lo, .int .i64 a.shift.hi, .int .i64 a.pitch.lo, .int .i64 a.pitch.hi, .int .i64 b.thick.lo, .int .i64 b.thick.hi, .int .i64 b.depth.lo, .int .i64 b.depth.hi, .int .i64 b.shift.lo, .int .i64 b.shift.hi, .int .i64 b.pitch.lo, .int .i64 b.pitch.hi])
        have K0 := Lib.hid ((Blk.new V0 95 #[.int .i64 0, .int .i64 0, .int .i64 0, .int .i64 0, .int .i64 0, .int .i64 0, .int .i64 0, .int .i64 0, .int .i64 0, .int .i64 0, .int .i64 0, .int .i64 0, .int .i64 0, .int .i64 0, .int .i64 0, .int .i64 0, .int .i64 0, .int .i64 0, .int .i64 0, .int .i64 0, .int .i64 0, .int .i64 0, .int .i64 0, .int .i64 0, .int .i64 0, .int .i64 0]).row #[.int .i64 j.glue.lo, .int .i64 j.glue.hi, .int .i64 j.lead.lo, .int .i64 j.lead.hi, .int .i64 j.side.lo, .int .i64 j.side.hi, .int .i64 j.height.lo, .int .i64 j.height.hi, .int .i64 j.play, .int .i64 j.grooves, .int .i64 a.thick.lo, .int .i64 a.thick.hi, .int .i64 a.depth.lo, .int .i64 a.depth.hi, .int .i64 a.shift.lo, .int .i64 a.shift.hi, .int .i64 a.pitch.lo, .int .i64 a.pitch.hi, .int .i64 b.thick.lo, .int .i64 b.thick.hi, .int .i64 b.depth.lo, .int .i64 b.depth.hi, .int .i64 b.shift.lo, .int .i64 b.shift.hi, .int .i64 b.pitch.lo, .int .i64 b.pitch.hi])
        have hbz : Below V0.heap.size V0 ((V0.alloc (.cells #[.int .i64 0, .int .i64 0, .int .i64 0, .int .i64 0, .int .i64 0, .int .i64 0, .int .i64 0, .int .i64 0, .int .i64 0, .int .i64 0, .int .i64 0, .int .i64 0, .int .i64 0, .int .i64 0, .int .i64 0, .int .i64 0, .int .i64 0, .int .i64 0, .int .i64 0, .int .i64 0, .int .i64 0, .int .i64 0, .int .i64 0, .int .i64 0, .int .i64 0, .int .i64 0] 95)).setRow V0.heap.size #[.int .i64 j.glue.lo, .int .i64 j.glue.hi, .int .i64 j.lead.lo, .int .i64 j.lead.hi, .int .i64 j.side.lo, .int .i64 j.side.hi, .int .i64 j.height.lo, .int .i64 j.height.hi, .int .i64 j.play, .int .i64 j.grooves, .int .i64 a.thick.lo, .int .i64 a.thick.hi, .int .i64 a.depth.lo, .int .i64 a.depth.hi, .int .i64 a.shift.lo, .int .i64 a.shift.hi, .int .i64 a.pitch.lo, .int .i64 a.pitch.hi, .int .i64 b.thick.lo, .int .i64 b.thick.hi, .int .i64 b.depth.lo, .int .i64 b.depth.hi, .int .i64 b.shift.lo, .int .i64 b.shift.hi, .int .i64 b.pitch.lo, .int .i64 b.pitch.hi]) := below_setRow ((Below.refl _ _).alloc (Nat.le_refl _) _) (Nat.le_refl _) _
        replace HS := Lib.hid (HS.out.call hbz)
        replace HOW := Lib.hid (own_call8 HOW.out hbz)
        clear hbz HB9
        generalize World.setRow (World.alloc V0 _) _ _ = V2 at *
        generalize V0.heap.size = g0 at *
        go_wp2_with (with_reducible refine wpList_load_mid (by with_unfolding_all rfl) 95 _ (by with_unfolding_all rfl) _ _ (by with_unfolding_all rfl) [.int .i64 j.glue.lo, .int .i64 j.glue.hi, .int .i64 j.lead.lo, .int .i64 j.lead.hi, .int .i64 j.side.lo, .int .i64 j.side.hi, .int .i64 j.height.lo, .int .i64 j.height.hi, .int .i64 j.play, .int .i64 j.grooves, .int .i64 a.thick.lo, .int .i64 a.thick.hi, .int .i64 a.depth.lo, .int .i64 a.depth.hi, .int .i64 a.shift.lo, .int .i64 a.shift.hi, .int .i64 a.pitch.lo, .int .i64 a.pitch.hi, .int .i64 b.thick.lo, .int .i64 b.thick.hi, .int .i64 b.depth.lo, .int .i64 b.depth.hi, .int .i64 b.shift.lo, .int .i64 b.shift.hi, .int .i64 b.pitch.lo, .int .i64 b.pitch.hi] _ K0.out.range (by with_unfolding_all rfl) (by with_unfolding_all rfl) (by kernel_rfl) ?_)
        refine (HCL.out _).mono ?_
        rintro e V3 ⟨rfl, hb⟩
        replace HS := Lib.hid (HS.out.call hb)
        replace HOW := Lib.hid (own_call8 HOW.out hb)
        replace K0 := Lib.hid (K0.out.below hb K0.out.lt)
        clear hb HCL
        cases hz : alwaysB j a b with
        | false =>
          have hF := HNF.out hz
          rw [hF] at HTR
          have HT2 : Hid (tr = (zS, 0, 6)) := HTR
          clear hz hF HTR HNF HOW HLD HLT HBT
          go_wp2_with fail
          refine bodyPost_ret (v := .tuple #[.int .i64 0, .int .i64 0, .int .i64 0, .int .i64 6]) (by simp [results, Try.results15, go_sem]) rfl ⟨by rw [HT2.out]; rfl, HS.out.hb⟩
        | true =>
          rw [hz] at HBT
          clear hz HNF
          go_wp2_with (with_reducible refine wpList_load_mid (by with_unfolding_all rfl) 95 _ (by with_unfolding_all rfl) _ _ (by with_unfolding_all rfl) [.int .i64 j.glue.lo, .int .i64 j.glue.hi, .int .i64 j.lead.lo, .int .i64 j.lead.hi, .int .i64 j.side.lo, .int .i64 j.side.hi, .int .i64 j.height.lo, .int .i64 j.height.hi, .int .i64 j.play, .int .i64 j.grooves, .int .i64 a.thick.lo, .int .i64 a.thick.hi, .int .i64 a.depth.lo, .int .i64 a.depth.hi, .int .i64 a.shift.lo, .int .i64 a.shift.hi, .int .i64 a.pitch.lo, .int .i64 a.pitch.hi, .int .i64 b.thick.lo, .int .i64 b.thick.hi, .int .i64 b.depth.lo, .int .i64 b.depth.hi, .int .i64 b.shift.lo, .int .i64 b.shift.hi, .int .i64 b.pitch.lo, .int .i64 b.pitch.hi] _ K0.out.range (by with_unfolding_all rfl) (by with_unfolding_all rfl) (by kernel_rfl) ?_)
          refine (HLD.out _).mono ?_
          rintro e V4 ⟨gl, hgl, rfl, hrow, hb⟩
          replace HS := Lib.hid (HS.out.call hb)
          replace HOW := Lib.hid (own_call8 HOW.out hb)
          have HNW := Lib.hid (ldrow_news hrow)
          clear hb HLD K0 hrow hgl
          generalize leadsOf j a b = ld at *
          have HLV : Hid ((leadsV ld).length = N * 4) := Lib.hid (by rw [leadsV_len, HLN.out])
          go_wp2_with (at_builtin; refine wpList_append_lies _ (by rfl) _ _ 93 (by rfl) (w.heap.size + 1) 109 i0 _ 4 32 und_leads hi hz0 hz1 hz2 rfl (by decide) (.slice AX NX cX) NX (leadsV (((l.zip u).take k).flatMap (fun p => leadsOf j p.1 p.2))) (by rfl) HOW.out ⟨gl, 0, none⟩ N N (leadsV ld) (by rfl) HLV.out HNW.out (leadsV_one _) (by omega) (by unfold maxLen; omega) (by omega) (by have := HS.out.kj.lt; omega) V4.heap.size rfl ?_; intro g5 cap5 V5 hown hgr hat hlt5; have HO5 := Lib.hid hown; have HG5 := Lib.hid hgr; clear hown hgr hat hlt5)
          have hb5 := below_own8 HOW.out (by have := HS.out.kj.lt; omega) HG5.out
          have HS5 : Hid (TuS w j V5) := Lib.hid ⟨HS.out.hb.trans (hb5.mono (by omega)), HS.out.kj.below hb5 (by omega)⟩
          have HO6 : Hid (V5.ownsRow (w.heap.size + 1) 109 4 (.slice (some ⟨g5, 0, none⟩) (NX + N) cap5) (NX + N) (leadsV (((l.zip u).take (k + 1)).flatMap (fun p => leadsOf j p.1 p.2)))) := Lib.hid (by rw [HLT.out, leadsV_append]; exact HO5.out)
          have HN6 : Hid (NX + N = (((l.zip u).take (k + 1)).flatMap (fun p => leadsOf j p.1 p.2)).length) := Lib.hid (by rw [HLT.out, List.length_append, ← HNX.out, HLN.out])
          have HA6 : Hid (((l.zip u).take (k + 1)).all (fun p => alwaysB j p.1 p.2) = true) := Lib.hid (by rw [HBT.out, HAL.out]; rfl)
          clear hb5 HO5 HG5 HS HOW HNX HLT HBT HAL
          go_wp2_with fail
          go_roundw
          case rel => exact ⟨k + 1, by omega, by go_num, _, _, _, rfl, HN6, HS5, HO6, HA6⟩
          case measure => simp [intOf]; omega
      · obtain rfl : l.length = k := by omega
        have hlt' : ¬ (l.length : Int) < l.length := by omega
        have htk : (l.zip u).take l.length = l.zip u := by rw [List.take_of_length_le (by rw [HZP.out]; exact Nat.le_refl _)]
        rw [htk] at HNX HOW HAL
        have hT : tr = ((tuneS (allL j l u) lim).1, (tuneS (allL j l u) lim).2, 0) := by
          rw [HTR.out, if_pos (show allB j l u = true from HAL.out)]
        have HT := Lib.hid hT
        have HLS := Lib.hid (lead_own HOW.out HNX.out)
        have hlen : (allL j l u).length ≤ 1000 := by
          have := flat_len j N (by rw [HN.out]; simp) (l.zip u)
          rw [HZP.out] at this
          have h9 := Nat.mul_le_mul hl7 hN10
          show ((l.zip u).flatMap _).length ≤ 1000
          omega
        have HTU := Lib.hid fun W h => tune5_any W AX cX (allL j l u) lim h hlen (fun x hx => by
          obtain ⟨p, hp, hx2⟩ := List.mem_flatMap.1 hx
          exact lead_far5 HI.out.1 (HI.out.2.1 p.1 (List.of_mem_zip hp).1) (HI.out.2.2.1 p.2 (List.of_mem_zip hp).2) x hx2) HI.out.2.2.2.1 HI.out.2.2.2.2
        have hNN : NX = (allL j l u).length := HNX.out
        subst hNN
        generalize tuneS (allL j l u) lim = ts at HT HTU
        clear htk hT hlen hlt HTR HAL HNX HOW hl7
        go_wp2_with fail
        refine (HTU.out _ HLS.out).mono ?_
        rintro e V6 ⟨rfl, hb⟩
        replace HS := Lib.hid (HS.out.call hb)
        clear hb HLS HTU
        have HBX := Lib.hid (Blk.new V6 102 #[.int .i64 ts.1.side, .int .i64 ts.1.height])
        have hb6 : Below V6.heap.size V6 (V6.alloc (.cells #[.int .i64 ts.1.side, .int .i64 ts.1.height] 102)) := (Below.refl _ _).alloc (Nat.le_refl _) _
        replace HS := Lib.hid (HS.out.call hb6)
        clear hb6
        go_upto_region 14 with fail
        generalize hV7 : World.alloc V6 _ = V7 at HS HBX ⊢
        clear hV7
        generalize V6.heap.size = g7 at HBX ⊢
        replace HS := Lib.hid (HS.out.call (Below.refl _ _).drew)
        replace HBX := Lib.hid (HBX.out.below (Below.refl _ _).drew HBX.out.lt)
        refine wp_region_held_drew (S := fun W => Blk W g7 102 #[.int .i64 ts.1.side, .int .i64 ts.1.height]) (by kernel_rfl) HBX.out (fun hH0 => ?_)
        generalize World.drew _ = V0 at *
        simp only [List.size_toArray, List.length_cons, List.length_nil, Nat.reduceAdd, Array.replicate_succ, Array.replicate_zero, List.push_toArray, List.nil_append, List.cons_append]
        refine wpAnyH_take (i := 0 ) (v := ?_) rfl (by kernel_rfl) (by kernel_rfl) (by kernel_rfl) (fun _ _ _ h => h) (Or.inl ⟨by rfl, ?_⟩) (by assumption) ?_; rotate_left; (· (intro w0 hSw; have s0 := hSw.cell 0; have s1 := hSw.cell 1; clear hSw; go_simp); first | done | with_reducible rfl); (try simp only [Act.put, List.getElem_toArray, List.getElem_cons_zero, List.setIfInBounds_toArray, List.set_cons_zero, List.set_cons_succ])
        refine wpAnyH_take (i := 1 ) (v := ?_) rfl (by kernel_rfl) (by kernel_rfl) (by kernel_rfl) (fun _ _ _ h => h) (Or.inl ⟨by rfl, ?_⟩) (by assumption) ?_; rotate_left; (· (intro w0 hSw; have s0 := hSw.cell 0; have s1 := hSw.cell 1; clear hSw; go_simp); first | done | with_reducible rfl); (try simp only [Act.put, List.getElem_toArray, List.getElem_cons_succ, List.getElem_cons_zero, List.setIfInBounds_toArray, List.set_cons_zero, List.set_cons_succ])
        refine wpAnyH_take (i := 2 ) (v := ?_) rfl (by kernel_rfl) (by kernel_rfl) (by kernel_rfl) (fun _ _ _ h => h) (Or.inl ⟨by rfl, ?_⟩) (by assumption) ?_; rotate_left; (· (intro w0 hSw; have s0 := hSw.cell 0; have s1 := hSw.cell 1; clear hSw; go_simp); first | done | with_reducible rfl); (try simp only [Act.put, List.getElem_toArray, List.getElem_cons_succ, List.getElem_cons_zero, List.setIfInBounds_toArray, List.set_cons_zero, List.set_cons_succ])
        refine wpAnyH_take (i := 3 ) (v := ?_) rfl (by kernel_rfl) (by kernel_rfl) (by kernel_rfl) (fun _ _ _ h => h) (Or.inl ⟨by rfl, ?_⟩) (by assumption) ?_; rotate_left; (· (intro w0 hSw; have s0 := hSw.cell 0; have s1 := hSw.cell 1; clear hSw; go_simp); first | done | with_reducible rfl); (try simp only [Act.put, List.getElem_toArray, List.getElem_cons_succ, List.getElem_cons_zero, List.setIfInBounds_toArray, List.set_cons_zero, List.set_cons_succ])
        refine wpAnyH_take (i := 4 ) (v := ?_) rfl (by kernel_rfl) (by kernel_rfl) (by kernel_rfl) (fun _ _ _ h => h) (Or.inl ⟨by rfl, ?_⟩) (by assumption) ?_; rotate_left; (· (intro w0 hSw; have s0 := hSw.cell 0; have s1 := hSw.cell 1; clear hSw; go_simp); first | done | with_reducible rfl); (try simp only [Act.put, List.getElem_toArray, List.getElem_cons_succ, List.getElem_cons_zero, List.setIfInBounds_toArray, List.set_cons_zero, List.set_cons_succ])
        refine wpAnyH_take (i := 5 ) (v := ?_) rfl (by kernel_rfl) (by kernel_rfl) (by kernel_rfl) (fun _ _ _ h => h) (Or.inl ⟨by rfl, ?_⟩) (by assumption) ?_; rotate_left; (· (intro w0 hSw; have s0 := hSw.cell 0; have s1 := hSw.cell 1; clear hSw; go_simp); first | done | with_reducible rfl); (try simp only [Act.put, List.getElem_toArray, List.getElem_cons_succ, List.getElem_cons_zero, List.setIfInBounds_toArray, List.set_cons_zero, List.set_cons_succ])
        refine wpAnyH_take (i := 6 ) (v := ?_) rfl (by kernel_rfl) (by kernel_rfl) (by kernel_rfl) (fun _ _ _ h => h) (Or.inl ⟨by rfl, ?_⟩) (by assumption) ?_; rotate_left; (· (intro w0 hSw; have s0 := hSw.cell 0; have s1 := hSw.cell 1; clear hSw; go_simp); first | done | with_reducible rfl); (try simp only [Act.put, List.getElem_toArray, List.getElem_cons_succ, List.getElem_cons_zero, List.setIfInBounds_toArray, List.set_cons_zero, List.set_cons_succ])
        refine wpAnyH_take (i := 7 ) (v := ?_) rfl (by kernel_rfl) (by kernel_rfl) (by kernel_rfl) (fun _ _ _ h => h) (Or.inl ⟨by rfl, ?_⟩) (by assumption) ?_; rotate_left; (· (intro w0 hSw; have s0 := hSw.cell 0; have s1 := hSw.cell 1; clear hSw; go_simp); first | done | with_reducible rfl); (try simp only [Act.put, List.getElem_toArray, List.getElem_cons_succ, List.getElem_cons_zero, List.setIfInBounds_toArray, List.set_cons_zero, List.set_cons_succ])
        refine wpAnyH_take (i := 8 ) (v := ?_) rfl (by kernel_rfl) (by kernel_rfl) (by kernel_rfl) (fun _ _ _ h => h) (Or.inl ⟨by rfl, ?_⟩) (by assumption) ?_; rotate_left; (· (intro w0 hSw; have s0 := hSw.cell 0; have s1 := hSw.cell 1; clear hSw; go_simp); first | done | with_reducible rfl); (try simp only [Act.put, List.getElem_toArray, List.getElem_cons_succ, List.getElem_cons_zero, List.setIfInBounds_toArray, List.set_cons_zero, List.set_cons_succ])
        refine wpAnyH_done (by kernel_rfl) ?_ _
        go_wp2_with fail
        refine bodyPost_ret (v := .tuple #[.int .i64 ts.1.side, .int .i64 ts.1.height, .int .i64 ts.2, .int .i64 0]) (by simp [results, Try.results15, go_sem]) rfl ⟨by rw [HT.out], HS.out.hb⟩
  · have h0' : (te == 0) = false := by rw [beq_eq_false_iff_ne]; exact h0
    have h0'' : (te != 0) = true := by simp [bne, h0']
    have HT2 : Hid (tr = (zS, 0, te)) := Lib.hid (by rw [HTR.out, if_neg h0])
    clear HTR HOK h0
    go_wp2_with fail
    refine bodyPost_ret (v := .tuple #[.int .i64 0, .int .i64 0, .int .i64 0, .int .i64 te]) (by simp [results, Try.results15, go_sem]) rfl ⟨by rw [HT2.out]; rfl, HS.out.hb⟩
end Go.Proofs.Ytfpfafijockfnaa