/- Walks of the reference: Weight, Corners, Down, Up. -/
import Derived.Test.YtoiggflhfbfiiaaT3
import Derived.StillTailTactics
namespace Go.Proofs.Ytoiggflhfbfiiaa
open Go.RowKit Go.Shelf

/-- What is taken out of a sack. -/
def addW (i : Int) (o : Span) (t : Take) : Span := if t.s = i then ⟨o.lo + t.m.lo, o.hi + t.m.hi⟩ else o
def weightR (b : List Take) (i : Int) : Span := b.foldl (addW i) ⟨0, 0⟩
theorem weightR_snoc (b : List Take) (i : Int) (k : Nat) (h : k < b.length) : weightR (b.take (k + 1)) i = addW i (weightR (b.take k) i) b[k] := by
  unfold weightR
  rw [List.take_succ_eq_append_getElem h, List.foldl_append]
  rfl
theorem weightR_bd (i : Int) : ∀ (b : List Take), (∀ t ∈ b, withinB t.m 1 100000 = true) → 0 ≤ (weightR b i).lo ∧ (weightR b i).lo ≤ (weightR b i).hi ∧ (weightR b i).hi ≤ 100000 * b.length := by
  intro b hb
  suffices H : ∀ (b : List Take) (o : Span) (n : Nat), (∀ t ∈ b, withinB t.m 1 100000 = true) → (0 ≤ o.lo ∧ o.lo ≤ o.hi ∧ o.hi ≤ 100000 * n) → 0 ≤ (b.foldl (addW i) o).lo ∧ (b.foldl (addW i) o).lo ≤ (b.foldl (addW i) o).hi ∧ (b.foldl (addW i) o).hi ≤ 100000 * (n + b.length : Nat) by
    have := H b ⟨0, 0⟩ 0 hb (by simp)
    simpa [weightR] using this
  intro b
  induction b with
  | nil => intro o n _ h; simpa using h
  | cons t b ih =>
    intro o n hb h
    have ht := withinB_iff.1 (hb t (by simp))
    have := ih (addW i o t) (n + 1) (fun u hu => hb u (by simp [hu])) (by
      unfold addW
      split
      · simp only; omega
      · omega)
    simp only [List.foldl_cons, List.length_cons]
    have e : n + 1 + b.length = n + (b.length + 1) := by omega
    rw [e] at this
    exact this

set_option maxHeartbeats 1000000 in
theorem rdown_any (a b : Int) (w : World) (hb : 0 < b) (hb2 : b ≤ 1000000000) (ha : -9000000000000000000 ≤ a) (ha' : a ≤ 9000000000000000000) :
    Calls Try.prog 50 #[.int .i64 a, .int .i64 b] w fun e w' => e = .returned (.int .i64 (a / b)) ∧ w = w' := by
  obtain ⟨hq1, hq2⟩ := tdiv_bd (b := b) ha ha'
  have h1 := Int.mul_tdiv_add_tmod a b
  have e1 : b * a.tdiv b = a.tdiv b * b := Int.mul_comm _ _
  have h2 := Int.lt_tmod_of_pos a hb
  have h3 := Int.tmod_lt_of_pos a hb
  rw [e1] at h1
  have hm1 : -9100000000000000000 ≤ a.tdiv b * b := by omega
  have hm2 : a.tdiv b * b ≤ 9100000000000000000 := by omega
  have HN := Lib.hid (@tdiv_neg a b hb)
  have HP := Lib.hid (@tdiv_pos a b hb)
  by_cases hc : a < a.tdiv b * b
  · have HX : Hid (a.tdiv b - 1 = a / b) := HN.out (by omega)
    clear e1 h1 h2 h3 HN HP
    go_enter Try.func50, Try.ntmps50
    go_wp2
    go_ret
    exact ⟨ret_int HX.out, rfl⟩
  · have HX : Hid (a.tdiv b = a / b) := HP.out (by omega)
    clear e1 h1 h2 h3 HN HP
    go_enter Try.func50, Try.ntmps50
    go_wp2
    go_ret
    exact ⟨ret_int HX.out, rfl⟩

set_option maxHeartbeats 1000000 in
theorem rup_any (a b : Int) (w : World) (hb : 0 < b) (hb2 : b ≤ 1000000000) (ha : -9000000000000000000 ≤ a) (ha' : a ≤ 9000000000000000000) :
    Calls Try.prog 49 #[.int .i64 a, .int .i64 b] w fun e w' => e = .returned (.int .i64 (cdiv a b)) ∧ w = w' := by
  have h0 : -9000000000000000000 ≤ -a / b ∧ -a / b ≤ 9000000000000000000 := by
    have h1 := Int.ediv_mul_le (-a) (show b ≠ 0 by omega)
    have h2 := Int.lt_ediv_add_one_mul_self (-a) hb
    have h3 : -a / b = -a / b := rfl
    constructor
    · refine (Int.le_ediv_iff_mul_le hb).2 ?_
      have : 9000000000000000000 * 1 ≤ 9000000000000000000 * b := Int.mul_le_mul_of_nonneg_left (by omega) (by omega)
      omega
    · refine Int.ediv_le_of_le_mul hb ?_
      have : 9000000000000000000 * 1 ≤ 9000000000000000000 * b := Int.mul_le_mul_of_nonneg_left (by omega) (by omega)
      omega
  obtain ⟨h1, h2⟩ := h0
  go_enter Try.func49, Try.ntmps49
  go_wp2_with fail
  refine (rdown_any _ _ _ hb hb2 (by omega) (by omega)).mono ?_
  rintro e w' ⟨rfl, rfl⟩
  go_wp2_with fail
  go_ret
  exact ⟨rfl, rfl⟩


set_option maxHeartbeats 1000000 in
set_option maxRecDepth 100000 in
theorem weight_any (w : World) (T : Option Addr) (ct : Nat) (b : List Take) (i : Int) (hb : b.length ≤ 12) (hT : TakeSl w w.heap.size T b) (hb2 : ∀ t ∈ b, withinB t.m 1 100000 = true) :
    Calls Try.prog 26 #[.slice T b.length ct, .int .i64 i] w (Ret (.agg #[.int .i64 (weightR b i).lo, .int .i64 (weightR b i).hi]) w) := by
  have HT := Lib.hid hT
  have HB2 := Lib.hid hb2
  clear hT hb2
  go_enter Try.func26, Try.ntmps26
  go_wp2
  have h0 : Below w.heap.size w ((w.alloc (.cells #[.int .i64 0, .int .i64 0] 25)).alloc (.cells #[.int .i64 0, .int .i64 0] 25)) := by repeat (first | exact Below.refl _ _ | assumption | refine Below.drew ?_ | refine Below.alloc ?_ (by first | omega | (simp only [World.size_alloc]; omega) | simp) _ | refine Below.setCell ?_ (by first | omega | (simp only [World.size_alloc]; omega) | simp) _)
  have hB0 := (Blk.new w 25 #[.int .i64 0, .int .i64 0]).alloc (.cells #[.int .i64 0, .int .i64 0] 25)
  have hB1 := Blk.new (w.alloc (.cells #[.int .i64 0, .int .i64 0] 25)) 25 #[.int .i64 0, .int .i64 0]
  rw [World.size_alloc] at hB1
  generalize World.alloc (World.alloc w _) _ = W0 at h0 hB0 hB1 ⊢
  go_loopw [6] (fun i' wr => ∃ k : Nat, k ≤ b.length ∧ i' = .int .i64 k ∧ Hid (Blk wr w.heap.size 25 #[.int .i64 0, .int .i64 0]) ∧ Hid (Blk wr (w.heap.size + 1) 25 #[.int .i64 (weightR (b.take k) i).lo, .int .i64 (weightR (b.take k) i).hi]) ∧ Below w.heap.size w wr) (fun i' _ => b.length - (intOf i').toNat)
  case atStart => exact ⟨0, by omega, rfl, hB0, hB1, h0⟩
  case round =>
    clear hB0 hB1 h0
    obtain ⟨k, hk, rfl, H0, H1, hB⟩ := hrel
    by_cases hlt : k < b.length
    · obtain ⟨bT, oT, rfl, hbT, hs⟩ := HT.out (by intro e; subst e; simp at hlt)
      obtain ⟨c0, c1, c2⟩ := hs k hlt
      clear hs
      rw [← hB.cell (p := ⟨bT, _, none⟩) hbT] at c0 c1 c2
      have HN := Lib.hid (weightR_snoc b i k hlt)
      have hbd := weightR_bd i (b.take k) fun t ht => HB2.out t (List.mem_of_mem_take ht)
      have htl : (b.take k).length ≤ k := List.length_take_le _ _
      have hsk := HB2.out _ (List.getElem_mem hlt)
      have hsk2 := withinB_iff.1 hsk
      generalize b[k] = t at c0 c1 c2 hsk2 HN
      generalize weightR (b.take k) i = o at HN hbd H1
      have hbd1 : 0 ≤ o.lo ∧ o.lo ≤ 1200000 ∧ 0 ≤ o.hi ∧ o.hi ≤ 1200000 := by omega
      obtain ⟨d1, d2, d3, d4⟩ := hbd1
      obtain ⟨g1, g2, g3⟩ := hsk2
      clear hbd htl hsk
      have hsz := hB.size
      have x0 := H1.out.cell 0
      have x1 := H1.out.cell 1
      have y0 := H1.out.frozen 0
      have y1 := H1.out.frozen 1
      have hp := H1.out.lt
      by_cases he : t.s = i
      · have HN2 : Hid (weightR (b.take (k + 1)) i = ⟨o.lo + t.m.lo, o.hi + t.m.hi⟩) := by
          show _ = _
          rw [HN.out, addW, if_pos he]
        clear HN
        rw [he] at c0
        have hne : ¬ bT = w.heap.size + 1 := by omega
        have hw1 : IntKind.i64.wrap (o.lo + t.m.lo) = o.lo + t.m.lo := wrap_in (by omega) (by omega)
        have hw2 : IntKind.i64.wrap (o.hi + t.m.hi) = o.hi + t.m.hi := wrap_in (by omega) (by omega)
        go_wp2_with fail
        go_still_tail 19, (by kernel_rfl)
        change wpList _ _ _ _ _ wr.drew
        have hb2 : Below w.heap.size w wr.drew := hB.drew
        have K0 : Hid (Blk wr.drew w.heap.size 25 #[.int .i64 0, .int .i64 0]) := H0
        have K1 : Hid (Blk wr.drew (w.heap.size + 1) 25 #[.int .i64 o.lo, .int .i64 o.hi]) := H1
        clear x0 x1 y0 y1 hp H0 H1 c0 c1 c2 hw1 hw2
        generalize wr.drew = W1 at *
        have hp := K1.out.lt
        go_wp2_with (refine wpList_store_row rfl 25 (.tmp 5) (.tmp 38) rfl (w.heap.size + 1) #[_, _] rfl rfl 25 _ K1.out (by kernel_rfl) rfl (by kernel_rfl) ?_)
        have K2 := Lib.hid (K1.out.row #[.int .i64 (o.lo + t.m.lo), .int .i64 (o.hi + t.m.hi)])
        have K3 := Lib.hid (K0.out.rowFar (g' := w.heap.size + 1) (by omega) #[.int .i64 (o.lo + t.m.lo), .int .i64 (o.hi + t.m.hi)])
        have hb3 := below_setRow hb2 (show w.heap.size ≤ w.heap.size + 1 by omega) #[.int .i64 (o.lo + t.m.lo), .int .i64 (o.hi + t.m.hi)]
        go_roundw
        case rel => exact ⟨k + 1, by omega, by go_num, K3, by rw [HN2.out]; exact K2, hb3⟩
        case measure => simp [intOf]; omega
      · have HN2 : Hid (weightR (b.take (k + 1)) i = o) := by
          show _ = _
          rw [HN.out, addW, if_neg he]
        have he1 : (t.s == i) = false := by simpa using he
        clear HN x0 x1 y0 y1
        go_wp2_with fail
        go_roundw
        case rel => exact ⟨k + 1, by omega, by go_num, H0, by rw [HN2.out]; exact H1, hB⟩
        case measure => simp [intOf]; omega
    · obtain rfl : k = b.length := by omega
      rw [List.take_length] at H1
      have x0 := H1.out.cell 0
      have x1 := H1.out.cell 1
      have hle : w.heap.size ≤ w.heap.size := Nat.le_refl _
      go_wp2_with (refine wpList_store_row rfl 25 (.tmp 4) (.tmp 39) rfl w.heap.size #[_, _] rfl rfl 25 _ H0.out (by kernel_rfl) rfl (by kernel_rfl) ?_)
      exact bodyPost_ret (results_blk rfl _ rfl (H0.out.row _) (by kernel_rfl) (by kernel_rfl)) rfl ⟨rfl, below_setRow hB hle _⟩
end Go.Proofs.Ytoiggflhfbfiiaa
