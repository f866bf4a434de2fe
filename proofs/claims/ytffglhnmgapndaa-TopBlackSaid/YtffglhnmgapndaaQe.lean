/- Made by program out of parts: T3,T4,Pu,T5,T6. -/
import Derived.Test.YtffglhnmgapndaaRows
import Derived.Test.YtffglhnmgapndaaQd
/- The law's function truth: what sacks truly are, and what was truly taken. -/
namespace Go.Proofs.Ytffglhnmgapndaa
open Go.RowKit Go.Shelf

def ysAt (ys : List Int) (i : Nat) : Int := ys.getD (i % ys.length) 0
def trueAt (l : List Sack) (ys : List Int) (i : Nat) : Cor :=
  ⟨pickV (sackAt l i).w.lo (sackAt l i).w.hi (ysAt ys (3 * i)), pickV (sackAt l i).c.lo (sackAt l i).c.hi (ysAt ys (3 * i + 1)), pickV (sackAt l i).l.lo (sackAt l i).l.hi (ysAt ys (3 * i + 2))⟩
def trueS (l : List Sack) (ys : List Int) (k : Nat) : List Cor := (List.range k).map (trueAt l ys)
def tookAt (b : List Take) (ys : List Int) (i : Nat) : Int := pickV (b.getD i ⟨0, ⟨0, 0⟩⟩).m.lo (b.getD i ⟨0, ⟨0, 0⟩⟩).m.hi (ysAt ys (5 * i + 2))
def trueW (b : List Take) (ys : List Int) (k : Nat) : List Int := (List.range k).map (tookAt b ys)
theorem wrap_in {x : Int} (h : -9223372036854775808 ≤ x) (h' : x ≤ 9223372036854775807) : IntKind.i64.wrap x = x := wr h h'
def TrS (w : World) (bA oA k : Nat) (s : Sack) (bY oY j0 j1 j2 : Nat) (z0 z1 z2 : Int) (W : World) : Prop := Below w.heap.size w W ∧ W.cell? ⟨bA, oA + k * 6, none⟩ = some (.int .i64 s.w.lo) ∧ W.cell? ⟨bA, oA + k * 6 + 1, none⟩ = some (.int .i64 s.w.hi) ∧ W.cell? ⟨bA, oA + k * 6 + 2, none⟩ = some (.int .i64 s.c.lo) ∧ W.cell? ⟨bA, oA + k * 6 + 3, none⟩ = some (.int .i64 s.c.hi) ∧ W.cell? ⟨bA, oA + k * 6 + 4, none⟩ = some (.int .i64 s.l.lo) ∧ W.cell? ⟨bA, oA + k * 6 + 5, none⟩ = some (.int .i64 s.l.hi)   ∧ W.cell? ⟨bY, oY + j0, none⟩ = some (.int .u32 z0) ∧ W.cell? ⟨bY, oY + j1, none⟩ = some (.int .u32 z1) ∧ W.cell? ⟨bY, oY + j2, none⟩ = some (.int .u32 z2)
theorem TrS.to {w : World} {bA oA k : Nat} {s : Sack} {bY oY j0 j1 j2 : Nat} {z0 z1 z2 : Int} {W W' : World} (h : TrS w bA oA k s bY oY j0 j1 j2 z0 z1 z2 W) (hA : bA < w.heap.size) (hY : bY < w.heap.size) (hb : Below w.heap.size W W') : TrS w bA oA k s bY oY j0 j1 j2 z0 z1 z2 W' := by
  obtain ⟨h0, c0, c1, c2, c3, c4, c5, y0, y1, y2⟩ := h
  exact ⟨h0.trans hb, (hb.cell (p := ⟨bA, _, none⟩) hA).trans c0, (hb.cell (p := ⟨bA, _, none⟩) hA).trans c1, (hb.cell (p := ⟨bA, _, none⟩) hA).trans c2, (hb.cell (p := ⟨bA, _, none⟩) hA).trans c3, (hb.cell (p := ⟨bA, _, none⟩) hA).trans c4, (hb.cell (p := ⟨bA, _, none⟩) hA).trans c5,
    (hb.cell (p := ⟨bY, _, none⟩) hY).trans y0, (hb.cell (p := ⟨bY, _, none⟩) hY).trans y1, (hb.cell (p := ⟨bY, _, none⟩) hY).trans y2⟩
def TsS (w : World) (bT oT k : Nat) (s : Span) (bY oY j0 : Nat) (z0 : Int) (W : World) : Prop := Below w.heap.size w W ∧ W.cell? ⟨bT, oT + k * 3 + 1, none⟩ = some (.int .i64 s.lo) ∧ W.cell? ⟨bT, oT + k * 3 + 2, none⟩ = some (.int .i64 s.hi) ∧ W.cell? ⟨bY, oY + j0, none⟩ = some (.int .u32 z0)
theorem TsS.to {w : World} {bT oT k : Nat} {s : Span} {bY oY j0 : Nat} {z0 : Int} {W W' : World} (h : TsS w bT oT k s bY oY j0 z0 W) (hA : bT < w.heap.size) (hY : bY < w.heap.size) (hb : Below w.heap.size W W') : TsS w bT oT k s bY oY j0 z0 W' :=
  ⟨h.1.trans hb, (hb.cell (p := ⟨bT, _, none⟩) hA).trans h.2.1, (hb.cell (p := ⟨bT, _, none⟩) hA).trans h.2.2.1, (hb.cell (p := ⟨bY, _, none⟩) hY).trans h.2.2.2⟩

end Go.Proofs.Ytffglhnmgapndaa

/- The law's function all: how much of a kind there truly is. -/
namespace Go.Proofs.Ytffglhnmgapndaa
open Go.RowKit Go.Shelf

theorem sumOf_snoc (X : Cor → Int) (T : Int → Cor) : ∀ (b : List Take) (ws : List Int) (k : Nat) (h : k < b.length) (h' : k < ws.length), sumOf X T (b.take (k + 1)) (ws.take (k + 1)) = sumOf X T (b.take k) (ws.take k) + ws[k] * X (T b[k].s)
  | [], _, _, h, _ => by simp at h
  | _ :: _, [], _, _, h => by simp at h
  | t :: b, x :: ws, 0, _, _ => by simp [sumOf]
  | t :: b, x :: ws, k + 1, h, h' => by
    have := sumOf_snoc X T b ws k (by simpa using h) (by simpa using h')
    simp only [List.take_succ_cons, sumOf, this, List.getElem_cons_succ]
    omega
theorem sumOf_bd {X : Cor → Int} {T : Int → Cor} {M : Int} (hM : 0 ≤ M) (hX : ∀ i, 0 ≤ X (T i) ∧ X (T i) ≤ M) : ∀ (b : List Take) (ws : List Int), (∀ x ∈ ws, 0 ≤ x ∧ x ≤ 100000) → 0 ≤ sumOf X T b ws ∧ sumOf X T b ws ≤ b.length * (100000 * M)
  | [], _, _ => by simp [sumOf]
  | _ :: _, [], _ => by
    simp only [sumOf, List.length_cons]
    exact ⟨by omega, Int.mul_nonneg (by omega) (by omega)⟩
  | t :: b, x :: ws, h => by
    have i := sumOf_bd hM hX b ws fun y hy => h y (by simp [hy])
    have hx := h x (by simp)
    have hm := mul_bd hx.1 hx.2 (hX t.s).1 (hX t.s).2
    simp only [sumOf, List.length_cons]
    have e : ((b.length + 1 : Nat) : Int) * (100000 * M) = b.length * (100000 * M) + 100000 * M := by
      have : ((b.length + 1 : Nat) : Int) = (b.length : Int) + 1 := by omega
      rw [this, Int.add_mul, Int.one_mul]
    omega
def corOk (x : Cor) : Prop := 0 ≤ x.w ∧ x.w ≤ 900 ∧ 0 ≤ x.c ∧ x.c ≤ 1000 ∧ 0 ≤ x.s ∧ x.s ≤ 900
def corAt (cs : List Cor) (i : Int) : Cor := cs.getD i.toNat ⟨0, 0, 0⟩
theorem corAt_ok {cs : List Cor} (h : ∀ x ∈ cs, corOk x) (i : Int) : corOk (corAt cs i) := by
  unfold corAt
  rw [List.getD_eq_getElem?_getD]
  cases e : cs[i.toNat]? with
  | none => simp [corOk]
  | some x => exact h x (List.mem_of_getElem? e)
def kindX (k : Nat) (x : Cor) : Int := ofN k x.w x.c x.s
theorem kindX_bd (k : Nat) {x : Cor} (h : corOk x) : 0 ≤ kindX k x ∧ kindX k x ≤ 1000000000 := by
  obtain ⟨h1, h2, h3, h4, h5, h6⟩ := h
  exact ofN_bd k h1 h2 h3 h4 h5 h6

end Go.Proofs.Ytffglhnmgapndaa

/- Plain: what SackTrue asks of the numbers. -/
namespace Go.Proofs.Ytffglhnmgapndaa

theorem sumOf_lin (X Y : Cor → Int) (a c : Int) (T : Int → Cor) : ∀ (b : List Take) (ws : List Int), sumOf (fun x => a * X x + c * Y x) T b ws = a * sumOf X T b ws + c * sumOf Y T b ws
  | [], _ => by simp [sumOf]
  | _ :: _, [] => by simp [sumOf]
  | t :: b, x :: ws => by
    have := sumOf_lin X Y a c T b ws
    simp only [sumOf, this]
    grind
theorem sumOf_congr {X Y : Cor → Int} (h : ∀ x, X x = Y x) (T : Int → Cor) (b : List Take) (ws : List Int) : sumOf X T b ws = sumOf Y T b ws := by
  have : X = Y := funext h
  rw [this]
theorem sumOf_one (T : Int → Cor) : ∀ (b : List Take) (ws : List Int), fitsW b ws → sumOf (fun _ => 1) T b ws = ws.sum
  | [], [], _ => rfl
  | t :: b, x :: ws, h => by
    have := sumOf_one T b ws h.2
    simp [sumOf, this]
  | [], _ :: _, h => h.elim
  | _ :: _, [], h => h.elim
theorem sumOf_pos {X : Cor → Int} {T : Int → Cor} (hX : ∀ i, 0 < X (T i)) : ∀ (b : List Take) (ws : List Int), (∀ x ∈ ws, 1 ≤ x) → b ≠ [] → ws ≠ [] → 0 < sumOf X T b ws
  | [], _, _, h, _ => absurd rfl h
  | _ :: _, [], _, _, h => absurd rfl h
  | [t], x :: ws, h, _, _ => by
    have := h x (by simp)
    have := Int.mul_pos (show 0 < x by omega) (hX t.s)
    simp [sumOf, this]
  | t :: u :: b, [x], h, _, _ => by
    have := h x (by simp)
    have := Int.mul_pos (show 0 < x by omega) (hX t.s)
    simp [sumOf, this]
  | t :: u :: b, x :: y :: ws, h, _, _ => by
    have i := sumOf_pos hX (u :: b) (y :: ws) (fun z hz => h z (by simp only [List.mem_cons] at hz ⊢; exact .inr hz)) (by simp) (by simp)
    have := h x (by simp)
    have := Int.mul_pos (show 0 < x by omega) (hX t.s)
    rw [sumOf]
    omega

theorem fits_true : ∀ (b : List Take) (ys : List Int) (k : Nat), k ≤ b.length → (∀ t ∈ b, withinB t.m 1 100000 = true) → fitsW (b.drop (b.length - k)) ((List.range k).map fun i => tookAt b ys (b.length - k + i)) := by
  intro b ys k
  induction k with
  | zero => intro _ _; simp [fitsW]
  | succ k ih =>
    intro hk hb
    have hlt : b.length - (k + 1) < b.length := by omega
    rw [List.drop_eq_getElem_cons hlt, List.range_succ_eq_map]
    simp only [List.map_cons, List.map_map, Nat.add_zero]
    refine ⟨?_, ?_⟩
    · have h := withinB_iff.1 (hb _ (List.getElem_mem hlt))
      have := pickV_bd (lo := b[b.length - (k + 1)].m.lo) (hi := b[b.length - (k + 1)].m.hi) (y := ysAt ys (5 * (b.length - (k + 1)) + 2)) h.2.1
      simp only [tookAt, List.getD_eq_getElem?_getD, List.getElem?_eq_getElem hlt, Option.getD_some]
      exact this
    · have := ih (by omega) hb
      have e : b.length - (k + 1) + 1 = b.length - k := by omega
      rw [e]
      have e2 : ((List.range k).map ((fun i => tookAt b ys (b.length - (k + 1) + i)) ∘ Nat.succ)) = (List.range k).map fun i => tookAt b ys (b.length - k + i) := by
        apply List.map_congr_left
        intro i hi
        simp only [Function.comp]
        congr 1
        omega
      rw [e2]
      exact this
theorem fits_trueW {b : List Take} (ys : List Int) (hb : ∀ t ∈ b, withinB t.m 1 100000 = true) : fitsW b (trueW b ys b.length) := by
  have := fits_true b ys b.length (Nat.le_refl _) hb
  simpa [trueW] using this
theorem fitsW_bd : ∀ (b : List Take) (ws : List Int), fitsW b ws → (∀ t ∈ b, withinB t.m 1 100000 = true) → ∀ x ∈ ws, 1 ≤ x ∧ x ≤ 100000
  | [], [], _, _, x, hx => by simp at hx
  | t :: b, y :: ws, h, hb, x, hx => by
    rcases List.mem_cons.1 hx with rfl | hx
    · have h1 := withinB_iff.1 (hb t (by simp))
      have h2 := h.1
      simp only [Span.has] at h2
      omega
    · exact fitsW_bd b ws h.2 (fun u hu => hb u (by simp [hu])) x hx
  | [], _ :: _, h, _, _, _ => h.elim
  | _ :: _, [], h, _, _, _ => h.elim
theorem trueAt_fits {l : List Sack} {ys : List Int} {i : Nat} (hi : i < l.length) (hl : ∀ s ∈ l, sackOk s = true) : (sackAt l i).fits (trueAt l ys i) := by
  have h := hl _ (List.getElem_mem hi)
  rw [sackAt_nat hi]
  simp only [sackOk, Bool.and_eq_true, withinB_iff] at h
  simp only [Sack.fits, trueAt, sackAt_nat hi, Span.has]
  exact ⟨pickV_bd (by omega), pickV_bd (by omega), pickV_bd (by omega)⟩
theorem corAt_true {l : List Sack} {ys : List Int} {i : Nat} (hi : i < l.length) : corAt (trueS l ys l.length) i = trueAt l ys i := by
  simp [corAt, trueS, hi]
theorem trueS_ok {l : List Sack} {ys : List Int} (hl : ∀ s ∈ l, sackOk s = true) : ∀ x ∈ trueS l ys l.length, corOk x := by
  intro x hx
  simp only [trueS, List.mem_map, List.mem_range] at hx
  obtain ⟨i, hi, rfl⟩ := hx
  have hf := trueAt_fits (ys := ys) hi hl
  have h := hl _ (List.getElem_mem hi)
  rw [sackAt_nat hi] at hf
  simp only [sackOk, Bool.and_eq_true, withinB_iff] at h
  simp only [Sack.fits, Span.has] at hf
  simp only [corOk]
  omega
theorem sacksOk_all {l : List Sack} (h : sacksOk l = true) : ∀ s ∈ l, sackOk s = true := by
  simp only [sacksOk, Bool.and_eq_true, List.all_eq_true] at h
  exact h.2

/-- The truth of a batch: its kinds, and its weight. -/
structure Truth (l : List Sack) (b : List Take) (T : Int → Cor) (ws : List Int) : Prop where
  valid : validB l b = true
  fits : ∀ t ∈ b, (sackAt l t.s).fits (T t.s)
  took : fitsW b ws
  ok : ∀ i, corOk (T i)
theorem truth_is {l : List Sack} {b : List Take} (ys : List Int) (hv : validB l b = true) : Truth l b (corAt (trueS l ys l.length)) (trueW b ys b.length) := by
  have hs : sacksOk l = true := by rw [validB_split, Bool.and_eq_true] at hv; exact hv.1
  refine ⟨hv, fun t ht => ?_, fits_trueW ys fun t ht => ?_, fun i => corAt_ok (trueS_ok (sacksOk_all hs)) i⟩
  · have h := validB_take hv t ht
    simp only [takeOk, idxB, Bool.and_eq_true, decide_eq_true_eq] at h
    obtain ⟨n, hn⟩ : ∃ n : Nat, t.s = n := ⟨t.s.toNat, by omega⟩
    rw [hn] at h ⊢
    rw [corAt_true (by omega)]
    exact trueAt_fits (by omega) (sacksOk_all hs)
  · have h := validB_take hv t ht
    simp only [takeOk, Bool.and_eq_true] at h
    exact h.2

variable {l : List Sack} {b : List Take} {T : Int → Cor} {ws : List Int}
theorem Truth.part (h : Truth l b T ws) (k : Nat) : (together (heldsOf l b) (partG k)).least ≤ sumOf (kindX k) T b ws ∧ sumOf (kindX k) T b ws ≤ (together (heldsOf l b) (partG k)).most :=
  true_within h.valid h.took h.fits (aff_part k) (fun m w c s => partG_of k m w c s) (partG_bd k)
theorem cdiv_ge {a b : Int} (hb : 0 < b) : a ≤ cdiv a b * b := by
  have := Int.ediv_mul_le (-a) (show b ≠ 0 by omega)
  have e : cdiv a b * b = -(-a / b * b) := Int.neg_mul _ _
  omega
theorem Truth.inside (h : Truth l b T ws) (k : Nat) : (partOf l b k).lo * 1000000000 ≤ sumOf (kindX k) T b ws ∧ sumOf (kindX k) T b ws ≤ (partOf l b k).hi * 1000000000 := by
  have h1 := h.part k
  have h2 := cdiv_ge (a := (together (heldsOf l b) (partG k)).most) (b := 1000000000) (by omega)
  simp only [partOf, gramsOf]
  omega
theorem Truth.ws_bd (h : Truth l b T ws) : ∀ x ∈ ws, 1 ≤ x ∧ x ≤ 100000 := fitsW_bd b ws h.took fun t ht => by
  have := validB_take h.valid t ht
  simp only [takeOk, Bool.and_eq_true] at this
  exact this.2
theorem fitsW_len : ∀ (b : List Take) (ws : List Int), fitsW b ws → ws.length = b.length
  | [], [], _ => rfl
  | _ :: b, _ :: ws, h => by simp [fitsW_len b ws h.2]
  | [], _ :: _, h => h.elim
  | _ :: _, [], h => h.elim
theorem Truth.bd (h : Truth l b T ws) (k : Nat) : 0 ≤ sumOf (kindX k) T b ws ∧ sumOf (kindX k) T b ws ≤ 800000000000000 := by
  have h1 := sumOf_bd (M := 1000000000) (by omega) (fun i => kindX_bd k (h.ok i)) b ws fun x hx => by have := h.ws_bd x hx; omega
  have h2 := (validB_len h.valid).2
  omega
theorem Truth.all (h : Truth l b T ws) : sumOf (kindX 0) T b ws + sumOf (kindX 1) T b ws + sumOf (kindX 2) T b ws + sumOf (kindX 3) T b ws = ws.sum * 1000000000 := by
  rw [← sumOf_one T b ws h.took]
  have e1 := sumOf_lin (kindX 0) (kindX 1) 1 1 T b ws
  have e2 := sumOf_lin (kindX 2) (kindX 3) 1 1 T b ws
  have e3 := sumOf_lin (fun x => 1 * kindX 0 x + 1 * kindX 1 x) (fun x => 1 * kindX 2 x + 1 * kindX 3 x) 1 1 T b ws
  have e4 := sumOf_lin (fun _ => 1) (fun _ => 1) 1000000000 0 T b ws
  have e5 : sumOf (fun x => 1 * (1 * kindX 0 x + 1 * kindX 1 x) + 1 * (1 * kindX 2 x + 1 * kindX 3 x)) T b ws = sumOf (fun _ => 1000000000 * 1 + 0 * 1) T b ws := by
    refine sumOf_congr (fun x => ?_) T b ws
    simp only [kindX, ofN]
    grind
  omega
theorem Truth.lead (_h : Truth l b T ws) : sumOf (kindX 4) T b ws = sumOf (kindX 1) T b ws + sumOf (kindX 3) T b ws := by
  have e1 := sumOf_lin (kindX 1) (kindX 3) 1 1 T b ws
  have e5 : sumOf (kindX 4) T b ws = sumOf (fun x => 1 * kindX 1 x + 1 * kindX 3 x) T b ws := by
    refine sumOf_congr (fun x => ?_) T b ws
    simp only [kindX, ofN]
    omega
  omega
theorem Truth.lead_pos (h : Truth l b T ws) : 0 < sumOf (kindX 4) T b ws := by
  have hl := validB_len h.valid
  have hwl := fitsW_len b ws h.took
  refine sumOf_pos (fun i => ?_) b ws (fun x hx => (h.ws_bd x hx).1) (by intro e; subst e; simp at hl) (by intro e; subst e; simp at hwl; omega)
  obtain ⟨h1, h2, h3, h4, h5, h6⟩ := h.ok i
  simp only [kindX, ofN]
  generalize (T i).w = w at h1 h2 ⊢
  generalize (T i).c = c at h3 h4 ⊢
  generalize (T i).s = s at h5 h6 ⊢
  have e : (1000 - w) * c * 1000 + (1000 - w) * (1000 - c) * (1000 - s) = (1000 - w) * (c * 1000 + (1000 - c) * (1000 - s)) := by grind
  rw [e]
  refine Int.mul_pos (by omega) ?_
  have := Int.mul_le_mul_of_nonneg_left (show 100 ≤ 1000 - s by omega) (show 0 ≤ 1000 - c by omega)
  omega
theorem Truth.over (h : Truth l b T ws) {n : Int} (h0 : 0 ≤ n) (h1 : n ≤ 1000) : (together (heldsOf l b) (carbonOver n)).least ≤ 1000 * sumOf (kindX 1) T b ws - n * sumOf (kindX 4) T b ws ∧ 1000 * sumOf (kindX 1) T b ws - n * sumOf (kindX 4) T b ws ≤ (together (heldsOf l b) (carbonOver n)).most := by
  have e := sumOf_lin (kindX 1) (kindX 4) 1000 (-n) T b ws
  have e2 : 1000 * sumOf (kindX 1) T b ws - n * sumOf (kindX 4) T b ws = sumOf (fun x => 1000 * kindX 1 x + -n * kindX 4 x) T b ws := by
    rw [e, Int.neg_mul]; omega
  rw [e2]
  refine true_within h.valid h.took h.fits (aff_over n) (fun m w c s => ?_) (fun t ht => carbonOver_bd ht h0 h1)
  have p1 := partG_of 1 m w c s
  have p4 := partG_of 4 m w c s
  simp only [partG] at p1 p4
  simp only [carbonOver, p1, p4, kindX]
  grind
theorem Truth.share (h : Truth l b T ws) : (shareOf (heldsOf l b)).lo * sumOf (kindX 4) T b ws ≤ 1000 * sumOf (kindX 1) T b ws ∧ 1000 * sumOf (kindX 1) T b ws ≤ (shareOf (heldsOf l b)).hi * sumOf (kindX 4) T b ws := by
  have hn1 := h.bd 1
  have hn3 := h.bd 3
  have hl := h.lead
  constructor
  · obtain ⟨f1, f2, f3, f4⟩ := firstOf_spec (loP (heldsOf l b)) 1000
    show firstOf 1000 (loP (heldsOf l b)) * _ ≤ _
    by_cases e : firstOf 1000 (loP (heldsOf l b)) = 0
    · rw [e]; omega
    · have h3 := f3 (firstOf 1000 (loP (heldsOf l b)) - 1) (by omega) (by omega)
      simp only [loP, decide_eq_false_iff_not, Int.sub_add_cancel] at h3
      have := (h.over f1 f2).1
      omega
  · obtain ⟨f1, f2, f3, f4⟩ := firstOf_spec (hiP (heldsOf l b)) 1000
    show _ ≤ firstOf 1000 (hiP (heldsOf l b)) * _
    by_cases e : firstOf 1000 (hiP (heldsOf l b)) = 1000
    · rw [e]; omega
    · have h3 := f4 (by omega)
      simp only [hiP, decide_eq_true_eq] at h3
      have := (h.over f1 f2).2
      omega
theorem share_bd (hs : List Held) : 0 ≤ (shareOf hs).lo ∧ (shareOf hs).lo ≤ 1000 ∧ 0 ≤ (shareOf hs).hi ∧ (shareOf hs).hi ≤ 1000 := by
  obtain ⟨f1, f2, _⟩ := firstOf_spec (loP hs) 1000
  obtain ⟨g1, g2, _⟩ := firstOf_spec (hiP hs) 1000
  exact ⟨f1, f2, g1, g2⟩
theorem Truth.water (_h : Truth l b T ws) : sumOf (kindX 0) T b ws = 1000000 * sumOf (fun x => x.w) T b ws := by
  have e1 := sumOf_lin (fun x => x.w) (fun _ => 0) 1000000 0 T b ws
  have e2 : sumOf (kindX 0) T b ws = sumOf (fun x => 1000000 * x.w + 0 * 0) T b ws := by
    refine sumOf_congr (fun x => ?_) T b ws
    simp only [kindX, ofN]
    omega
  omega
end Go.Proofs.Ytffglhnmgapndaa

/- The law SackTrue. -/
namespace Go.Proofs.Ytffglhnmgapndaa
open Go.RowKit Go.Shelf

/-- What a law of a batch has in hand: its arguments, and the span that it boxed. -/
structure LawS (w : World) (A T : Option Addr) (l : List Sack) (b : List Take) (wl wh : Int) (W : World) : Prop where
  b0 : Blk W w.heap.size 31 #[.int .i64 wl, .int .i64 wh]
  sa : SackSl W W.heap.size A l
  ta : TakeSl W W.heap.size T b
  below : Below w.heap.size w W
theorem LawS.call {w : World} {A T : Option Addr} {l : List Sack} {b : List Take} {wl wh : Int} {W W' : World} (h : LawS w A T l b wl wh W) (hb : Below W.heap.size W W') : LawS w A T l b wl wh W' :=
  ⟨h.b0.below hb h.b0.lt, (h.sa.below hb).more hb.size, (h.ta.below hb).more hb.size, h.below.trans (hb.mono h.below.size)⟩
theorem LawS.new (w : World) (A T : Option Addr) (l : List Sack) (b : List Take) (wl wh : Int) (hA : SackSl w w.heap.size A l) (hT : TakeSl w w.heap.size T b) : LawS w A T l b wl wh (w.alloc (.cells #[.int .i64 wl, .int .i64 wh] 31)) := by
  have hb : Below w.heap.size w (w.alloc (.cells #[.int .i64 wl, .int .i64 wh] 31)) := (Below.refl _ _).alloc (Nat.le_refl _) _
  exact ⟨Blk.new _ _ _, (hA.below hb).more hb.size, (hT.below hb).more hb.size, hb⟩
end Go.Proofs.Ytffglhnmgapndaa

/- The law SackTrue where the batch is valid. -/
namespace Go.Proofs.Ytffglhnmgapndaa
open Go.RowKit Go.Shelf

theorem partOf_bd {l : List Sack} {b : List Take} (hv : validB l b = true) (k : Nat) : -10000000 ≤ (partOf l b k).lo ∧ (partOf l b k).lo ≤ 10000000 ∧ -10000000 ≤ (partOf l b k).hi ∧ (partOf l b k).hi ≤ 10000000 := by
  have h1 := together_bd (g := partG k) (B := 800000000000000) (by omega) (fun t ht => by
    have h1 := St.water_bd ht
    have h2 := St.carbon_bd ht
    have h3 := St.smoke_bd ht
    have h4 := St.clay_bd ht
    have h5 := St.lead_bd ht
    unfold partG
    split <;> omega) (heldsOf l b) (helds_ok hv)
  have h2 := (helds_len hv).2
  have h3 : (800000000000000 : Int) * (heldsOf l b).length ≤ 6400000000000000 := by omega
  simp only [partOf, gramsOf, cdiv]
  omega
/-- What is in hand once the truth is made: all of it lies below block B. -/
structure TruS (w : World) (A T : Option Addr) (l : List Sack) (b : List Take) (wl wh : Int) (p9 p11 : Nat) (f : Nat → Span) (sh : Span) (S V : Option Addr) (cs : List Cor) (ws : List Int) (B : Nat) (W : World) : Prop where
  b0 : Blk W w.heap.size 31 #[.int .i64 wl, .int .i64 wh]
  sa : SackSl W B A l
  ta : TakeSl W B T b
  below : Below w.heap.size w W
  p : Blk W p9 35 (spansTo f 5)
  s : Blk W p11 31 #[.int .i64 sh.lo, .int .i64 sh.hi]
  cs : CorSl W B S cs
  ws : IntSl W B V ws
  l0 : w.heap.size < B
  l1 : p9 < B
  l2 : p11 < B
theorem TruS.keep {w : World} {A T : Option Addr} {l : List Sack} {b : List Take} {wl wh : Int} {p9 p11 : Nat} {f : Nat → Span} {sh : Span} {S V : Option Addr} {cs : List Cor} {ws : List Int} {B : Nat} {W W' : World} (h : TruS w A T l b wl wh p9 p11 f sh S V cs ws B W) (hb : Below B W W') : TruS w A T l b wl wh p9 p11 f sh S V cs ws B W' :=
  ⟨h.b0.below hb h.l0, h.sa.below hb, h.ta.below hb, h.below.trans (hb.mono (Nat.le_of_lt h.l0)), h.p.below hb h.l1, h.s.below hb h.l2, h.cs.below hb, h.ws.below hb, h.l0, h.l1, h.l2⟩
theorem TruS.call {w : World} {A T : Option Addr} {l : List Sack} {b : List Take} {wl wh : Int} {p9 p11 : Nat} {f : Nat → Span} {sh : Span} {S V : Option Addr} {cs : List Cor} {ws : List Int} {B : Nat} {W W' : World} (h : TruS w A T l b wl wh p9 p11 f sh S V cs ws B W) (hB : B ≤ W.heap.size) (hb : Below W.heap.size W W') : TruS w A T l b wl wh p9 p11 f sh S V cs ws B W' := h.keep (hb.mono hB)
end Go.Proofs.Ytffglhnmgapndaa

