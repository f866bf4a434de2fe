/- The law's function all: how much of a kind there truly is. -/
import Derived.Test.YtoiggflhfbfiiaaT3
namespace Go.Proofs.Ytoiggflhfbfiiaa
open Go.RowKit Go.Shelf

theorem sumOf_snoc (X : Cor → Int) (T : Int → Cor) : ∀ (b : List Take) (ws : List Int) (k : Nat) (h : k < b.length) (h' : k < ws.length), sumOf X T (b.take (k + 1)) (ws.take (k + 1)) = sumOf X T (b.take k) (ws.take k) + ws[k] * X (T b[k].s)
  | [], _, _, h, _ => by simp at h
  | _ :: _, [], _, _, h => by simp at h
  | t :: b, x :: ws, 0, _, _ => by simp [sumOf]
  | t :: b, x :: ws, k + 1, h, h' => by
    have := sumOf_snoc X T b ws k (by simpa using h) (by simpa using h')
    simp only [List.take_succ_cons, sumOf, this, List.getElem_cons_succ]
    omega
theorem sumOf_bd {X : Cor → Int} {T : Int → Cor} {M : Int} (hM : 0 ≤ M) (hX : ∀ i, 0 ≤ X (T i) ∧ X (T i) ≤ M) : ∀ (b : List Take) (ws : List Int), (∀ x ∈ ws, 0 ≤ x ∧ x ≤ 100000) → 0 ≤ sumOf X T b ws ∧ sumOf X T b ws ≤ b.length * (100000 * M)
  | [], _, _ => by simp [sumOf]
  | _ :: _, [], _ => by
    simp only [sumOf, List.length_cons]
    exact ⟨by omega, Int.mul_nonneg (by omega) (by omega)⟩
  | t :: b, x :: ws, h => by
    have i := sumOf_bd hM hX b ws fun y hy => h y (by simp [hy])
    have hx := h x (by simp)
    have hm := mul_bd hx.1 hx.2 (hX t.s).1 (hX t.s).2
    simp only [sumOf, List.length_cons]
    have e : ((b.length + 1 : Nat) : Int) * (100000 * M) = b.length * (100000 * M) + 100000 * M := by
      have : ((b.length + 1 : Nat) : Int) = (b.length : Int) + 1 := by omega
      rw [this, Int.add_mul, Int.one_mul]
    omega
def corOk (x : Cor) : Prop := 0 ≤ x.w ∧ x.w ≤ 900 ∧ 0 ≤ x.c ∧ x.c ≤ 1000 ∧ 0 ≤ x.s ∧ x.s ≤ 900
def corAt (cs : List Cor) (i : Int) : Cor := cs.getD i.toNat ⟨0, 0, 0⟩
theorem corAt_ok {cs : List Cor} (h : ∀ x ∈ cs, corOk x) (i : Int) : corOk (corAt cs i) := by
  unfold corAt
  rw [List.getD_eq_getElem?_getD]
  cases e : cs[i.toNat]? with
  | none => simp [corOk]
  | some x => exact h x (List.mem_of_getElem? e)
def kindX (k : Nat) (x : Cor) : Int := ofN k x.w x.c x.s
theorem kindX_bd (k : Nat) {x : Cor} (h : corOk x) : 0 ≤ kindX k x ∧ kindX k x ≤ 1000000000 := by
  obtain ⟨h1, h2, h3, h4, h5, h6⟩ := h
  exact ofN_bd k h1 h2 h3 h4 h5 h6

set_option maxHeartbeats 1000000 in
theorem all_any (w : World) (T S W : Option Addr) (ct cS cW : Nat) (b : List Take) (cs : List Cor) (ws : List Int) (j : Nat) (hj : j < 5) (hb : b.length ≤ 12) (hw : ws.length = b.length) (hc : cs.length ≤ 12) (hT : TakeSl w w.heap.size T b) (hS : CorSl w w.heap.size S cs) (hW : IntSl w w.heap.size W ws)
    (hbs : ∀ t ∈ b, 0 ≤ t.s ∧ t.s < cs.length) (hwb : ∀ x ∈ ws, 0 ≤ x ∧ x ≤ 100000) (hcb : ∀ x ∈ cs, corOk x) :
    Calls Try.prog 22 #[.slice T b.length ct, .slice S cs.length cS, .slice W b.length cW, .int .i64 j] w (Ret (.int .i64 (sumOf (kindX j) (corAt cs) b ws)) w) := by
  have HT := Lib.hid hT
  have HS := Lib.hid hS
  have HW := Lib.hid hW
  have HBS := Lib.hid hbs
  have HWB := Lib.hid hwb
  have HCB := Lib.hid hcb
  have HWL := Lib.hid hw
  clear hT hS hW hbs hwb hcb hw
  go_enter Try.func22, Try.ntmps22
  go_wp2
  go_loopw [9, 10] (fun v i wr => ∃ k : Nat, k ≤ b.length ∧ i = .int .i64 k ∧ v = .int .i64 (sumOf (kindX j) (corAt cs) (b.take k) (ws.take k)) ∧ Below w.heap.size w wr) (fun _ i _ => b.length - (intOf i).toNat)
  case atStart => exact ⟨0, by omega, rfl, rfl, Below.refl _ _⟩
  case round =>
    obtain ⟨k, hk, rfl, rfl, hB⟩ := hrel
    by_cases hlt : k < b.length
    · obtain ⟨bT, oT, rfl, hbT, hs⟩ := HT.out (by intro e; subst e; simp at hlt)
      obtain ⟨c0, -, -⟩ := hs k hlt
      clear hs
      have hwl : k < ws.length := by rw [HWL.out]; exact hlt
      obtain ⟨bW, oW, rfl, hbW, hs⟩ := HW.out (by intro e; subst e; simp at hwl)
      have x0 := hs k hwl
      clear hs
      obtain ⟨t0, t1⟩ := HBS.out _ (List.getElem_mem hlt)
      have HN := Lib.hid (sumOf_snoc (kindX j) (corAt cs) b ws k hlt hwl)
      have hbd := sumOf_bd (M := 1000000000) (by omega) (fun i => kindX_bd j (corAt_ok HCB.out i)) (b.take k) (ws.take k) fun y hy => HWB.out y (List.mem_of_mem_take hy)
      have htl : (b.take k).length ≤ k := List.length_take_le _ _
      have hbd1 : 0 ≤ sumOf (kindX j) (corAt cs) (b.take k) (ws.take k) ∧ sumOf (kindX j) (corAt cs) (b.take k) (ws.take k) ≤ 12 * 100000000000000 := by omega
      clear hbd htl
      obtain ⟨xw0, xw1⟩ := HWB.out _ (List.getElem_mem hwl)
      obtain ⟨n1, hn1⟩ : ∃ n1 : Nat, b[k].s = n1 := ⟨b[k].s.toNat, by omega⟩
      rw [hn1] at c0 t0 t1 HN
      have t2 : n1 < cs.length := by omega
      obtain ⟨bS, oS, rfl, hbS, hs⟩ := HS.out (by intro e; subst e; simp at t2)
      obtain ⟨s0, s1, s2⟩ := hs n1 t2
      clear hs hn1
      have hce : corAt cs n1 = cs[n1] := by simp [corAt, t2]
      rw [hce] at HN
      have hco := HCB.out _ (List.getElem_mem t2)
      have hkx := kindX_bd j hco
      generalize cs[n1] = co at s0 s1 s2 hco HN hkx
      obtain ⟨g1, g2, g3, g4, g5, g6⟩ := hco
      generalize ws[k] = x at x0 xw0 xw1 HN
      generalize sumOf (kindX j) (corAt cs) (b.take k) (ws.take k) = n at hbd1 HN
      have hm := mul_bd xw0 xw1 hkx.1 hkx.2
      obtain ⟨hm1, hm2⟩ := hm
      obtain ⟨hn1, hn2⟩ := hbd1
      have hwm : IntKind.i64.wrap (x * kindX j co) = x * kindX j co := wrap_in (by omega) (by omega)
      have hwn : IntKind.i64.wrap (n + x * kindX j co) = n + x * kindX j co := wrap_in (by omega) (by omega)
      have HC : Hid (∀ W, Calls Try.prog 59 #[.int .i64 j, .int .i64 co.w, .int .i64 co.c, .int .i64 co.s] W fun e w' => e = .returned (.int .i64 (kindX j co)) ∧ w' = W) := fun W => (rof_any j hj co.w co.c co.s W g1 g2 g3 g4 g5 g6).mono fun _ _ ⟨h, h'⟩ => ⟨h, h'.symm⟩
      rw [← hB.cell (p := ⟨bT, _, none⟩) hbT] at c0
      rw [← hB.cell (p := ⟨bW, _, none⟩) hbW] at x0
      rw [← hB.cell (p := ⟨bS, _, none⟩) hbS] at s0 s1 s2
      have hsz := hB.size
      have l1 : bT < wr.heap.size := by omega
      have l2 : bW < wr.heap.size := by omega
      have l3 : bS < wr.heap.size := by omega
      clear hce hkx hm1 hm2
      go_wp2_with fail
      go_quiet ((go_at_call 59; exact Calls.quiet_of_same (HC.out _)))
      go_wp2_with fail
      have hB2 : Below w.heap.size w ((wr.alloc (.cells #[.int .i64 co.w, .int .i64 co.c, .int .i64 co.s] 96)).drewN nq) := below_drewN (hB.alloc hsz _) _
      have HB2 := Lib.hid hB2
      clear hB2 hwm hwn
      go_roundw
      case rel => exact ⟨k + 1, by omega, by go_num, by rw [HN.out], HB2.out⟩
      case measure => simp [intOf]; omega
    · have HE : Hid (sumOf (kindX j) (corAt cs) (b.take k) (ws.take k) = sumOf (kindX j) (corAt cs) b ws) := by
        obtain rfl : k = b.length := by omega
        show _ = _
        rw [List.take_length, ← HWL.out, List.take_length]
      go_wp2_with fail
      go_ret
      exact ⟨ret_int HE.out, hB⟩
end Go.Proofs.Ytoiggflhfbfiiaa
