/- The maps of glued and of bestPairing: keys are structs of two numbers. -/
import Derived.Test.YtfpfafijockfnaaXz
import Derived.Maps.Keyed
import Derived.Maps.Views
import Derived.DeepKeys4
import Derived.Maps.OwnSet
namespace Go.Proofs.Ytfpfafijockfnaa
open Go.RowKit Go.Shelf Go.WideShapes Go.MapKept
open Go.ChangeMaps (setBlock)
open Go.WideElems (Fit)
open Go.Maps (Keyed)

def keyV (a b : Int) : Value := .agg #[.int .i64 a, .int .i64 b]
def In64 (x : Int) : Prop := -9223372036854775808 ≤ x ∧ x ≤ 9223372036854775807
theorem keyV_inj {a b c d : Int} (h : keyV a b = keyV c d) : a = c ∧ b = d := by
  simp only [keyV, Value.agg.injEq, Array.mk.injEq, List.cons.injEq, Value.int.injEq, true_and, and_true] at h
  exact h
theorem und_int5 : Try.prog.underlying 3 = some (.int .i64) := by kernel_rfl
theorem und_pair : Try.prog.underlying 131 = some (.struct #[⟨"lower", 3, 0, false, "", "pencilworks/slat", 0⟩, ⟨"upper", 3, 1, false, "", "pencilworks/slat", 8⟩]) := by kernel_rfl
theorem und_turn : Try.prog.underlying 126 = some (.struct #[⟨"lower", 3, 0, false, "", "pencilworks/slat", 0⟩, ⟨"taken", 3, 1, false, "", "pencilworks/slat", 8⟩]) := by kernel_rfl
theorem und_glue : Try.prog.underlying 85 = some (.map 131 3) := by kernel_rfl
theorem und_memo : Try.prog.underlying 123 = some (.map 126 83) := by kernel_rfl
theorem keyed_pair : Keyed Try.prog 131 := Keyed.of_law (deep_law_laid (m := 10) (by kernel_rfl) (by decide) (by decide +kernel) (by kernel_rfl) (by rw [und_pair]))
theorem keyed_turn : Keyed Try.prog 126 := Keyed.of_law (deep_law_laid (m := 10) (by kernel_rfl) (by decide) (by decide +kernel) (by kernel_rfl) (by rw [und_turn]))
theorem wf5 {x : Int} (h : In64 x) : (Lit.int .i64 x).wf = true := by
  unfold In64 at h
  simp only [Lit.wf, Bool.and_eq_true, decide_eq_true_eq]
  simp [IntKind.min, IntKind.max, IntKind.signed, IntKind.bits]
  omega
theorem cells_int5 : Try.prog.cellsOf 3 = 1 := by kernel_rfl
theorem cells_pair : Try.prog.cellsOf 131 = 2 := by kernel_rfl
theorem cells_turn : Try.prog.cellsOf 126 = 2 := by kernel_rfl
theorem kt_pair : Try.prog.keyType 131 = true := by kernel_rfl
theorem kt_turn : Try.prog.keyType 126 = true := by kernel_rfl
theorem size_types5 : ∃ m, Try.prog.types.size = m + 1 := ⟨Try.prog.types.size - 1, by have : 0 < Try.prog.types.size := by decide +kernel
                                                                                       omega⟩
theorem key_pair {a b : Int} (ha : In64 a) (hb : In64 b) : ∃ l, keyOf Try.prog 131 (keyV a b) = some l := by
  have wa := wf5 ha
  have wb := wf5 hb
  obtain ⟨m, hm⟩ := size_types5
  unfold keyOf keyV
  simp only [und_pair]
  rw [if_pos (by simp [kt_pair, Value.formed, cells_pair]), hm]
  unfold Program.keyLits
  simp only [und_pair, Value.cells]
  rw [if_pos (by rw [cells_pair]; simp), List.mapM_cons, List.mapM_cons, List.mapM_nil]
  simp [cells_int5, Program.keyLits, wa, wb]
theorem key_turn {a b : Int} (ha : In64 a) (hb : In64 b) : ∃ l, keyOf Try.prog 126 (keyV a b) = some l := by
  have wa := wf5 ha
  have wb := wf5 hb
  obtain ⟨m, hm⟩ := size_types5
  unfold keyOf keyV
  simp only [und_turn]
  rw [if_pos (by simp [kt_turn, Value.formed, cells_turn]), hm]
  unfold Program.keyLits
  simp only [und_turn, Value.cells]
  rw [if_pos (by rw [cells_turn]; simp), List.mapM_cons, List.mapM_cons, List.mapM_nil]
  simp [cells_int5, Program.keyLits, wa, wb]

/-! ### glued's map: what is known of each pair -/
def RI : Value → Option (DataW Unit × List MemPlace)
  | .int .i64 m => some (.lit (.int .i64 m), [])
  | _ => none
def optD : Option Int → DataW Unit → DataW Unit
  | some m, _ => .lit (.int .i64 m)
  | none, z => z
/-- Block b is a map of at most n entries, and of each pair it knows what g says. -/
def PairsAt (W : World) (b n : Nat) (g : Int → Int → Option Int) : Prop :=
  ∃ es clock, W.heap[b]? = some (.map es clock) ∧ Fit Try.prog 131 RI es clock ∧ es.size ≤ n ∧
    ∀ i k, In64 i → In64 k → ∀ l, keyOf Try.prog 131 (keyV i k) = some l → ∀ z, (DataW.map ((es.toList.map (Go.WideElems.rg Try.prog 131 RI)).foldr DataW.insert [])).atKey l z = optD (g i k) z
section
variable {W W' : World} {b n : Nat} {g g' : Int → Int → Option Int}
theorem PairsAt.lt (h : PairsAt W b n g) : b < W.heap.size := by
  obtain ⟨es, clock, hb, -⟩ := h
  exact (Array.getElem?_eq_some_iff.1 hb).1
theorem PairsAt.kept (h : PairsAt W b n g) (hb : W'.heap[b]? = W.heap[b]?) : PairsAt W' b n g := by
  obtain ⟨es, clock, h1, h2⟩ := h
  exact ⟨es, clock, hb.trans h1, h2⟩
theorem PairsAt.below {B : Nat} (h : PairsAt W b n g) (hb : Below B W W') (hlt : b < B) : PairsAt W' b n g := h.kept (hb.block b hlt)
theorem PairsAt.imp (h : PairsAt W b n g) (hG : ∀ i k, In64 i → In64 k → g' i k = g i k) : PairsAt W b n g' := by
  obtain ⟨es, clock, h1, h2, h3, h4⟩ := h
  exact ⟨es, clock, h1, h2, h3, fun i k hi hk l hl z => by rw [hG i k hi hk]; exact h4 i k hi hk l hl z⟩
theorem PairsAt.made (w : World) : PairsAt (w.alloc (.map #[] 0)) w.heap.size 0 (fun _ _ => none) :=
  ⟨#[], 0, World.alloc_heap_new w _, ⟨by simp, stamped_empty 0, fun x hx => by simp at hx⟩, by simp, fun i k _ _ l _ z => rfl⟩
theorem zeroInt5 (w : World) : (zeroValue 3).run Try.prog w = .ok (.int .i64 0) w := by kernel_rfl
theorem RI_some {v : Value} {y : DataW Unit × List MemPlace} (h : RI v = some y) : ∃ m, v = .int .i64 m ∧ y.1 = .lit (.int .i64 m) := by
  unfold RI at h
  split at h
  · injection h with h; exact ⟨_, rfl, by rw [← h]⟩
  · exact absurd h (by simp)
/-- v, ok := centred[pair] -/
theorem PairsAt.look (h : PairsAt W b n g) {i k : Int} (hi : In64 i) (hk : In64 k) :
    (g i k = none ∧ (Instr.lookup 85 (.map (some b)) (.agg #[.int .i64 i, .int .i64 k]) true).run Try.prog W = .ok (.tuple #[.int .i64 0, .bool false]) W) ∨
    ∃ m, g i k = some m ∧ (Instr.lookup 85 (.map (some b)) (.agg #[.int .i64 i, .int .i64 k]) true).run Try.prog W = .ok (.tuple #[.int .i64 m, .bool true]) W := by
  obtain ⟨es, clock, hb, F, -, hG⟩ := h
  obtain ⟨l, hl⟩ := key_pair hi hk
  have h4 := hG i k hi hk l hl
  rcases Maps.fit_look true keyed_pair und_glue (zeroInt5 W) hb F hl with ⟨h1, -, h3⟩ | ⟨e0, y, hm, hkk, h1, h2, h3, -⟩
  · refine .inl ⟨?_, h1⟩
    cases hg : g i k with
    | none => rfl
    | some m =>
      exfalso
      have e := (h3 .nil).symm.trans (h4 .nil)
      rw [hg] at e
      simp [optD] at e
  · obtain ⟨m, hv, hy⟩ := RI_some h2
    rw [hv] at h1
    cases hg : g i k with
    | none =>
      exfalso
      have e := (h3 .nil).symm.trans (h4 .nil)
      rw [hg, hy] at e
      simp [optD] at e
    | some m' =>
      have e := (h3 .nil).symm.trans (h4 .nil)
      rw [hg, hy] at e
      have e2 : m = m' := by simpa [optD] using e
      exact .inr ⟨m', rfl, by rw [← e2]; exact h1⟩
/-- centred[pair] = m -/
theorem PairsAt.store (h : PairsAt W b n g) {i k : Int} (hi : In64 i) (hk : In64 k) (hn : n < 1000000) (m : Int) :
    ∃ W', (Instr.mapUpdate 85 (.map (some b)) (.agg #[.int .i64 i, .int .i64 k]) (.int .i64 m)).run Try.prog W = .ok () W' ∧ PairsAt W' b (n + 1) (fun i' k' => if i' = i ∧ k' = k then some m else g i' k') ∧ W.grownBy W' (some b) ∧ W'.heap.size = W.heap.size := by
  obtain ⟨es, clock, hb, F, hn', hG⟩ := h
  obtain ⟨l, hl⟩ := key_pair hi hk
  obtain ⟨es', clock', h1, F', h2, -, -, h5⟩ := Maps.fit_store (R' := RI) keyed_pair und_glue hb F (by unfold maxLen; omega) (fun _ _ _ _ hz => hz) hl (yv := (.lit (.int .i64 m), [])) (val := .int .i64 m) rfl
  refine ⟨_, h1, ⟨es', clock', Go.ChangeMaps.heap_setBlock_same hb _, F', ?_, fun i' k' hi' hk' l' hl' z => ?_⟩, ⟨rfl, rfl, rfl, by simp [setBlock], fun i _ hi => Go.ChangeMaps.heap_setBlock_other hb _ (fun e => hi (by rw [e]))⟩, by simp [setBlock]⟩
  · have e1 : es'.size = ((es'.toList.map (Go.WideElems.rg Try.prog 131 RI)).foldr DataW.insert []).length := by rw [length_sorted]; simp
    rw [e1, h2]
    unfold Go.ChangeMaps.putKey
    rw [length_insert]
    have e2 := List.length_filter_le (Go.ChangeMaps.notKey l) ((es.toList.map (Go.WideElems.rg Try.prog 131 RI)).foldr DataW.insert [])
    rw [length_sorted] at e2
    simp at e2
    omega
  · rw [h2]
    show _ = optD (if i' = i ∧ k' = k then some m else g i' k') z
    by_cases he : i' = i ∧ k' = k
    · rw [if_pos he]
      obtain ⟨rfl, rfl⟩ := he
      have hll : l' = l := Option.some.inj (hl'.symm.trans hl)
      clear hl'
      subst hll
      exact Go.Maps.atKey_put_same ⟨_, rfl⟩ (keyed_pair.key hl) _ z
    · rw [if_neg he]
      have hne : l' ≠ l := fun e => he (by subst e; exact keyV_inj (keyed_pair.inj hl' hl))
      exact (Go.Maps.atKey_put_other (D := .map _) hne _ z).trans (hG i' k' hi' hk' l' hl' z)
end

/-! ### bestPairing's map: each entry is right -/
def R05 : Value → Option (DataW Unit × List MemPlace) := fun _ => some (.nil, [])
/-- Block b is a map of at most n entries, each of which has a turn for its key and meets G. -/
def MemoAt (W : World) (b n : Nat) (G : Int → Int → Value → Prop) : Prop :=
  ∃ es clock, W.heap[b]? = some (.map es clock) ∧ Fit Try.prog 126 R05 es clock ∧ es.size ≤ n ∧ ∀ e ∈ es.toList, ∃ s t : Int, e.key = keyV s t ∧ G s t e.val
section
variable {W W' : World} {b n : Nat} {G G' : Int → Int → Value → Prop}
theorem MemoAt.lt (h : MemoAt W b n G) : b < W.heap.size := by
  obtain ⟨es, clock, hb, -⟩ := h
  exact (Array.getElem?_eq_some_iff.1 hb).1
theorem MemoAt.kept (h : MemoAt W b n G) (hb : W'.heap[b]? = W.heap[b]?) : MemoAt W' b n G := by
  obtain ⟨es, clock, h1, h2⟩ := h
  exact ⟨es, clock, hb.trans h1, h2⟩
theorem MemoAt.below {B : Nat} (h : MemoAt W b n G) (hb : Below B W W') (hlt : b < B) : MemoAt W' b n G := h.kept (hb.block b hlt)
theorem MemoAt.more (h : MemoAt W b n G) {m : Nat} (hn : n ≤ m) : MemoAt W b m G := by
  obtain ⟨es, clock, h1, h2, h3, h4⟩ := h
  exact ⟨es, clock, h1, h2, by omega, h4⟩
theorem MemoAt.imp (h : MemoAt W b n G) (hG : ∀ s t v, G s t v → G' s t v) : MemoAt W b n G' := by
  obtain ⟨es, clock, h1, h2, h3, h4⟩ := h
  exact ⟨es, clock, h1, h2, h3, fun e he => let ⟨s, t, e1, e2⟩ := h4 e he; ⟨s, t, e1, hG _ _ _ e2⟩⟩
theorem MemoAt.made (w : World) : MemoAt (w.alloc (.map #[] 0)) w.heap.size 0 G :=
  ⟨#[], 0, World.alloc_heap_new w _, ⟨by simp, stamped_empty 0, fun x hx => by simp at hx⟩, by simp, fun e he => by simp at he⟩
def pairingZ : Value := .agg #[.slice none 0 0, .int .i64 0]
theorem zeroPairing (w : World) : (zeroValue 83).run Try.prog w = .ok pairingZ w := by kernel_rfl
/-- p, ok := known[t] -/
theorem MemoAt.look (h : MemoAt W b n G) {s t : Int} (hs : In64 s) (ht : In64 t) :
    (Instr.lookup 123 (.map (some b)) (.agg #[.int .i64 s, .int .i64 t]) true).run Try.prog W = .ok (.tuple #[pairingZ, .bool false]) W ∨
    ∃ v, G s t v ∧ (Instr.lookup 123 (.map (some b)) (.agg #[.int .i64 s, .int .i64 t]) true).run Try.prog W = .ok (.tuple #[v, .bool true]) W := by
  obtain ⟨es, clock, hb, F, -, hG⟩ := h
  obtain ⟨l, hl⟩ := key_turn hs ht
  rcases Maps.fit_look true keyed_turn und_memo (zeroPairing W) hb F hl with ⟨h1, -⟩ | ⟨e0, y, hm, hk, h1, -⟩
  · exact .inl h1
  · obtain ⟨s', t', e1, e2⟩ := hG e0 hm
    obtain ⟨rfl, rfl⟩ := keyV_inj (e1.symm.trans hk)
    exact .inr ⟨e0.val, e2, h1⟩
/-- known[t] = p -/
theorem MemoAt.store (h : MemoAt W b n G) {s t : Int} (hs : In64 s) (ht : In64 t) (hn : n < 1000000) (v : Value) (hv : G s t v) :
    ∃ W', (Instr.mapUpdate 123 (.map (some b)) (.agg #[.int .i64 s, .int .i64 t]) v).run Try.prog W = .ok () W' ∧ MemoAt W' b (n + 1) G ∧ W.grownBy W' (some b) ∧ W'.heap.size = W.heap.size := by
  obtain ⟨es, clock, hb, F, hn', hG⟩ := h
  obtain ⟨l, hl⟩ := key_turn hs ht
  obtain ⟨es', clock', h1, F', h2, -, -, h5⟩ := Maps.fit_store (R' := R05) keyed_turn und_memo hb F (by unfold maxLen; omega) (fun _ _ _ _ hz => hz) hl (yv := (.nil, [])) (val := v) rfl
  refine ⟨_, h1, ⟨es', clock', Go.ChangeMaps.heap_setBlock_same hb _, F', ?_, fun e he => ?_⟩, ⟨rfl, rfl, rfl, by simp [setBlock], fun i _ hi => Go.ChangeMaps.heap_setBlock_other hb _ (fun e => hi (by rw [e]))⟩, by simp [setBlock]⟩
  · have e1 : es'.size = ((es'.toList.map (Go.WideElems.rg Try.prog 126 R05)).foldr DataW.insert []).length := by rw [length_sorted]; simp
    rw [e1, h2]
    unfold Go.ChangeMaps.putKey
    rw [length_insert]
    have e2 := List.length_filter_le (Go.ChangeMaps.notKey l) ((es.toList.map (Go.WideElems.rg Try.prog 126 R05)).foldr DataW.insert [])
    rw [length_sorted] at e2
    simp at e2
    omega
  · rcases h5 e he with ⟨h6, -⟩ | ⟨h6, h7⟩
    · exact hG e h6
    · exact ⟨s, t, h6, by rw [h7]; exact hv⟩
end
end Go.Proofs.Ytfpfafijockfnaa
