/- The map of what is known: keys are states, arrays of five numbers. -/
import Derived.Test.YtdadgljllnkppaaLib
import Derived.Maps.Keyed
import Derived.DeepKeys4
import Derived.Maps.OwnSet
namespace Go.Proofs.Ytdadgljllnkppaa
open Go.RowKit Go.Shelf Go.WideShapes Go.MapKept
open Go.ChangeMaps (setBlock)
open Go.WideElems (Fit)
open Go.Maps (Keyed)

/-- A state: what was drawn through four dies, and the die on the press. -/
structure Sta where
  a : Int
  b : Int
  c : Int
  d : Int
  on : Int
  deriving DecidableEq
def staV (s : Sta) : Value := .agg #[.int .i64 s.a, .int .i64 s.b, .int .i64 s.c, .int .i64 s.d, .int .i64 s.on]
def Sta.fit (s : Sta) : Prop := (0 ≤ s.a ∧ s.a ≤ 8000) ∧ (0 ≤ s.b ∧ s.b ≤ 8000) ∧ (0 ≤ s.c ∧ s.c ≤ 8000) ∧ (0 ≤ s.d ∧ s.d ≤ 8000) ∧ -1 ≤ s.on ∧ s.on ≤ 4
theorem staV_inj {s t : Sta} (h : staV s = staV t) : s = t := by
  cases s; cases t; simp only [staV, Value.agg.injEq, Array.mk.injEq, List.cons.injEq, Value.int.injEq, true_and, and_true] at h
  obtain ⟨rfl, rfl, rfl, rfl, rfl⟩ := h
  rfl
theorem und_int : Try.prog.underlying 3 = some (.int .i64) := by kernel_rfl
theorem und_state : Try.prog.underlying 161 = some (.array 5 3) := by kernel_rfl
theorem und_known : Try.prog.underlying 158 = some (.map 161 122) := by kernel_rfl
theorem keyed_state : Keyed Try.prog 161 := Keyed.of_law (deep_law_laid (m := 10) (by kernel_rfl) (by decide) (by decide +kernel) (by kernel_rfl) (by rw [und_state]))
theorem wf_of {x : Int} (h : -1 ≤ x) (h' : x ≤ 8000) : (Lit.int .i64 x).wf = true := by
  simp only [Lit.wf, Bool.and_eq_true, decide_eq_true_eq]
  simp [IntKind.min, IntKind.max, IntKind.signed, IntKind.bits]
  omega
theorem cells_int : Try.prog.cellsOf 3 = 1 := by kernel_rfl
theorem cells_state : Try.prog.cellsOf 161 = 5 := by kernel_rfl
theorem kt_state : Try.prog.keyType 161 = true := by kernel_rfl
theorem size_types : ∃ m, Try.prog.types.size = m + 1 := ⟨Try.prog.types.size - 1, by have : 0 < Try.prog.types.size := by decide +kernel
                                                                                      omega⟩
theorem key_state {s : Sta} (h : s.fit) : ∃ l, keyOf Try.prog 161 (staV s) = some l := by
  obtain ⟨⟨a0, a1⟩, ⟨b0, b1⟩, ⟨c0, c1⟩, ⟨d0, d1⟩, e0, e1⟩ := h
  have wa := wf_of (x := s.a) (by omega) (by omega)
  have wb := wf_of (x := s.b) (by omega) (by omega)
  have wc := wf_of (x := s.c) (by omega) (by omega)
  have wd := wf_of (x := s.d) (by omega) (by omega)
  have we := wf_of (x := s.on) (by omega) (by omega)
  obtain ⟨m, hm⟩ := size_types
  unfold keyOf staV
  simp only [und_state]
  rw [if_pos (by simp [kt_state, Value.formed, cells_state]), hm]
  unfold Program.keyLits
  simp only [und_state, Value.cells]
  rw [if_pos (by rw [cells_state]; rfl), show List.range 5 = [0, 1, 2, 3, 4] from rfl, List.mapM_cons, List.mapM_cons, List.mapM_cons, List.mapM_cons, List.mapM_cons, List.mapM_nil]
  simp [cells_int, Program.keyLits, wa, wb, wc, wd, we]

def R0 : Value → Option (DataW Unit × List MemPlace) := fun _ => some (.nil, [])
/-- Block b is a map of at most n entries, each of which has a state for its key and meets G. -/
def KnownAt (W : World) (b n : Nat) (G : Sta → Value → Prop) : Prop :=
  ∃ es clock, W.heap[b]? = some (.map es clock) ∧ Fit Try.prog 161 R0 es clock ∧ es.size ≤ n ∧ ∀ e ∈ es.toList, ∃ s : Sta, e.key = staV s ∧ G s e.val
section
variable {W W' : World} {b n : Nat} {G G' : Sta → Value → Prop}
theorem KnownAt.lt (h : KnownAt W b n G) : b < W.heap.size := by
  obtain ⟨es, clock, hb, -⟩ := h
  exact (Array.getElem?_eq_some_iff.1 hb).1
theorem KnownAt.kept (h : KnownAt W b n G) (hb : W'.heap[b]? = W.heap[b]?) : KnownAt W' b n G := by
  obtain ⟨es, clock, h1, h2⟩ := h
  exact ⟨es, clock, hb.trans h1, h2⟩
theorem KnownAt.below {B : Nat} (h : KnownAt W b n G) (hb : Below B W W') (hlt : b < B) : KnownAt W' b n G := h.kept (hb.block b hlt)
theorem KnownAt.more (h : KnownAt W b n G) {m : Nat} (hn : n ≤ m) : KnownAt W b m G := by
  obtain ⟨es, clock, h1, h2, h3, h4⟩ := h
  exact ⟨es, clock, h1, h2, by omega, h4⟩
theorem KnownAt.imp (h : KnownAt W b n G) (hG : ∀ s v, G s v → G' s v) : KnownAt W b n G' := by
  obtain ⟨es, clock, h1, h2, h3, h4⟩ := h
  exact ⟨es, clock, h1, h2, h3, fun e he => let ⟨s, e1, e2⟩ := h4 e he; ⟨s, e1, hG _ _ e2⟩⟩
theorem KnownAt.made (w : World) : KnownAt (w.alloc (.map #[] 0)) w.heap.size 0 G :=
  ⟨#[], 0, World.alloc_heap_new w _, ⟨by simp, stamped_empty 0, fun x hx => by simp at hx⟩, by simp, fun e he => by simp at he⟩
def restZ : Value := .agg #[.slice none 0 0, .int .i64 0, .bool false]
theorem zeroRest (w : World) : (zeroValue 122).run Try.prog w = .ok restZ w := by kernel_rfl
/-- v, ok := known[s] -/
theorem KnownAt.look (h : KnownAt W b n G) {s : Sta} (hs : s.fit) :
    (Instr.lookup 158 (.map (some b)) (staV s) true).run Try.prog W = .ok (.tuple #[restZ, .bool false]) W ∨
    ∃ v, G s v ∧ (Instr.lookup 158 (.map (some b)) (staV s) true).run Try.prog W = .ok (.tuple #[v, .bool true]) W := by
  obtain ⟨es, clock, hb, F, -, hG⟩ := h
  obtain ⟨l, hl⟩ := key_state hs
  rcases Maps.fit_look true keyed_state und_known (zeroRest W) hb F hl with ⟨h1, -⟩ | ⟨e0, y, hm, hk, h1, -⟩
  · exact .inl h1
  · obtain ⟨s', e1, e2⟩ := hG e0 hm
    obtain rfl : s' = s := staV_inj (e1.symm.trans hk)
    exact .inr ⟨e0.val, e2, h1⟩
/-- known[s] = v -/
theorem KnownAt.store (h : KnownAt W b n G) {s : Sta} (hs : s.fit) (hn : n < 1000000) (v : Value) (hv : G s v) :
    ∃ W', (Instr.mapUpdate 158 (.map (some b)) (staV s) v).run Try.prog W = .ok () W' ∧ KnownAt W' b (n + 1) G ∧ W.grownBy W' (some b) ∧ W'.heap.size = W.heap.size := by
  obtain ⟨es, clock, hb, F, hn', hG⟩ := h
  obtain ⟨l, hl⟩ := key_state hs
  obtain ⟨es', clock', h1, F', h2, -, -, h5⟩ := Maps.fit_store (R' := R0) keyed_state und_known hb F (by unfold maxLen; omega) (fun _ _ _ _ hz => hz) hl (yv := (.nil, [])) (val := v) rfl
  refine ⟨_, h1, ⟨es', clock', Go.ChangeMaps.heap_setBlock_same hb _, F', ?_, fun e he => ?_⟩, ⟨rfl, rfl, rfl, by simp [setBlock], fun i _ hi => Go.ChangeMaps.heap_setBlock_other hb _ (fun e => hi (by rw [e]))⟩, by simp [setBlock]⟩
  · have e1 : es'.size = ((es'.toList.map (Go.WideElems.rg Try.prog 161 R0)).foldr DataW.insert []).length := by rw [length_sorted]; simp
    rw [e1, h2]
    unfold Go.ChangeMaps.putKey
    rw [length_insert]
    have e2 := List.length_filter_le (Go.ChangeMaps.notKey l) ((es.toList.map (Go.WideElems.rg Try.prog 161 R0)).foldr DataW.insert [])
    rw [length_sorted] at e2
    simp at e2
    omega
  · rcases h5 e he with ⟨h6, -⟩ | ⟨h6, h7⟩
    · exact hG e h6
    · exact ⟨s, h6, by rw [h7]; exact hv⟩
end
end Go.Proofs.Ytdadgljllnkppaa
