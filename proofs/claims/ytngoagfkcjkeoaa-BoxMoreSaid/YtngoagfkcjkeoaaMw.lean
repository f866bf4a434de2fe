/- Walks: the law BoxMore. -/
import Derived.Test.YtngoagfkcjkeoaaUo
import Derived.Test.YtngoagfkcjkeoaaGb
namespace Go.Proofs.Ytngoagfkcjkeoaa
open Go.RowKit Go.Shelf

theorem wrap_byte7 : ∀ x < 256, wrap64 ((x : Nat) : Int) = ((x : Nat) : Int) := by decide +kernel
theorem rem_nat7 {x : Int} {n : Nat} (h0 : 0 ≤ x) (h1 : x ≤ 255) : (wrap64 x).tmod (n : Int) = ((x.toNat % n : Nat) : Int) := by
  obtain ⟨y, rfl⟩ : ∃ y : Nat, x = y := ⟨x.toNat, by omega⟩
  rw [wrap_byte7 y (by omega), Int.tmod_eq_emod_of_nonneg (by omega), Int.toNat_natCast, Int.natCast_emod]
theorem quo_tab : ∀ x < 256, IntKind.i64.wrap ((IntKind.i64.wrap ((x : Nat) : Int)).tdiv 8) = ((x / 8 : Nat) : Int) := by decide +kernel
theorem quo_nat {x : Int} {n : Nat} (h0 : 0 ≤ x) (h1 : x ≤ 255) : (IntKind.i64.wrap ((IntKind.i64.wrap x).tdiv 8)).tmod (n : Int) = ((x.toNat / 8 % n : Nat) : Int) := by
  obtain ⟨y, rfl⟩ : ∃ y : Nat, x = y := ⟨x.toNat, by omega⟩
  rw [quo_tab y (by omega), Int.tmod_eq_emod_of_nonneg (by omega), Int.toNat_natCast, Int.natCast_emod]
theorem own_kept9 {W W' : World} {B : Nat} {e : TypeId} {size g n cap k : Nat} {xs : List Value} {v : Value} (h : W.ownsRow B e size (.slice (some ⟨g, 0, none⟩) n cap) k xs) (hg : W.grownBy W' v.ownBlock) (hne : v.ownBlock ≠ some g) : W'.ownsRow B e size (.slice (some ⟨g, 0, none⟩) n cap) k xs := by
  refine ⟨h.1, ?_⟩
  rcases h.2 with ⟨h2, -⟩ | ⟨g', cap', cur, h1, h2, h3, h4⟩
  · cases h2
  · have h1' := h1
    rw [Value.slice.injEq] at h1'
    have e1 : g = g' := by simpa using h1'.1
    subst e1
    exact .inr ⟨g, cap', cur, h1, h2, Blk.kept h3 hg (fun e => hne e.symm), h4⟩
theorem own_setNe7 {W : World} {B : Nat} {e : TypeId} {size gl n cap k : Nat} {xs : List Value} (h : W.ownsRow B e size (.slice (some ⟨gl, 0, none⟩) n cap) k xs) {g : Nat} (hne : g ≠ gl) (o : Nat) (u : Value) : (W.setCell ⟨g, o, none⟩ u).ownsRow B e size (.slice (some ⟨gl, 0, none⟩) n cap) k xs := by
  refine ⟨h.1, ?_⟩
  rcases h.2 with ⟨h2, -⟩ | ⟨g', cap', cur, h1, h2, h3, h4⟩
  · cases h2
  · have h1' := h1
    rw [Value.slice.injEq] at h1'
    have e1 : gl = g' := by simpa using h1'.1
    exact .inr ⟨g', cap', cur, h1, h2, (Below.heap_setCell W ⟨g, o, none⟩ u g' (fun e' => hne (by rw [e1]; exact e'.symm))).trans h3, h4⟩
theorem or_tab : ∀ o < 256, ∀ j < 8, bits BinOp.or IntKind.i64 ((o : Nat) : Int) (2 ^ j) = ((o ||| 2 ^ j : Nat) : Int) := by decide +kernel
theorem rot_inj {m t i j : Nat} (hi : i < m) (hj : j < m) (h : (i + t) % m = (j + t) % m) : i = j := by
  have a := Nat.div_add_mod (i + t) m
  have b := Nat.div_add_mod (j + t) m
  rw [h] at a
  rcases Nat.lt_trichotomy ((i + t) / m) ((j + t) / m) with c | c | c
  · have := Nat.mul_le_mul_left m (show (i + t) / m + 1 ≤ (j + t) / m from c)
    rw [Nat.mul_add, Nat.mul_one] at this
    omega
  · rw [c] at a
    omega
  · have := Nat.mul_le_mul_left m (show (j + t) / m + 1 ≤ (i + t) / m from c)
    rw [Nat.mul_add, Nat.mul_one] at this
    omega
theorem add_tab : ∀ x < 256, ∀ i < 8, IntKind.i64.wrap ((i : Nat) + IntKind.i64.wrap ((x : Nat) : Int)) = ((i + x : Nat) : Int) := by decide +kernel
theorem add_rem {x : Int} {n i : Nat} (h0 : 0 ≤ x) (h1 : x ≤ 255) (hi : i < 8) : (IntKind.i64.wrap ((i : Int) + IntKind.i64.wrap x)).tmod (n : Int) = (((i + x.toNat) % n : Nat) : Int) := by
  obtain ⟨y, rfl⟩ : ∃ y : Nat, x = y := ⟨x.toNat, by omega⟩
  rw [add_tab y (by omega) i hi, Int.tmod_eq_emod_of_nonneg (by omega), Int.toNat_natCast, Int.natCast_emod]
theorem add_rem64 {x : Int} {n i : Nat} (h0 : 0 ≤ x) (h1 : x ≤ 255) (hi : i < 8) : (wrap64 ((i : Int) + wrap64 x)).tmod (n : Int) = (((i + x.toNat) % n : Nat) : Int) := by
  rw [← IntWalk.i64_left, ← IntWalk.i64_left]
  exact add_rem h0 h1 hi
theorem rot_set {need V : List Int} {t i : Nat} (hV : V.length = need.length) (hi : i < need.length) (h : ∀ j, j < i → V.getD ((j + t) % need.length) 0 = need.getD j 0) : ∀ j, j < i + 1 → (V.set ((i + t) % need.length) need[i]).getD ((j + t) % need.length) 0 = need.getD j 0 := fun j hj => by
  have hm := Nat.mod_lt (i + t) (show 0 < need.length by omega)
  rw [List.getD_eq_getElem?_getD, List.getElem?_set]
  by_cases e : (i + t) % need.length = (j + t) % need.length
  · obtain rfl : i = j := rot_inj hi (by omega) e
    rw [if_pos rfl, if_pos (by omega), Option.getD_some, List.getD_eq_getElem?_getD, List.getElem?_eq_getElem hi, Option.getD_some]
  · rw [if_neg e, ← List.getD_eq_getElem?_getD]
    refine h j ?_
    rcases Nat.lt_or_ge j i with c | c
    · exact c
    · obtain rfl : j = i := by omega
      exact absurd rfl e
theorem rot_bit {m t s z o : Nat} (hs : s < m) (hz : ∀ k, k < m → z.testBit ((k + t) % m) = (decide (k < s) && o.testBit k)) : (o.testBit s = true → ∀ k, k < m → (z ||| 2 ^ ((s + t) % m)).testBit ((k + t) % m) = (decide (k < s + 1) && o.testBit k)) ∧ (o.testBit s = false → ∀ k, k < m → z.testBit ((k + t) % m) = (decide (k < s + 1) && o.testBit k)) := by
  refine ⟨fun hb k hk => ?_, fun hb k hk => ?_⟩
  · rw [Nat.testBit_or, hz k hk, Nat.testBit_two_pow]
    by_cases e : k = s
    · subst e
      simp [hb]
    · have h1 : ¬ (s + t) % m = (k + t) % m := fun h => e (rot_inj hk hs h.symm)
      rw [decide_eq_false h1, Bool.or_false]
      by_cases h2 : k < s
      · rw [decide_eq_true h2, decide_eq_true (show k < s + 1 by omega)]
      · rw [decide_eq_false h2, decide_eq_false (show ¬ k < s + 1 by omega)]
  · rw [hz k hk]
    by_cases e : k = s
    · subst e
      simp [hb]
    · by_cases h2 : k < s
      · rw [decide_eq_true h2, decide_eq_true (show k < s + 1 by omega)]
      · rw [decide_eq_false h2, decide_eq_false (show ¬ k < s + 1 by omega)]
theorem ok_piles7 {need : List Int} {l l' : List Pile} (h : boxOk need l = true) (hl : l'.length ≤ 8) (hm : ∀ p ∈ l', (0 ≤ p.shades ∧ p.shades < 2 ^ need.length) ∧ 0 ≤ p.many ∧ p.many ≤ 1048576) : boxOk need l' = true := by
  unfold boxOk at *
  rw [Bool.and_eq_true] at *
  refine ⟨h.1, ?_⟩
  unfold pilesOk
  rw [Bool.and_eq_true, decide_eq_true_eq, List.all_eq_true]
  exact ⟨hl, fun p hp => by rw [decide_eq_true_eq]; exact hm p hp⟩
theorem ok_in7 {need : List Int} {l : List Pile} (h : boxOk need l = true) : ∀ p ∈ l, (0 ≤ p.shades ∧ p.shades < 2 ^ need.length) ∧ 0 ≤ p.many ∧ p.many ≤ 1048576 := by
  unfold boxOk at h
  rw [Bool.and_eq_true] at h
  exact (pile_parts h.2).2
theorem ok_set7 {need : List Int} {l : List Pile} (h : boxOk need l = true) (k : Nat) {q : Pile} (hq : (0 ≤ q.shades ∧ q.shades < 2 ^ need.length) ∧ 0 ≤ q.many ∧ q.many ≤ 1048576) : boxOk need (l.set k q) = true := ok_piles7 h (by rw [List.length_set]; have := h; unfold boxOk at this; rw [Bool.and_eq_true] at this; exact (pile_parts this.2).1) fun p hp => by
  rcases List.mem_or_eq_of_mem_set hp with hp | rfl
  · exact ok_in7 h p hp
  · exact hq
theorem ok_turned {need own : List Int} {l l' : List Pile} {t : Nat} (h : boxOk need l = true) (hT : Turned need own l l' t) : boxOk own l' = true := by
  have hok := h
  unfold boxOk at h
  rw [Bool.and_eq_true] at h
  obtain ⟨⟨n1, n2⟩, n3, n, hn, n4⟩ := need_parts h.1
  obtain ⟨p1, p2⟩ := pile_parts h.2
  have hm : 0 < need.length := n1
  have hall : ∀ x ∈ own, 0 ≤ x ∧ x ≤ 48 := fun x hx => by
    obtain ⟨j, hj, rfl⟩ := List.getElem_of_mem hx
    obtain ⟨k, k1, k2⟩ := turn_onto (t := t) hm (by rw [hT.olen] at hj; exact hj : j < need.length)
    have e := hT.own k k1
    rw [k2, List.getD_eq_getElem?_getD, List.getElem?_eq_getElem hj, Option.getD_some, List.getD_eq_getElem?_getD, List.getElem?_eq_getElem k1, Option.getD_some] at e
    rw [e]
    exact n3 _ (List.getElem_mem k1)
  have hpos : ∃ x ∈ own, 0 < x := by
    obtain ⟨k, k1, rfl⟩ := List.getElem_of_mem hn
    have hj := Nat.mod_lt (k + t) hm
    have e := hT.own k k1
    rw [List.getD_eq_getElem?_getD, List.getElem?_eq_getElem (by rw [hT.olen]; exact hj), Option.getD_some, List.getD_eq_getElem?_getD, List.getElem?_eq_getElem k1, Option.getD_some] at e
    exact ⟨_, List.getElem_mem (by rw [hT.olen]; exact hj), by rw [e]; exact n4⟩
  unfold boxOk needOk pilesOk
  rw [Bool.and_eq_true, Bool.and_eq_true, Bool.and_eq_true, decide_eq_true_eq, List.all_eq_true, List.any_eq_true, Bool.and_eq_true, decide_eq_true_eq, List.all_eq_true]
  refine ⟨⟨⟨by rw [hT.olen]; exact ⟨n1, n2⟩, fun x hx => by rw [decide_eq_true_eq]; exact hall x hx⟩, ?_⟩, by rw [hT.llen]; exact p1, fun q hq => ?_⟩
  · obtain ⟨x, hx, h0⟩ := hpos
    exact ⟨x, hx, by rw [decide_eq_true_eq]; exact h0⟩
  · rw [decide_eq_true_eq]
    obtain ⟨i, hi, rfl⟩ := List.getElem_of_mem hq
    have hl0 : 0 < l.length := by rw [← hT.llen]; omega
    have hlt := Nat.mod_lt (i + t) hl0
    obtain ⟨a1, a2, a3, -⟩ := hT.pile i hi hlt
    have hp := (p2 _ (List.getElem_mem hlt)).2
    rw [a1, hT.olen]
    refine ⟨⟨a2, ?_⟩, hp⟩
    have : ((l'[i].shades.toNat : Nat) : Int) < ((2 ^ need.length : Nat) : Int) := by omega
    rw [Int.toNat_of_nonneg a2] at this
    simpa using this
theorem most_ok {need : List Int} {l : List Pile} {w : World} {e : Ending} {w' : World} (h : RetMo need l w e w') (hok : boxOk need l = true) : ∃ a b, e = .returned (.tuple #[.int .i64 a, .int .i64 b, .int .i64 0]) ∧ GreatOf (canB need l) 8388608 a ∧ Below w.heap.size w w' := by
  obtain ⟨⟨a, b, c, rfl, hm⟩, hb⟩ := h
  rcases hm with ⟨-, h2, rfl, rfl⟩ | ⟨h1, -⟩
  · exact ⟨a, _, rfl, h2, hb⟩
  · rw [hok] at h1; cases h1
theorem pileV_app7 : ∀ (a b : List Pile), pileV (a ++ b) = pileV a ++ pileV b
  | [], _ => rfl
  | q :: a, b => by simp only [List.cons_append, pileV, pileV_app7 a b]
/-- What is known of the piles that were turned so far. -/
def TurnP (m : Nat) (l T : List Pile) (t : Nat) : Prop := ∀ j (h : j < T.length) (h' : (j + t) % l.length < l.length), T[j].many = l[(j + t) % l.length].many ∧ 0 ≤ T[j].shades ∧ T[j].shades.toNat < 2 ^ m ∧ ∀ k, k < m → T[j].shades.toNat.testBit ((k + t) % m) = l[(j + t) % l.length].shades.toNat.testBit k
theorem TurnP.snoc {m : Nat} {l T : List Pile} {t z o : Nat} {mi : Int} (h : TurnP m l T t) (hlt : (T.length + t) % l.length < l.length) (hmi : l[(T.length + t) % l.length].many = mi) (ho : l[(T.length + t) % l.length].shades = (o : Int)) (hz : z < 2 ^ m) (hb : ∀ k, k < m → z.testBit ((k + t) % m) = (decide (k < m) && o.testBit k)) : TurnP m l (T ++ [⟨(z : Int), mi⟩]) t := fun j hj h' => by
  by_cases e : j < T.length
  · rw [List.getElem_append_left e]
    exact h j e h'
  · have e1 : j = T.length := by rw [List.length_append] at hj; simp at hj; omega
    subst e1
    rw [List.getElem_append_right (Nat.le_refl _)]
    simp only [Nat.sub_self, List.getElem_cons_zero]
    refine ⟨hmi.symm, by omega, by rw [Int.toNat_natCast]; exact hz, fun k hk => ?_⟩
    rw [Int.toNat_natCast, hb k hk, decide_eq_true hk, Bool.true_and, ho, Int.toNat_natCast]
/-- What the law holds: two lists of piles of its own. -/
structure MoW (V : World) (g4 c4 g5 c5 n : Nat) (rich wide : List Pile) (U : World) : Prop where
  hb : Below V.heap.size V U
  r : U.ownsRow V.heap.size 46 2 (.slice (some ⟨g4, 0, none⟩) n c4) n (pileV rich)
  wd : U.ownsRow V.heap.size 46 2 (.slice (some ⟨g5, 0, none⟩) n c5) n (pileV wide)
section
variable {V : World} {g4 c4 g5 c5 n : Nat} {rich wide : List Pile} {U : World}
theorem MoW.call (h : MoW V g4 c4 g5 c5 n rich wide U) {U' : World} (hb : Below U.heap.size U U') : MoW V g4 c4 g5 c5 n rich wide U' := ⟨h.hb.trans (hb.mono h.hb.size), own_low9 h.r hb, own_low9 h.wd hb⟩
theorem MoW.far (h : MoW V g4 c4 g5 c5 n rich wide U) {g : Nat} (h1 : g ≠ g4) (h2 : g ≠ g5) (h3 : V.heap.size ≤ g) (o : Nat) (u : Value) : MoW V g4 c4 g5 c5 n rich wide (U.setCell ⟨g, o, none⟩ u) := ⟨h.hb.setCell (p := ⟨g, o, none⟩) h3 u, own_setNe7 h.r h1 o u, own_setNe7 h.wd h2 o u⟩
theorem MoW.grown (h : MoW V g4 c4 g5 c5 n rich wide U) {U' : World} {v : Value} (hg : U.grownBy U' v.ownBlock) (h1 : v.ownBlock ≠ some g4) (h2 : v.ownBlock ≠ some g5) (h3 : ∀ j, v.ownBlock = some j → V.heap.size ≤ j) : MoW V g4 c4 g5 c5 n rich wide U' := ⟨Below.grown h.hb hg h.hb.size h3, own_kept9 h.r hg h1, own_kept9 h.wd hg h2⟩
theorem MoW.setR (h : MoW V g4 c4 g5 c5 n rich wide U) (h1 : g4 ≠ g5) (h3 : V.heap.size ≤ g4) {k : Nat} (hk : k < rich.length) (x : Int) : MoW V g4 c4 g5 c5 n (rich.set k ⟨rich[k].shades, x⟩) wide (U.setCell ⟨g4, k * 2 + 1, none⟩ (.int .i64 x)) := ⟨h.hb.setCell (p := ⟨g4, _, none⟩) h3 _, by have := (h.r.stored (k * 2 + 1) (.int .i64 x)).1; rwa [pileV_set x rich k hk] at this, own_setNe7 h.wd h1 _ _⟩
end
theorem pileV_sh (x : Int) : ∀ (l : List Pile) (k : Nat) (h : k < l.length), (pileV l).set (k * 2) (.int .i64 x) = pileV (l.set k ⟨x, l[k].many⟩)
  | p :: l, 0, _ => rfl
  | p :: l, k + 1, h => by
    rw [show (k + 1) * 2 = k * 2 + 1 + 1 by omega]
    simp only [pileV, List.set_cons_succ, List.getElem_cons_succ]
    rw [pileV_sh x l k (by simpa using h)]
theorem MoW.setW {V : World} {g4 c4 g5 c5 n : Nat} {rich wide : List Pile} {U : World} (h : MoW V g4 c4 g5 c5 n rich wide U) (h1 : g5 ≠ g4) (h3 : V.heap.size ≤ g5) {k : Nat} (hk : k < wide.length) (x : Int) : MoW V g4 c4 g5 c5 n rich (wide.set k ⟨x, wide[k].many⟩) (U.setCell ⟨g5, k * 2, none⟩ (.int .i64 x)) := ⟨h.hb.setCell (p := ⟨g5, _, none⟩) h3 _, own_setNe7 h.r h1 _ _, by have := (h.wd.stored (k * 2) (.int .i64 x)).1; rwa [pileV_sh x wide k hk] at this⟩
set_option maxRecDepth 100000 in
set_option maxHeartbeats 16000000 in
theorem more9_any (w : World) (A B : Option Addr) (c d : Nat) (need : List Int) (l : List Pile) (turn more : Int) (hn : need.length ≤ 9223372036854775807) (hl : l.length ≤ 9223372036854775807) (htb : 0 ≤ turn ∧ turn ≤ 255) (hmb : 0 ≤ more ∧ more ≤ 65535) (hA : IntSl w w.heap.size A need) (hB : PileSl w w.heap.size B l) :
    Calls Try.prog 9 #[.slice A need.length c, .slice B l.length d, .int .u8 turn, .int .u16 more] w (Ret (.bool true) w) := by
  have HA := Lib.hid hA
  have HB := Lib.hid hB
  have HAW := Lib.hid fun W => awake9_any W
  have HTB := Lib.hid htb
  have HMB := Lib.hid hmb
  clear hA hB htb hmb
  go_enter Try.func9, Try.ntmps9
  go_wp2_with fail
  refine (large9_any w A B need.length l.length c d hn hl).mono ?_
  rintro e w0 ⟨rfl, rfl⟩
  cases hlg : (decide (14 < need.length) || decide (14 < l.length)) with
  | true =>
    go_wp2_with fail
    refine (HAW.out _).mono ?_
    rintro e w1 ⟨rfl, hb1⟩
    have HB1 := Lib.hid hb1
    clear hb1
    go_wp2_with fail
    go_ret
    exact ⟨rfl, HB1.out⟩
  | false =>
    clear hlg
    by_cases hl0 : l.length = 0
    · have hl0i : ((l.length : Int) == 0) = true := by rw [beq_iff_eq]; omega
      clear hl0
      go_wp2_with fail
      refine (HAW.out _).mono ?_
      rintro e w1 ⟨rfl, hb1⟩
      have HB1 := Lib.hid hb1
      clear hb1
      go_wp2_with fail
      go_ret
      exact ⟨rfl, HB1.out⟩
    · have hl0i : ((l.length : Int) == 0) = false := by rw [beq_eq_false_iff_ne]; omega
      go_wp2_with fail
      refine (most_any w A B c d need l hn hl HA.out HB.out).mono ?_
      rintro e w1 ⟨⟨x, y, z, rfl, hm⟩, hb1⟩
      have HW := Lib.hid hb1
      clear hb1
      rcases hm with ⟨hok, hg, rfl, rfl⟩ | ⟨hok, rfl, rfl, rfl⟩
      · obtain ⟨hN, hP, hc1, hc8⟩ := ok_in hok
        have HOK := Lib.hid hok
        have HG := Lib.hid hg
        have HP := Lib.hid hP
        have hl8 := hP.1
        generalize (lackingS need l (x + 1) : Int) = y at *
        clear hok hg hP hN
        go_wp2_with fail
        refine (rValid_any w1 A B c d need l hn hl (HA.out.on HW.out (Nat.le_refl _)) (HB.out.on HW.out (Nat.le_refl _))).mono ?_
        rintro e w2 ⟨rfl, hb2⟩
        rw [HOK.out]
        replace HW := Lib.hid (HW.out.trans (hb2.mono HW.out.size))
        clear hb2
        have hL0 : (0 : Int) < l.length := by omega
        have hL1 : (l.length : Int) ≤ 8 := by omega
        have hM0 : (0 : Int) < need.length := by omega
        have hM1 : (need.length : Int) ≤ 8 := by omega
        have hzm : ((need.length : Int) == 0) = false := by rw [beq_eq_false_iff_ne]; omega
        go_upto_region 7 with fail
        rw [rem_nat7 HTB.out.1 HTB.out.2]
        obtain ⟨k, hkE⟩ : ∃ k : Nat, k = turn.toNat % l.length := ⟨_, rfl⟩
        have hk : k < l.length := by rw [hkE]; exact Nat.mod_lt _ (by omega)
        rw [← hkE]
        have HKE := Lib.hid hkE
        clear hkE
        have hki : (k : Int) < l.length := by omega
        have hk0 : (0 : Int) ≤ k := by omega
        obtain ⟨gb, offb, rfl, hgb, hat⟩ := HB.out (by intro e; rw [e] at hk; simp at hk)
        obtain ⟨ga, offa, rfl, hga, hata⟩ := HA.out (by intro e; rw [e] at hM0; simp at hM0)
        have HAT := Lib.hid hat
        have HNA := Lib.hid hata
        obtain ⟨⟨q0, q1⟩, q2, q3⟩ := HP.out.2 l[k] (List.getElem_mem hk)
        obtain ⟨o, ho⟩ : ∃ o : Nat, l[k].shades = (o : Int) := ⟨l[k].shades.toNat, by omega⟩
        have ho8 : o < 256 := by omega
        obtain ⟨i0, hi, hz0, hz1, hz2⟩ := info9 pileInfo9
        have HI := Lib.hid (And.intro hi (And.intro hz0 (And.intro hz1 hz2)))
        have HHP := Lib.hid (HTB.out)
        have hwH : w.heap.size ≤ w2.heap.size := HW.out.size
        clear hi hz0 hz1 hz2 hat hata q0 q1
        have HNW : Hid (∀ W, Below w2.heap.size w2 W → ∀ (j : Nat) u, (pileV l)[j]? = some u → W.cell? ((⟨gb, offb, none⟩ : Addr).add j) = some u) := Lib.hid fun W hW => pile_cells9 (PilesAt.below HAT.out (HW.out.trans (hW.mono HW.out.size)) hgb)
        have HZ0 := Lib.hid (own_zero9 (t := 46) w2 w2.heap.size (Nat.le_refl _) 2)
        have HB0 : Hid (Below w2.heap.size w2 (w2.alloc (.cells #[] 46))) := Lib.hid (Below.refl _ _).alloc (Nat.le_refl _) _
        go_upto_region 8 with (first | (at_builtin; refine wpList_append_own _ rfl _ _ 23 rfl w2.heap.size 46 i0 _ 2 16 und_piles9 HI.out.1 HI.out.2.1 HI.out.2.2.1 HI.out.2.2.2 rfl (by decide) (.slice (some ⟨w2.heap.size, 0, none⟩) 0 0) 0 [] rfl HZ0.out ⟨gb, offb, none⟩ l.length d (pileV l) rfl (pileV_len l) (HNW.out _ HB0.out) (pileV_one l) (by unfold maxLen; omega) (by omega) (by simp) ?_; intro va wa hown hgr hnn; clear hnn; have HOa := Lib.hid hown; have HBa := Lib.hid (Below.grown HB0.out hgr (by simp) fun j e => (HZ0.out.lt j e).1); clear hown hgr) | (at_builtin; refine wpList_append_own _ rfl _ _ 23 rfl wa.heap.size 46 i0 _ 2 16 und_piles9 HI.out.1 HI.out.2.1 HI.out.2.2.1 HI.out.2.2.2 rfl (by decide) (.slice (some ⟨wa.heap.size, 0, none⟩) 0 0) 0 [] rfl (own_zero9 (t := 46) wa wa.heap.size (Nat.le_refl _) 2) ⟨gb, offb, none⟩ l.length d (pileV l) rfl (pileV_len l) (HNW.out _ (HBa.out.alloc HBa.out.size _)) (pileV_one l) (by unfold maxLen; omega) (by omega) (by simp) ?_; intro vb wb hown hgr hnn; clear hnn; have HOb := Lib.hid hown; have HGb := Lib.hid hgr; clear hown hgr) | fail "app")
        rw [Nat.zero_add, List.nil_append] at HOa HOb
        obtain ⟨g4, c4, rfl, h4a, h4b⟩ := own_g9 HOa.out (by omega)
        obtain ⟨g5, c5, rfl, h5a, h5b⟩ := own_g9 HOb.out (by omega)
        have h45 : g4 ≠ g5 := by omega
        have hwab : w2.heap.size ≤ wa.heap.size := HBa.out.size
        have HM0 : Hid (MoW w2 g4 c4 g5 c5 l.length l l wb) := Lib.hid ⟨Below.grown (HBa.out.alloc HBa.out.size (.cells #[] 46)) HGb.out (by simp; omega) (fun j e => by simp [Value.ownBlock] at e; omega), own_kept9 (own_low9 HOa.out ((Below.refl wa.heap.size wa).alloc (Nat.le_refl _) (.cells #[] 46))) HGb.out (by simp [Value.ownBlock]; omega), ⟨HOb.out.1, HOb.out.2.imp id fun ⟨g', cap', cur', e1, e2, e3⟩ => ⟨g', cap', cur', e1, by omega, e3⟩⟩⟩
        have h4c : w2.heap.size ≤ g4 := h4a
        have h5c : w2.heap.size ≤ g5 := by omega
        clear HOa HBa HOb HGb HNW HZ0 HB0
        have hmb0 := HMB.out.1
        have hmb1 := HMB.out.2
        have x1 : wb.cell? ⟨g4, k * 2 + 1, none⟩ = some (.int .i64 l[k].many) := by rw [HM0.out.r.cellAt _ (by omega), (pileV_at l k hk).2]
        have x2 := HM0.out.r.frozenAt (k * 2 + 1)
        go_upto_region 9 with fail
        have HRN : Hid (l[k].many ≤ (if l[k].many + more < 1048576 then l[k].many + more else 1048576) ∧ (if l[k].many + more < 1048576 then l[k].many + more else 1048576) ≤ 1048576) := Lib.hid (by split <;> omega)
        have HM1 := Lib.hid (HM0.out.setR h45 h4c hk (if l[k].many + more < 1048576 then l[k].many + more else 1048576))
        generalize (if l[k].many + more < 1048576 then l[k].many + more else 1048576) = rn at *
        generalize World.setCell wb _ _ = wc at *
        clear x1 x2 HM0
        have x1 : wc.cell? ⟨g5, k * 2, none⟩ = some (.int .i64 (o : Int)) := by rw [HM1.out.wd.cellAt _ (by omega), (pileV_at l k hk).1, ho]
        have HMD := Lib.hid (HM1.out.call (Below.refl _ _).drew)
        have HSD : Hid (wc.drew.cell? ⟨g5, k * 2, none⟩ = some (.int .i64 (o : Int))) := Lib.hid x1
        have HZ : Hid (wc.drew.cell? ⟨g5, k * 2, none⟩ = some (.int .i64 (o : Int)) ∧ wc.drew.frozen? ⟨g5, k * 2, none⟩ = false) := Lib.hid ⟨x1, HMD.out.wd.frozenAt (k * 2)⟩
        clear x1 HM1
        have hne : ¬ need = [] := by intro e; rw [e] at hM0; simp at hM0
        have hq9 := quo_nat (n := need.length) HTB.out.1 HTB.out.2
        obtain ⟨jN, hjE⟩ : ∃ j : Nat, j = turn.toNat / 8 % need.length := ⟨_, rfl⟩
        have hjN : jN < need.length := by rw [hjE]; exact Nat.mod_lt _ (by omega)
        rw [← hjE] at hq9
        have hsl := pow_tab2 jN (by omega)
        clear hjE
        obtain ⟨wN, hwN⟩ : ∃ x : Nat, x = o ||| 2 ^ jN := ⟨_, rfl⟩
        have hbo : bits BinOp.or IntKind.i64 ((o : Nat) : Int) (2 ^ jN) = (wN : Int) := by rw [hwN]; exact or_tab o ho8 jN (by omega)
        have HWN := Lib.hid hwN
        clear hwN
        refine C_begin (S := fun W9 : World => W9.cell? ⟨g5, k * 2, none⟩ = some (.int .i64 (o : Int))) (c := 16) (by kernel_rfl) ?_
        generalize World.drew _ = V0 at *
        have hSd := (show (fun W9 : World => W9.cell? ⟨g5, k * 2, none⟩ = some (.int .i64 (o : Int))) V0 from HSD.out)
        refine C_take (i := 0) (v := ?v9_0) rfl (by kernel_rfl) (fun _ _ _ h => h) (Or.inl ⟨by rfl, ?y9_0⟩) (Or.inr hSd) ?r9_0
        case y9_0 => (intro w0 _; go_simp; try with_reducible rfl)
        try simp only [Act.put, List.getElem_toArray, List.getElem_cons_zero, List.setIfInBounds_toArray, List.set_cons_zero, List.set_cons_succ]
        refine C_take (i := 1) (v := ?v9_1) rfl (by kernel_rfl) (fun _ _ _ h => h) (Or.inl ⟨by rfl, ?y9_1⟩) (Or.inr hSd) ?r9_1
        case y9_1 => (intro w0 _; go_simp; try with_reducible rfl)
        try simp only [Act.put, List.getElem_toArray, List.getElem_cons_succ, List.getElem_cons_zero, List.setIfInBounds_toArray, List.set_cons_zero, List.set_cons_succ]
        refine C_take (i := 2) (v := ?v9_2) rfl (by kernel_rfl) (fun _ _ _ h => h) (Or.inl ⟨by rfl, ?y9_2⟩) (Or.inr hSd) ?r9_2
        case y9_2 => (intro w0 _; go_simp; try with_reducible rfl)
        try simp only [Act.put, List.getElem_toArray, List.getElem_cons_succ, List.getElem_cons_zero, List.setIfInBounds_toArray, List.set_cons_zero, List.set_cons_succ]
        refine C_take (i := 3) (v := ?v9_3) rfl (by kernel_rfl) (fun _ _ _ h => h) (Or.inl ⟨by rfl, ?y9_3⟩) (Or.inr hSd) ?r9_3
        case y9_3 => (intro w0 _; go_simp; try with_reducible rfl)
        try simp only [Act.put, List.getElem_toArray, List.getElem_cons_succ, List.getElem_cons_zero, List.setIfInBounds_toArray, List.set_cons_zero, List.set_cons_succ]
        refine C_take (i := 4) (v := ?v9_4) rfl (by kernel_rfl) (fun _ _ _ h => h) (Or.inl ⟨by rfl, ?y9_4⟩) (Or.inr hSd) ?r9_4
        case y9_4 => (intro w0 _; go_simp; try with_reducible rfl)
        try simp only [Act.put, List.getElem_toArray, List.getElem_cons_succ, List.getElem_cons_zero, List.setIfInBounds_toArray, List.set_cons_zero, List.set_cons_succ]
        refine C_take (i := 5) (v := ?v9_5) rfl (by kernel_rfl) (fun _ _ _ h => h) (Or.inl ⟨by rfl, ?y9_5⟩) (Or.inr hSd) ?r9_5
        case y9_5 => (intro w0 _; go_simp; try with_reducible rfl)
        try simp only [Act.put, List.getElem_toArray, List.getElem_cons_succ, List.getElem_cons_zero, List.setIfInBounds_toArray, List.set_cons_zero, List.set_cons_succ]
        refine C_load (i := 6) (v := ?v9_6) [16] rfl (by kernel_rfl) (fun _ _ _ h => h) (Or.inl ⟨by rfl, ?y9_6⟩) hSd ?r9_6
        case y9_6 => ((intro w0 hSw; go_simp); try with_reducible rfl)
        try simp only [Act.put, List.getElem_toArray, List.getElem_cons_succ, List.getElem_cons_zero, List.setIfInBounds_toArray, List.set_cons_zero, List.set_cons_succ]
        refine C_take (i := 7) (v := ?v9_7) rfl (by kernel_rfl) (fun _ _ _ h => h) (Or.inl ⟨by rfl, ?y9_7⟩) (Or.inr hSd) ?r9_7
        case y9_7 => (intro w0 _; go_simp; try with_reducible rfl)
        try simp only [Act.put, List.getElem_toArray, List.getElem_cons_succ, List.getElem_cons_zero, List.setIfInBounds_toArray, List.set_cons_zero, List.set_cons_succ]
        refine C_take (i := 8) (v := ?v9_8) rfl (by kernel_rfl) (fun _ _ _ h => h) (Or.inl ⟨by rfl, ?y9_8⟩) (Or.inr hSd) ?r9_8
        case y9_8 => (intro w0 _; go_simp; try with_reducible rfl)
        try simp only [Act.put, List.getElem_toArray, List.getElem_cons_succ, List.getElem_cons_zero, List.setIfInBounds_toArray, List.set_cons_zero, List.set_cons_succ]
        refine C_take (i := 9) (v := ?v9_9) rfl (by kernel_rfl) (fun _ _ _ h => h) (Or.inl ⟨by rfl, ?y9_9⟩) (Or.inr hSd) ?r9_9
        case y9_9 => (intro w0 _; go_simp; try with_reducible rfl)
        try simp only [Act.put, List.getElem_toArray, List.getElem_cons_succ, List.getElem_cons_zero, List.setIfInBounds_toArray, List.set_cons_zero, List.set_cons_succ]
        refine C_take (i := 10) (v := ?v9_10) rfl (by kernel_rfl) (fun _ _ _ h => h) (Or.inl ⟨by rfl, ?y9_10⟩) (Or.inr hSd) ?r9_10
        case y9_10 => (intro w0 _; go_simp; try with_reducible rfl)
        try simp only [Act.put, List.getElem_toArray, List.getElem_cons_succ, List.getElem_cons_zero, List.setIfInBounds_toArray, List.set_cons_zero, List.set_cons_succ]
        refine C_take (i := 11) (v := ?v9_11) rfl (by kernel_rfl) (fun _ _ _ h => h) (Or.inl ⟨by rfl, ?y9_11⟩) (Or.inr hSd) ?r9_11
        case y9_11 => (intro w0 _; go_simp; try with_reducible rfl)
        try simp only [Act.put, List.getElem_toArray, List.getElem_cons_succ, List.getElem_cons_zero, List.setIfInBounds_toArray, List.set_cons_zero, List.set_cons_succ]
        refine C_take (i := 12) (v := ?v9_12) rfl (by kernel_rfl) (fun _ _ _ h => h) (Or.inl ⟨by rfl, ?y9_12⟩) (Or.inr hSd) ?r9_12
        case y9_12 => (intro w0 _; go_simp; try with_reducible rfl)
        try simp only [Act.put, List.getElem_toArray, List.getElem_cons_succ, List.getElem_cons_zero, List.setIfInBounds_toArray, List.set_cons_zero, List.set_cons_succ]
        refine C_take (i := 13) (v := ?v9_13) rfl (by kernel_rfl) (fun _ _ _ h => h) (Or.inl ⟨by rfl, ?y9_13⟩) (Or.inr hSd) ?r9_13
        case y9_13 => (intro w0 _; go_simp; try with_reducible rfl)
        try simp only [Act.put, List.getElem_toArray, List.getElem_cons_succ, List.getElem_cons_zero, List.setIfInBounds_toArray, List.set_cons_zero, List.set_cons_succ]
        refine C_take (i := 14) (v := ?v9_14) rfl (by kernel_rfl) (fun _ _ _ h => h) (Or.inl ⟨by rfl, ?y9_14⟩) (Or.inr hSd) ?r9_14
        case y9_14 => (intro w0 _; go_simp; try with_reducible rfl)
        try simp only [Act.put, List.getElem_toArray, List.getElem_cons_succ, List.getElem_cons_zero, List.setIfInBounds_toArray, List.set_cons_zero, List.set_cons_succ]
        refine C_take (i := 15) (v := ?v9_15) rfl (by kernel_rfl) (fun _ _ _ h => h) (Or.inl ⟨by rfl, ?y9_15⟩) (Or.inr hSd) ?r9_15
        case y9_15 => (intro w0 _; go_simp; try with_reducible rfl)
        try simp only [Act.put, List.getElem_toArray, List.getElem_cons_succ, List.getElem_cons_zero, List.setIfInBounds_toArray, List.set_cons_zero, List.set_cons_succ]
        refine C_one (i := 16) rfl (by kernel_rfl) (fun K hK => ?_)
        rw [if_pos (by rfl)]
        have z0 := HZ.out.1
        have z1 := HZ.out.2
        go_simp
        have HM2 := Lib.hid (HMD.out.setW h45.symm h5c hk (wN : Int))
        clear z0 z1
        refine hK _ _ (.inl (by kernel_rfl)) ?_
        clear hK K
        try clear hSd
        try simp only [Act.put, List.getElem_toArray, List.getElem_cons_succ, List.getElem_cons_zero, List.setIfInBounds_toArray, List.set_cons_zero, List.set_cons_succ]
        refine C_done (by kernel_rfl) ?_ _
        rw [IntWalk.i64_left turn, IntWalk.i64_left ((wrap64 turn).tdiv 8)]
        clear hq9 hsl hbo HSD HZ HMD
        generalize World.setCell V0 _ _ = wd at *
        have HWB : Hid (Below w.heap.size w wd) := Lib.hid (HW.out.trans (HM2.out.hb.mono HW.out.size))
        have hgbd : gb < wd.heap.size := Nat.lt_of_lt_of_le hgb HWB.out.size
        have hgad : ga < wd.heap.size := Nat.lt_of_lt_of_le hga HWB.out.size
        have h4d : g4 < wd.heap.size := (HM2.out.r.lt g4 rfl).2
        have h5d : g5 < wd.heap.size := (HM2.out.wd.lt g5 rfl).2
        have hmk := made_ints need.length hc8
        have HN0 : Hid (MoW w2 g4 c4 g5 c5 l.length (l.set k ⟨l[k].shades, rn⟩) (l.set k ⟨(wN : Int), l[k].many⟩) (wd.alloc (.cells (intsV9 (List.replicate need.length 0)).toArray 3))) := Lib.hid (HM2.out.call ((Below.refl wd.heap.size wd).alloc (Nat.le_refl _) (.cells (intsV9 (List.replicate need.length 0)).toArray 3)))
        have HK0 := Lib.hid (Blk.new wd 3 (intsV9 (List.replicate need.length 0)).toArray)
        have HB0 : Hid (Below wd.heap.size wd (wd.alloc (.cells (intsV9 (List.replicate need.length 0)).toArray 3))) := Lib.hid (Below.refl _ _).alloc (Nat.le_refl _) _
        obtain ⟨tN, htN⟩ : ∃ t : Nat, t = turn.toNat := ⟨_, rfl⟩
        have HADD : Hid (∀ (n i : Nat), i < 8 → (IntKind.i64.wrap ((i : Int) + IntKind.i64.wrap turn)).tmod (n : Int) = (((i + tN) % n : Nat) : Int)) := Lib.hid fun n i hi => by rw [htN]; exact add_rem HTB.out.1 HTB.out.2 hi
        have HADD2 : Hid (∀ (n i : Nat), i < 8 → (wrap64 ((i : Int) + wrap64 turn)).tmod (n : Int) = (((i + tN) % n : Nat) : Int)) := Lib.hid fun n i hi => by rw [htN]; exact add_rem64 HTB.out.1 HTB.out.2 hi
        rw [← htN] at HKE
        clear htN HM2
        generalize hRI : l.set k ⟨l[k].shades, rn⟩ = rich at *
        generalize hWI : l.set k ⟨(wN : Int), l[k].many⟩ = wide at *
        have HRI := Lib.hid hRI
        have HWI := Lib.hid hWI
        clear hRI hWI
        go_wp2_with fail
        generalize hgI : wd.heap.size = gI at *
        generalize World.alloc wd _ = we at *
        clear hmk
        go_loopw [18] (fun iv U => ∃ (i : Nat) (V : List Int), i ≤ need.length ∧ iv = .int .i64 i ∧ V.length = need.length ∧ Hid (∀ j, j < i → V.getD ((j + tN) % need.length) 0 = need.getD j 0) ∧ Hid (MoW w2 g4 c4 g5 c5 l.length rich wide U) ∧ Hid (Blk U gI 3 (intsV9 V).toArray) ∧ Hid (Below gI wd U)) (fun iv _ => need.length - (intOf iv).toNat)
        case atStart => exact ⟨0, List.replicate need.length 0, by omega, rfl, List.length_replicate, Lib.hid fun j h => by omega, HN0, HK0, HB0⟩
        case round =>
          obtain ⟨i, V, hi, rfl, hVl, HV, HM, HK, HBU⟩ := hrel
          rename World => U
          by_cases hlt : i < need.length
          · have hii : (i : Int) < need.length := by omega
            have hi0 : (0 : Int) ≤ i := by omega
            have hrm := HADD.out need.length i (by omega)
            obtain ⟨dN, hdE⟩ : ∃ dN : Nat, dN = (i + tN) % need.length := ⟨_, rfl⟩
            have hdN : dN < need.length := by rw [hdE]; exact Nat.mod_lt _ (by omega)
            have hdV : dN < V.length := by omega
            have HV2 := Lib.hid (rot_set hVl hlt HV.out)
            rw [← hdE] at hrm HV2
            have x0 : U.cell? ⟨ga, offa + i, none⟩ = some (.int .i64 need[i]) := by
              rw [HBU.out.cell (p := ⟨ga, _, none⟩) hgad, HWB.out.cell (p := ⟨ga, _, none⟩) hga]
              exact HNA.out i hlt
            have y0 : U.cell? ⟨gI, dN, none⟩ = some (.int .i64 V[dN]) := by
              rw [HK.out.cell]
              unfold intsV9
              simp [hdV]
            have HKD := Lib.hid HK.out.drew
            have HMD := Lib.hid (HM.out.call (Below.refl _ _).drew)
            have HBD := Lib.hid HBU.out.drew
            have HSD : Hid (U.drew.cell? ⟨ga, offa + i, none⟩ = some (.int .i64 need[i])) := Lib.hid x0
            have HZ : Hid (U.drew.cell? ⟨gI, dN, none⟩ = some (.int .i64 V[dN]) ∧ U.drew.frozen? ⟨gI, dN, none⟩ = false) := Lib.hid ⟨y0, HKD.out.frozen dN⟩
            clear x0 y0 hdE HK HM HBU
            generalize hnv : need[i] = nv at *
            go_upto_region 15 with fail
            refine C_begin (S := fun W9 : World => W9.cell? ⟨ga, offa + i, none⟩ = some (.int .i64 nv)) (c := 12) (by kernel_rfl) ?_
            generalize World.drew _ = V0 at *
            have hSd := (show (fun W9 : World => W9.cell? ⟨ga, offa + i, none⟩ = some (.int .i64 nv)) V0 from HSD.out)
            refine C_take (i := 0) (v := ?v15_0) rfl (by kernel_rfl) (fun _ _ _ h => h) (Or.inl ⟨by rfl, ?y15_0⟩) (Or.inr hSd) ?r15_0
            case y15_0 => (intro w0 _; go_simp; try with_reducible rfl)
            try simp only [Act.put, List.getElem_toArray, List.getElem_cons_zero, List.setIfInBounds_toArray, List.set_cons_zero, List.set_cons_succ]
            refine C_take (i := 1) (v := ?v15_1) rfl (by kernel_rfl) (fun _ _ _ h => h) (Or.inl ⟨by rfl, ?y15_1⟩) (Or.inr hSd) ?r15_1
            case y15_1 => (intro w0 _; go_simp; try with_reducible rfl)
            try simp only [Act.put, List.getElem_toArray, List.getElem_cons_succ, List.getElem_cons_zero, List.setIfInBounds_toArray, List.set_cons_zero, List.set_cons_succ]
            refine C_take (i := 2) (v := ?v15_2) rfl (by kernel_rfl) (fun _ _ _ h => h) (Or.inl ⟨by rfl, ?y15_2⟩) (Or.inr hSd) ?r15_2
            case y15_2 => (intro w0 _; go_simp; try with_reducible rfl)
            try simp only [Act.put, List.getElem_toArray, List.getElem_cons_succ, List.getElem_cons_zero, List.setIfInBounds_toArray, List.set_cons_zero, List.set_cons_succ]
            refine C_take (i := 3) (v := ?v15_3) rfl (by kernel_rfl) (fun _ _ _ h => h) (Or.inl ⟨by rfl, ?y15_3⟩) (Or.inr hSd) ?r15_3
            case y15_3 => (intro w0 _; go_simp; try with_reducible rfl)
            try simp only [Act.put, List.getElem_toArray, List.getElem_cons_succ, List.getElem_cons_zero, List.setIfInBounds_toArray, List.set_cons_zero, List.set_cons_succ]
            refine C_take (i := 4) (v := ?v15_4) rfl (by kernel_rfl) (fun _ _ _ h => h) (Or.inl ⟨by rfl, ?y15_4⟩) (Or.inr hSd) ?r15_4
            case y15_4 => (intro w0 _; go_simp; try with_reducible rfl)
            try simp only [Act.put, List.getElem_toArray, List.getElem_cons_succ, List.getElem_cons_zero, List.setIfInBounds_toArray, List.set_cons_zero, List.set_cons_succ]
            refine C_take (i := 5) (v := ?v15_5) rfl (by kernel_rfl) (fun _ _ _ h => h) (Or.inl ⟨by rfl, ?y15_5⟩) (Or.inr hSd) ?r15_5
            case y15_5 => (intro w0 _; go_simp; try with_reducible rfl)
            try simp only [Act.put, List.getElem_toArray, List.getElem_cons_succ, List.getElem_cons_zero, List.setIfInBounds_toArray, List.set_cons_zero, List.set_cons_succ]
            refine C_take (i := 6) (v := ?v15_6) rfl (by kernel_rfl) (fun _ _ _ h => h) (Or.inl ⟨by rfl, ?y15_6⟩) (Or.inr hSd) ?r15_6
            case y15_6 => (intro w0 _; go_simp; try with_reducible rfl)
            try simp only [Act.put, List.getElem_toArray, List.getElem_cons_succ, List.getElem_cons_zero, List.setIfInBounds_toArray, List.set_cons_zero, List.set_cons_succ]
            refine C_take (i := 7) (v := ?v15_7) rfl (by kernel_rfl) (fun _ _ _ h => h) (Or.inl ⟨by rfl, ?y15_7⟩) (Or.inr hSd) ?r15_7
            case y15_7 => (intro w0 _; go_simp; try with_reducible rfl)
            try simp only [Act.put, List.getElem_toArray, List.getElem_cons_succ, List.getElem_cons_zero, List.setIfInBounds_toArray, List.set_cons_zero, List.set_cons_succ]
            refine C_take (i := 8) (v := ?v15_8) rfl (by kernel_rfl) (fun _ _ _ h => h) (Or.inl ⟨by rfl, ?y15_8⟩) (Or.inr hSd) ?r15_8
            case y15_8 => (intro w0 _; go_simp; try with_reducible rfl)
            try simp only [Act.put, List.getElem_toArray, List.getElem_cons_succ, List.getElem_cons_zero, List.setIfInBounds_toArray, List.set_cons_zero, List.set_cons_succ]
            refine C_take (i := 9) (v := ?v15_9) rfl (by kernel_rfl) (fun _ _ _ h => h) (Or.inl ⟨by rfl, ?y15_9⟩) (Or.inr hSd) ?r15_9
            case y15_9 => (intro w0 _; go_simp; try with_reducible rfl)
            try simp only [Act.put, List.getElem_toArray, List.getElem_cons_succ, List.getElem_cons_zero, List.setIfInBounds_toArray, List.set_cons_zero, List.set_cons_succ]
            refine C_load (i := 10) (v := ?v15_10) [12] rfl (by kernel_rfl) (fun _ _ _ h => h) (Or.inl ⟨by rfl, ?y15_10⟩) hSd ?r15_10
            case y15_10 => ((intro w0 hSw; go_simp); try with_reducible rfl)
            try simp only [Act.put, List.getElem_toArray, List.getElem_cons_succ, List.getElem_cons_zero, List.setIfInBounds_toArray, List.set_cons_zero, List.set_cons_succ]
            refine C_take (i := 11) (v := ?v15_11) rfl (by kernel_rfl) (fun _ _ _ h => h) (Or.inl ⟨by rfl, ?y15_11⟩) (Or.inr hSd) ?r15_11
            case y15_11 => (intro w0 _; go_simp; try with_reducible rfl)
            try simp only [Act.put, List.getElem_toArray, List.getElem_cons_succ, List.getElem_cons_zero, List.setIfInBounds_toArray, List.set_cons_zero, List.set_cons_succ]
            refine C_one (i := 12) rfl (by kernel_rfl) (fun K hK => ?_)
            rw [if_pos (by rfl)]
            have z0 := HZ.out.1
            have z1 := HZ.out.2
            go_simp
            clear z0 z1
            refine hK _ _ (.inl (by kernel_rfl)) ?_
            clear hK K
            try clear hSd
            try simp only [Act.put, List.getElem_toArray, List.getElem_cons_succ, List.getElem_cons_zero, List.setIfInBounds_toArray, List.set_cons_zero, List.set_cons_succ]
            refine C_done (by kernel_rfl) ?_ _
            have HK2 : Hid (Blk (V0.setCell ⟨gI, dN, none⟩ (.int .i64 nv)) gI 3 (intsV9 (V.set dN nv)).toArray) := Lib.hid (by have := HKD.out.set_ dN (.int .i64 nv); rwa [intsV9_set] at this)
            have HM2 : Hid (MoW w2 g4 c4 g5 c5 l.length rich wide (V0.setCell ⟨gI, dN, none⟩ (.int .i64 nv))) := Lib.hid (HMD.out.far (by omega) (by omega) (by omega) _ _)
            have HB2 : Hid (Below gI wd (V0.setCell ⟨gI, dN, none⟩ (.int .i64 nv))) := Lib.hid (HBD.out.setCell (p := ⟨gI, dN, none⟩) (Nat.le_refl _) _)
            generalize World.setCell V0 _ _ = V1 at *
            go_wp2_with fail
            go_roundw
            case rel => exact ⟨i + 1, V.set dN nv, by omega, by go_num, by rw [List.length_set]; exact hVl, HV2, HM2, HK2, HB2⟩
            case measure => exact meas9 hlt
          · obtain rfl : i = need.length := by omega
            have hwg : w.heap.size ≤ gI := by rw [← hgI]; exact HWB.out.size
            have HWU : Hid (Below w.heap.size w U) := Lib.hid (HWB.out.trans (HBU.out.mono hwg))
            have hgIU := HK.out.lt
            have hUs : U.heap.size ≤ U.heap.size := Nat.le_refl _
            have HVF := Lib.hid HV.out
            clear HV HBU HNA
            go_wp2_with fail
            go_loopw [16, 19] (fun tv iv X => ∃ (i : Nat) (v6 : Value) (T : List Pile), i ≤ l.length ∧ iv = .int .i64 i ∧ v6 = tv ∧ T.length = i ∧ Hid (TurnP need.length l T tN) ∧ Hid (MoW w2 g4 c4 g5 c5 l.length rich wide X) ∧ Hid (Blk X gI 3 (intsV9 V).toArray) ∧ Hid (X.ownsRow U.heap.size 46 2 v6 i (pileV T)) ∧ Hid (Below w.heap.size w X) ∧ U.heap.size ≤ X.heap.size) (fun _ iv _ => l.length - (intOf iv).toNat)
            case atStart => exact ⟨0, _, [], by omega, rfl, rfl, rfl, Lib.hid fun j h => by simp at h, HM, HK, Lib.hid (World.ownsRow_nil _ _ _ _), HWU, hUs⟩
            case round =>
              obtain ⟨i, v6, T, hi, rfl, rfl, hTl, HT, HM, HK, HO, HWX, hsz⟩ := hrel
              rename World => X
              by_cases hlt : i < l.length
              · have hii : (i : Int) < l.length := by omega
                have hi0 : (0 : Int) ≤ i := by omega
                have hrm := HADD2.out l.length i (by omega)
                obtain ⟨iN, hiE⟩ : ∃ iN : Nat, iN = (i + tN) % l.length := ⟨_, rfl⟩
                have hiN : iN < l.length := by rw [hiE]; exact Nat.mod_lt _ (by omega)
                rw [← hiE] at hrm
                obtain ⟨p0, p1⟩ := HAT.out iN hiN
                rw [← HWX.out.cell (p := ⟨gb, _, none⟩) hgb] at p0 p1
                obtain ⟨⟨r0, r1⟩, r2, r3⟩ := HP.out.2 l[iN] (List.getElem_mem hiN)
                obtain ⟨oi, hoi⟩ : ∃ oi : Nat, l[iN].shades = (oi : Int) := ⟨l[iN].shades.toNat, by omega⟩
                have hoi8 : oi < 256 := by omega
                obtain ⟨mi, hmi⟩ : ∃ mi : Int, l[iN].many = mi := ⟨_, rfl⟩
                have HSN : Hid (∀ z : Nat, z < 2 ^ need.length → (∀ k, k < need.length → z.testBit ((k + tN) % need.length) = (decide (k < need.length) && oi.testBit k)) → TurnP need.length l (T ++ [⟨(z : Int), mi⟩]) tN) := Lib.hid fun z h1 h2 => by
                  subst hTl
                  subst hiE
                  exact HT.out.snoc hiN hmi hoi h1 h2
                rw [hoi] at p0
                rw [hmi] at p1
                have hb1 : Below X.heap.size X (X.alloc (.cells #[.int .i64 (oi : Int), .int .i64 mi] 46)) := (Below.refl X.heap.size X).alloc (Nat.le_refl _) _
                have HM1 := Lib.hid (HM.out.call hb1)
                have HK1 := Lib.hid (HK.out.below hb1 HK.out.lt)
                have HO1 := Lib.hid (own_low9 HO.out hb1)
                have HP1 := Lib.hid (Blk.new X 46 #[.int .i64 (oi : Int), .int .i64 mi])
                have HWX1 := Lib.hid (HWX.out.trans (hb1.mono HWX.out.size))
                have hsz1 : U.heap.size ≤ (X.alloc (.cells #[.int .i64 (oi : Int), .int .i64 mi] 46)).heap.size := Nat.le_trans hsz hb1.size
                clear hb1 HM HK HO HWX hiE hoi hmi r0 r1 r2 r3 hsz HT
                go_wp2_with fail
                generalize World.alloc X _ = X1 at *
                generalize X.heap.size = gp at *
                have c0 := HP1.out.cell 0
                have c1 := HP1.out.cell 1
                clear p0 p1
                go_loopw [21, 22] (fun zv sv Y => ∃ (s z : Nat), s ≤ need.length ∧ sv = .int .i64 s ∧ zv = .int .i64 z ∧ z < 256 ∧ Hid (z < 2 ^ need.length ∧ ∀ k, k < need.length → z.testBit ((k + tN) % need.length) = (decide (k < s) && oi.testBit k)) ∧ Y = X1) (fun _ sv _ => need.length - (intOf sv).toNat)
                case atStart => exact ⟨0, 0, by omega, rfl, rfl, by omega, Lib.hid ⟨Nat.two_pow_pos _, fun k hk => by simp⟩, rfl⟩
                case round =>
                  obtain ⟨s, z, hs, rfl, rfl, hz8, HZB, rfl⟩ := hrel
                  rename World => X1
                  by_cases hsl : s < need.length
                  · have hsi : (s : Int) < need.length := by omega
                    have hs0 : (0 : Int) ≤ s := by omega
                    go_wp2_with fail
                    refine (rHas_any oi s _ (by omega) (by omega)).mono ?_
                    rintro e w' ⟨rfl, rfl⟩
                    cases hb : oi.testBit s with
                    | false =>
                      have HZ2 := Lib.hid (And.intro HZB.out.1 ((rot_bit hsl HZB.out.2).2 hb))
                      clear hb HZB
                      go_wp2_with fail
                      go_roundw
                      case rel => exact ⟨s + 1, z, by omega, by go_num, rfl, hz8, HZ2, trivial⟩
                      case measure => exact meas9 hsl
                    | true =>
                      have hrm2 := HADD2.out need.length s (by omega)
                      obtain ⟨dS, hdE⟩ : ∃ dS : Nat, dS = (s + tN) % need.length := ⟨_, rfl⟩
                      have hdS : dS < need.length := by rw [hdE]; exact Nat.mod_lt _ (by omega)
                      have hbr := (rot_bit hsl HZB.out.2).1 hb
                      rw [← hdE] at hrm2 hbr
                      have hpt := pow_tab dS (by omega)
                      obtain ⟨zN, hzN⟩ : ∃ zN : Nat, zN = z ||| 2 ^ dS := ⟨_, rfl⟩
                      have hor : bits BinOp.or IntKind.i64 ((z : Nat) : Int) (2 ^ dS) = (zN : Int) := by rw [hzN]; exact or_tab z hz8 dS (by omega)
                      have hzN8 : zN < 256 := by rw [hzN]; exact Nat.or_lt_two_pow (n := 8) hz8 (Nat.pow_lt_pow_right (by omega) (by omega) : 2 ^ dS < 2 ^ 8)
                      have HZ2 : Hid (zN < 2 ^ need.length ∧ ∀ k, k < need.length → zN.testBit ((k + tN) % need.length) = (decide (k < s + 1) && oi.testBit k)) := Lib.hid ⟨by rw [hzN]; exact Nat.or_lt_two_pow HZB.out.1 (Nat.pow_lt_pow_right (by omega) hdS), by rw [hzN]; exact hbr⟩
                      clear hb HZB hdE hzN hbr
                      go_wp2_with fail
                      go_roundw
                      case rel => exact ⟨s + 1, zN, by omega, by go_num, rfl, hzN8, HZ2, trivial⟩
                      case measure => exact meas9 hsl
                  · obtain rfl : s = need.length := by omega
                    have HZ3 := Lib.hid (HSN.out z HZB.out.1 HZB.out.2)
                    have hi10 : i ≤ 10 := by omega
                    have hb3 : Below X1.heap.size X1 (X1.alloc (.cells #[.int .i64 (z : Int), .int .i64 mi] 46)) := (Below.refl X1.heap.size X1).alloc (Nat.le_refl _) _
                    have HNW : Hid (∀ (j : Nat) u, ([.int .i64 (z : Int), .int .i64 mi] : List Value)[j]? = some u → (X1.alloc (.cells #[.int .i64 (z : Int), .int .i64 mi] 46)).cell? ((⟨X1.heap.size, 0, none⟩ : Addr).add j) = some u) := Lib.hid (World.news_of_block (cs := #[.int .i64 (z : Int), .int .i64 mi]) (t := 46) (fr := (0, 0)) (World.alloc_heap_new X1 _))
                    have HM2 := Lib.hid (HM1.out.call hb3)
                    have HK2 := Lib.hid (HK1.out.below hb3 HK1.out.lt)
                    have HO2 := Lib.hid (own_low9 HO1.out hb3)
                    have HWX2 := Lib.hid (HWX1.out.trans (hb3.mono HWX1.out.size))
                    have hsz2 : U.heap.size ≤ (X1.alloc (.cells #[.int .i64 (z : Int), .int .i64 mi] 46)).heap.size := Nat.le_trans hsz1 hb3.size
                    have hwU2 : w.heap.size ≤ U.heap.size := HWU.out.size
                    have h4U : g4 < U.heap.size := by omega
                    have h5U : g5 < U.heap.size := by omega
                    have hwU : w2.heap.size ≤ U.heap.size := by omega
                    clear hb3 HM1 HK1 HO1 HWX1 HZB HSN HP1 c0
                    go_wp2_with (at_builtin; refine wpList_append_own _ rfl _ _ 23 rfl U.heap.size 46 i0 _ 2 16 und_piles9 HI.out.1 HI.out.2.1 HI.out.2.2.1 HI.out.2.2.2 rfl (by decide) v6 i (pileV T) rfl HO2.out ⟨X1.heap.size, 0, none⟩ 1 1 [.int .i64 (z : Int), .int .i64 mi] rfl rfl HNW.out (by simp [Value.oneCell']) (by unfold maxLen; omega) (by omega) hsz2 ?_; intro v' w9 hown hgr hnn; clear hnn; have HO4 := Lib.hid hown; have HG4 := Lib.hid hgr; clear hown hgr)
                    go_roundw
                    case rel => exact ⟨i + 1, v', T ++ [⟨(z : Int), mi⟩], by omega, by go_num, rfl, by rw [List.length_append, hTl]; rfl, HZ3, Lib.hid (HM2.out.grown HG4.out (fun e => by have := (HO2.out.lt _ e).1; omega) (fun e => by have := (HO2.out.lt _ e).1; omega) (fun j e => by have := (HO2.out.lt j e).1; omega)), Lib.hid (HK2.out.kept HG4.out fun e => by have := (HO2.out.lt _ e.symm).1; omega), Lib.hid (by rw [pileV_app7]; exact HO4.out), Lib.hid (Below.grown HWX2.out HG4.out HWX2.out.size fun j e => by have := (HO2.out.lt j e).1; omega), by have := HG4.out.size; omega⟩
                    case measure => exact meas9 hlt
              · obtain rfl : i = l.length := by omega
                have HTU : Hid (Turned need V l T tN) := Lib.hid ⟨hVl, fun q hq => HVF.out q hq, hTl, fun j h h' => HT.out j h h'⟩
                have HOKT := Lib.hid (ok_turned HOK.out HTU.out)
                have hlr : rich.length = l.length := by rw [← HRI.out, List.length_set]
                have hlw : wide.length = l.length := by rw [← HWI.out, List.length_set]
                have HLK : Hid ((0 ≤ l[k].shades ∧ l[k].shades < 2 ^ need.length) ∧ 0 ≤ l[k].many ∧ l[k].many ≤ 1048576) := Lib.hid (ok_in7 HOK.out _ (List.getElem_mem hk))
                have HOKR : Hid (boxOk need rich = true) := Lib.hid (by
                  rw [← HRI.out]
                  exact ok_set7 HOK.out k ⟨HLK.out.1, by have := HRN.out.1; have := HLK.out.2.1; dsimp only; omega, HRN.out.2⟩)
                have HOKW : Hid (boxOk need wide = true) := Lib.hid (by
                  rw [← HWI.out]
                  refine ok_set7 HOK.out k ⟨⟨by dsimp only; omega, ?_⟩, HLK.out.2⟩
                  have h1 : o < 2 ^ need.length := by
                    have := HLK.out.1.2
                    rw [ho] at this
                    have h2 : ((o : Nat) : Int) < ((2 ^ need.length : Nat) : Int) := by simpa using this
                    omega
                  have h3 : wN < 2 ^ need.length := by rw [HWN.out]; exact Nat.or_lt_two_pow h1 (Nat.pow_lt_pow_right (by omega) hjN)
                  have h4 : ((wN : Nat) : Int) < ((2 ^ need.length : Nat) : Int) := by omega
                  simpa using h4)
                have HGR : Hid (∀ a, GreatOf (canB need rich) 8388608 a → x ≤ a) := Lib.hid fun a ha => great_mono (fun b hb => can_mono (fun s => by rw [← HRI.out]; exact rich_le l k hk s rn HRN.out.1) hb) HG.out ha
                have HGW : Hid (∀ a, GreatOf (canB need wide) 8388608 a → x ≤ a) := Lib.hid fun a ha => great_mono (fun b hb => can_mono (fun s => by
                  rw [← HWI.out, HWN.out]
                  have h1 := wide_le l k hk s (2 ^ jN) HLK.out.1.1 HLK.out.2.1
                  rw [ho, Int.toNat_natCast] at h1
                  exact h1) hb) HG.out ha
                have HGT : Hid (∀ a, GreatOf (canB V T) 8388608 a → a = x) := Lib.hid fun a ha => great_uniq ha (great_ext (fun b => turned_can HTU.out (by omega) (shades_lt HOK.out) b) HG.out)
                have HMR : Hid (∀ X9 : World, Below X.heap.size X X9 → Calls Try.prog 13 #[.slice (some ⟨ga, offa, none⟩) need.length c, .slice (some ⟨g4, 0, none⟩) l.length c4] X9 fun e w' => ∃ a b, e = .returned (.tuple #[.int .i64 a, .int .i64 b, .int .i64 0]) ∧ x ≤ a ∧ Below X9.heap.size X9 w') := Lib.hid fun X9 h9 => by
                  have hM9 := HM.out.call h9
                  have h1 := most_any X9 (some ⟨ga, offa, none⟩) (some ⟨g4, 0, none⟩) c c4 need rich hn (by omega) (HA.out.on (HWX.out.trans (h9.mono HWX.out.size)) (Nat.le_refl _)) (own_piles9 hM9.r hlr)
                  rw [hlr] at h1
                  refine h1.mono fun e w' h => ?_
                  obtain ⟨a, b, h2, h3, h4⟩ := most_ok h HOKR.out
                  exact ⟨a, b, h2, HGR.out a h3, h4⟩
                have HMW : Hid (∀ X9 : World, Below X.heap.size X X9 → Calls Try.prog 13 #[.slice (some ⟨ga, offa, none⟩) need.length c, .slice (some ⟨g5, 0, none⟩) l.length c5] X9 fun e w' => ∃ a b, e = .returned (.tuple #[.int .i64 a, .int .i64 b, .int .i64 0]) ∧ x ≤ a ∧ Below X9.heap.size X9 w') := Lib.hid fun X9 h9 => by
                  have hM9 := HM.out.call h9
                  have h1 := most_any X9 (some ⟨ga, offa, none⟩) (some ⟨g5, 0, none⟩) c c5 need wide hn (by omega) (HA.out.on (HWX.out.trans (h9.mono HWX.out.size)) (Nat.le_refl _)) (own_piles9 hM9.wd hlw)
                  rw [hlw] at h1
                  refine h1.mono fun e w' h => ?_
                  obtain ⟨a, b, h2, h3, h4⟩ := most_ok h HOKW.out
                  exact ⟨a, b, h2, HGW.out a h3, h4⟩
                obtain ⟨g6, c6, rfl, h6a, h6b⟩ := own_g9 HO.out (by omega)
                have HMT : Hid (∀ X9 : World, Below X.heap.size X X9 → Calls Try.prog 13 #[.slice (some ⟨gI, 0, none⟩) need.length need.length, .slice (some ⟨g6, 0, none⟩) l.length c6] X9 fun e w' => ∃ b, e = .returned (.tuple #[.int .i64 x, .int .i64 b, .int .i64 0]) ∧ Below X9.heap.size X9 w') := Lib.hid fun X9 h9 => by
                  have hK9 := HK.out.below h9 HK.out.lt
                  have h1 := most_any X9 (some ⟨gI, 0, none⟩) (some ⟨g6, 0, none⟩) need.length c6 V T (by omega) (by omega) (fun _ => ⟨gI, 0, rfl, hK9.lt, fun j hj => by
                    rw [Nat.zero_add, hK9.cell]
                    unfold intsV9
                    simp [hj]⟩) (own_piles9 (own_low9 HO.out h9) hTl)
                  rw [hVl, hTl] at h1
                  refine h1.mono fun e w' h => ?_
                  obtain ⟨a, b, h2, h3, h4⟩ := most_ok h HOKT.out
                  rw [HGT.out a h3] at h2
                  exact ⟨b, h2, h4⟩
                clear HTU HOKT HOKR HOKW HGR HGW HGT HT HVF HRI HWI hTl hVl
                go_wp2_with fail
                refine (HMR.out X (Below.refl _ _)).mono ?_
                rintro e X1 ⟨a1, b1, rfl, ha1, hb1⟩
                have HX1 := Lib.hid hb1
                clear hb1
                go_wp2_with fail
                refine (HMW.out X1 HX1.out).mono ?_
                rintro e X2 ⟨a2, b2, rfl, ha2, hb2⟩
                have HX2 := Lib.hid (HX1.out.trans (hb2.mono HX1.out.size))
                clear hb2
                go_wp2_with fail
                refine (HMT.out X2 HX2.out).mono ?_
                rintro e X3 ⟨b3, rfl, hb3⟩
                have HX3 := Lib.hid (HX2.out.trans (hb3.mono HX2.out.size))
                have HW3 := Lib.hid (HWX.out.trans (HX3.out.mono HWX.out.size))
                clear hb3 HMR HMW HMT HX1 HX2 HM HK HO HWX
                have hl1 : ¬ a1 < x := by omega
                have hl2 : ¬ a2 < x := by omega
                go_upto_region 32 with fail
                by_cases hl7 : 8 ≤ l.length
                · have hl7i : (8 : Int) ≤ l.length := by omega
                  go_wp2_with fail
                  refine (HAW.out _).mono ?_
                  rintro e w9 ⟨rfl, hb9⟩
                  have HB9 := Lib.hid (HW3.out.trans (hb9.mono HW3.out.size))
                  clear hb9
                  go_wp2_with fail
                  go_ret
                  exact ⟨rfl, HB9.out⟩
                · have hl7i : ¬ (8 : Int) ≤ l.length := by omega
                  have hl7j : (l.length : Int) < 8 := by omega
                  clear hl1 hl2 ha1 ha2
                  have HZ0 := Lib.hid (own_zero9 (t := 46) X3 X3.heap.size (Nat.le_refl _) 2)
                  have HB0 : Hid (Below X3.heap.size X3 (X3.alloc (.cells #[] 46))) := Lib.hid (Below.refl _ _).alloc (Nat.le_refl _) _
                  have HNW : Hid (∀ (j : Nat) u, (pileV l)[j]? = some u → (X3.alloc (.cells #[] 46)).cell? ((⟨gb, offb, none⟩ : Addr).add j) = some u) := Lib.hid (pile_cells9 (PilesAt.below HAT.out (HW3.out.trans (HB0.out.mono HW3.out.size)) hgb))
                  go_upto_region 35 with (at_builtin; refine wpList_append_own _ rfl _ _ 23 rfl X3.heap.size 46 i0 _ 2 16 und_piles9 HI.out.1 HI.out.2.1 HI.out.2.2.1 HI.out.2.2.2 rfl (by decide) (.slice (some ⟨X3.heap.size, 0, none⟩) 0 0) 0 [] rfl HZ0.out ⟨gb, offb, none⟩ l.length d (pileV l) rfl (pileV_len l) HNW.out (pileV_one l) (by unfold maxLen; omega) (by omega) (by simp) ?_; intro va wa hown hgr hnn; clear hnn; have HOa := Lib.hid hown; have HBa := Lib.hid (Below.grown HB0.out hgr (by simp) fun j e => (HZ0.out.lt j e).1); clear hown hgr)
                  rw [Nat.zero_add, List.nil_append] at HOa
                  obtain ⟨g7, c7, rfl, h7a, h7b⟩ := own_g9 HOa.out (by omega)
                  have HWa := Lib.hid (HW3.out.trans (HBa.out.mono HW3.out.size))
                  have p0 := (HAT.out k hk).1
                  have p1 := (HAT.out k hk).2
                  rw [← HWa.out.cell (p := ⟨gb, _, none⟩) hgb] at p0 p1
                  rw [ho] at p0
                  have HPE := Lib.hid (fun s n => parts_eq l k hk s n)
                  obtain ⟨mn, hmn⟩ : ∃ mn : Int, l[k].many = mn := ⟨_, rfl⟩
                  rw [hmn] at p1
                  have hmn0 : 0 ≤ mn := by omega
                  have hmn1 : mn ≤ 1048576 := by omega
                  have hwm : wrap64 (mn + 1) = mn + 1 := IntWalk.wrap64_in _ ⟨by omega, by omega⟩
                  have hmz : ¬ mn + 1 = 0 := by omega
                  clear HZ0 HB0 HNW HBa
                  go_upto_region 36 with fail
                  have hpt0 : 0 ≤ more % (mn + 1) := Int.emod_nonneg _ (by omega)
                  have hpt1 : more % (mn + 1) < mn + 1 := Int.emod_lt_of_pos _ (by omega)
                  generalize more % (mn + 1) = pt at *
                  have hwp : wrap64 (mn - pt) = mn - pt := IntWalk.wrap64_in _ ⟨by omega, by omega⟩
                  have x1 : wa.cell? ⟨g7, k * 2 + 1, none⟩ = some (.int .i64 mn) := by rw [HOa.out.cellAt _ (by omega), (pileV_at l k hk).2, hmn]
                  have x2 := HOa.out.frozenAt (k * 2 + 1)
                  have hwx : w.heap.size ≤ X3.heap.size := HW3.out.size
                  have HOb : Hid ((wa.setCell ⟨g7, k * 2 + 1, none⟩ (.int .i64 (mn - pt))).ownsRow X3.heap.size 46 2 (.slice (some ⟨g7, 0, none⟩) l.length c7) l.length (pileV (l.set k ⟨l[k].shades, l[k].many - pt⟩))) := Lib.hid (by have := (HOa.out.stored (k * 2 + 1) (.int .i64 (mn - pt))).1; rw [pileV_set (mn - pt) l k hk] at this; rw [hmn]; exact this)
                  have HWb : Hid (Below w.heap.size w (wa.setCell ⟨g7, k * 2 + 1, none⟩ (.int .i64 (mn - pt)))) := Lib.hid (HWa.out.setCell (p := ⟨g7, _, none⟩) (by simp only []; omega) _)
                  have hszb : X3.heap.size ≤ (wa.setCell ⟨g7, k * 2 + 1, none⟩ (.int .i64 (mn - pt))).heap.size := by simp only [World.size_setCell]; omega
                  have HMN := Lib.hid hmn
                  clear hmz hwm HOa hmn
                  go_upto_region 37 with fail
                  generalize World.setCell wa _ _ = wb2 at *
                  clear x1 x2 hwp p1
                  have p0 := (HAT.out k hk).1
                  rw [← HWb.out.cell (p := ⟨gb, _, none⟩) hgb, ho] at p0
                  have hb3 : Below wb2.heap.size wb2 (wb2.alloc (.cells #[.int .i64 (o : Int), .int .i64 pt] 46)) := (Below.refl wb2.heap.size wb2).alloc (Nat.le_refl _) _
                  have HNW : Hid (∀ (j : Nat) u, ([.int .i64 (o : Int), .int .i64 pt] : List Value)[j]? = some u → (wb2.alloc (.cells #[.int .i64 (o : Int), .int .i64 pt] 46)).cell? ((⟨wb2.heap.size, 0, none⟩ : Addr).add j) = some u) := Lib.hid (World.news_of_block (cs := #[.int .i64 (o : Int), .int .i64 pt]) (t := 46) (fr := (0, 0)) (World.alloc_heap_new wb2 _))
                  have HO2 := Lib.hid (own_low9 HOb.out hb3)
                  have HWc := Lib.hid (HWb.out.trans (hb3.mono HWb.out.size))
                  have hszc : X3.heap.size ≤ (wb2.alloc (.cells #[.int .i64 (o : Int), .int .i64 pt] 46)).heap.size := Nat.le_trans hszb hb3.size
                  obtain ⟨PP, hPP⟩ : ∃ PP : List Pile, PP = l.set k ⟨l[k].shades, l[k].many - pt⟩ := ⟨_, rfl⟩
                  have HPP := Lib.hid hPP
                  rw [← hPP] at HO2
                  have hppl : PP.length = l.length := by rw [hPP, List.length_set]
                  clear hb3 HOb hPP
                  go_upto_region 38 with (at_builtin; refine wpList_append_own _ rfl _ _ 23 rfl X3.heap.size 46 i0 _ 2 16 und_piles9 HI.out.1 HI.out.2.1 HI.out.2.2.1 HI.out.2.2.2 rfl (by decide) (.slice (some ⟨g7, 0, none⟩) l.length c7) l.length (pileV PP) rfl HO2.out ⟨wb2.heap.size, 0, none⟩ 1 1 [.int .i64 (o : Int), .int .i64 pt] rfl rfl HNW.out (by simp [Value.oneCell']) (by unfold maxLen; omega) (by omega) hszc ?_; intro v' w9 hown hgr hnn; clear hnn; have HO4 := Lib.hid hown; have HG4 := Lib.hid hgr; clear hown hgr)
                  have HW9 : Hid (Below w.heap.size w w9) := Lib.hid (Below.grown HWc.out HG4.out HWc.out.size fun j e => by have := (HO2.out.lt j e).1; omega)
                  have HO5 : Hid (w9.ownsRow X3.heap.size 46 2 v' (l.length + 1) (pileV (PP ++ [⟨(o : Int), pt⟩]))) := Lib.hid (by rw [pileV_app7]; exact HO4.out)
                  have HOKP : Hid (boxOk need (PP ++ [⟨(o : Int), pt⟩]) = true) := Lib.hid (ok_piles7 HOK.out (by rw [List.length_append, hppl]; simp only [List.length_cons, List.length_nil]; omega) fun q hq => by
                    rcases List.mem_append.1 hq with hq | hq
                    · rw [HPP.out] at hq
                      rcases List.mem_or_eq_of_mem_set hq with hq | rfl
                      · exact ok_in7 HOK.out q hq
                      · have := HMN.out
                        exact ⟨HLK.out.1, by dsimp only; omega, by dsimp only; omega⟩
                    · simp only [List.mem_cons, List.not_mem_nil, or_false] at hq
                      subst hq
                      rw [← ho]
                      exact ⟨HLK.out.1, hpt0, by dsimp only; omega⟩)
                  have HGP : Hid (∀ a, GreatOf (canB need (PP ++ [⟨(o : Int), pt⟩])) 8388608 a → a = x) := Lib.hid fun a ha => great_uniq ha (great_ext (fun b => by
                    rw [Bool.eq_iff_iff, can_iff, can_iff]
                    have e9 : ∀ s, hasS (PP ++ [⟨(o : Int), pt⟩]) s = hasS l s := fun s => by rw [HPP.out, ← ho]; exact HPE.out s pt
                    simp only [e9]) HG.out)
                  obtain ⟨g8, c8, rfl, h8a, h8b⟩ := own_g9 HO5.out (by omega)
                  have HMP : Hid (Calls Try.prog 13 #[.slice (some ⟨ga, offa, none⟩) need.length c, .slice (some ⟨g8, 0, none⟩) (l.length + 1) c8] w9 fun e w' => ∃ b, e = .returned (.tuple #[.int .i64 x, .int .i64 b, .int .i64 0]) ∧ Below w9.heap.size w9 w') := Lib.hid (by
                    have hpl : (PP ++ [(⟨(o : Int), pt⟩ : Pile)]).length = l.length + 1 := by rw [List.length_append, hppl]; rfl
                    have h1 := most_any w9 (some ⟨ga, offa, none⟩) (some ⟨g8, 0, none⟩) c c8 need (PP ++ [⟨(o : Int), pt⟩]) hn (by omega) (HA.out.on HW9.out (Nat.le_refl _)) (own_piles9 HO5.out hpl)
                    rw [hpl] at h1
                    refine h1.mono fun e w' h => ?_
                    obtain ⟨a, b, h2, h3, h4⟩ := most_ok h HOKP.out
                    rw [HGP.out a h3] at h2
                    exact ⟨b, h2, h4⟩)
                  clear HO5 HO4 HG4 HO2 HNW HOKP HGP HPE hppl HPP HMN HWc p0
                  go_wp2_with fail
                  refine HMP.out.mono ?_
                  rintro e w10 ⟨b4, rfl, hb10⟩
                  have HW10 := Lib.hid (HW9.out.trans (hb10.mono HW9.out.size))
                  clear hb10 HMP
                  go_wp2_with fail
                  refine (HAW.out _).mono ?_
                  rintro e w11 ⟨rfl, hb11⟩
                  have HB11 := Lib.hid (HW10.out.trans (hb11.mono HW10.out.size))
                  clear hb11
                  go_wp2_with fail
                  go_ret
                  exact ⟨rfl, HB11.out⟩
      · have HOK := Lib.hid hok
        clear hok
        go_wp2_with fail
        refine (HAW.out _).mono ?_
        rintro e w3 ⟨rfl, hb3⟩
        replace HW := Lib.hid (HW.out.trans (hb3.mono HW.out.size))
        go_wp2_with fail
        go_ret
        exact ⟨rfl, HW.out⟩
end Go.Proofs.Ytngoagfkcjkeoaa
