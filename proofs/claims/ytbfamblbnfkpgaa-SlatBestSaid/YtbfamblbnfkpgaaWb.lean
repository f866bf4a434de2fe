/- Plain part of SlatBest: no other pairs have more leads, or as many and come before. -/
import Derived.Test.YtbfamblbnfkpgaaYm
namespace Go.Proofs.Ytbfamblbnfkpgaa
open Go.RowKit Go.Shelf

/-- One lower slat gets an upper one (-1: none): what is gained, and what is used then. -/
def stepB (g : Int → Int → Option Int) (i : Int) (t : Nat) (c : Int) : Option (Int × Nat) :=
  if c = -1 then some (0, t) else match g i c with
  | some m => if Nat.testBit t c.toNat = true then none else some (m, t ||| 2 ^ c.toNat)
  | none => none
/-- How many leads the pairs of a list have; none: they cannot be glued. -/
def cntB (g : Int → Int → Option Int) : Int → Nat → List Int → Option Int
  | _, _, [] => some 0
  | i, t, c :: q => match stepB g i t c with
    | some mt => (cntB g (i + 1) mt.2 q).map (mt.1 + ·)
    | none => none
def befK (a b : Int) : Prop := a ≠ -1 ∧ (b = -1 ∨ a < b)
def LexB : List Int → List Int → Prop
  | a :: p, b :: q => (a = b ∧ LexB p q) ∨ befK a b
  | _, _ => True
def InU (U : Nat) (k : Nat) (c : Int) : Prop := c = -1 ∨ ((k : Int) ≤ c ∧ c < U)
structure ScB (g : Int → Int → Option Int) (i : Int) (t : Nat) (f : Nat → Prg) (U k : Nat) (r : Prg) (c0 : Int) (mt : Int × Nat) : Prop where
  hin : InU U k c0
  st : stepB g i t c0 = some mt
  eq : r = befP c0 mt.1 (f mt.2)
  all : ∀ c mt', InU U k c → stepB g i t c = some mt' → mt'.1 + (f mt'.2).2 ≤ r.2 ∧ (mt'.1 + (f mt'.2).2 = r.2 → c0 = c ∨ befK c0 c)
theorem scanB {g : Int → Int → Option Int} {i : Int} {t : Nat} {f : Nat → Prg} {U : Nat} : ∀ (k : Nat) (r : Prg) (c0 : Int) (mt : Int × Nat), k ≤ U → ScB g i t f U k r c0 mt → ∃ c1 m1, ScB g i t f U 0 (scanP g i t f k r) c1 m1
  | 0, r, c0, mt, _, h => ⟨c0, mt, h⟩
  | k + 1, r, c0, mt, hk, h => by
    have hne : (k : Int) ≠ -1 := by omega
    have wide : ∀ c : Int, InU U k c → c = (k : Int) ∨ InU U (k + 1) c := fun c hc => by
      unfold InU at hc ⊢
      omega
    have keep : (∀ mt', stepB g i t k = some mt' → mt'.1 + (f mt'.2).2 < r.2) → ScB g i t f U k r c0 mt := fun hlt => by
      refine ⟨?_, h.st, h.eq, fun c mt' hc hs => ?_⟩
      · have := h.hin; unfold InU at this ⊢; omega
      · rcases wide c hc with rfl | hc'
        · have := hlt mt' hs
          exact ⟨by omega, fun e => by omega⟩
        · exact h.all c mt' hc' hs
    show ∃ c1 m1, ScB g i t f U 0 (scanP g i t f k (tryP g i t f k r)) c1 m1
    cases hg : g i k with
    | none =>
      rw [tryP_no hg]
      exact scanB k r c0 mt (by omega) (keep fun mt' hs => by simp [stepB, hne, hg] at hs)
    | some m =>
      cases ht : Nat.testBit t k with
      | true =>
        rw [tryP_used hg ht]
        exact scanB k r c0 mt (by omega) (keep fun mt' hs => by simp [stepB, hne, hg, ht] at hs)
      | false =>
        have hst : stepB g i t k = some (m, t ||| 2 ^ k) := by simp [stepB, hne, hg, ht]
        rw [tryP_free hg ht]
        split
        · rename_i hle
          refine scanB k _ k (m, t ||| 2 ^ k) (by omega) ⟨.inr ⟨by omega, by omega⟩, hst, rfl, fun c mt' hc hs => ?_⟩
          show mt'.1 + (f mt'.2).2 ≤ m + (f (t ||| 2 ^ k)).2 ∧ (mt'.1 + (f mt'.2).2 = m + (f (t ||| 2 ^ k)).2 → (k : Int) = c ∨ befK k c)
          rcases wide c hc with rfl | hc'
          · rw [hst] at hs; cases hs; exact ⟨Int.le_refl _, fun _ => .inl rfl⟩
          · have := (h.all c mt' hc' hs).1
            exact ⟨by omega, fun _ => .inr ⟨hne, by unfold InU at hc'; omega⟩⟩
        · rename_i hle
          exact scanB k r c0 mt (by omega) (keep fun mt' hs => by rw [hst] at hs; cases hs; show m + (f (t ||| 2 ^ k)).2 < r.2; omega)
theorem pairB_succ (g : Int → Int → Option Int) (L U n t : Nat) : ∃ c0 mt, ScB g ((L : Int) - (n + 1 : Nat)) t (pairT g L U n) U 0 (pairT g L U (n + 1) t) c0 mt :=
  scanB U _ (-1) (0, t) (Nat.le_refl _) ⟨.inl rfl, by simp [stepB], rfl, fun c mt' hc hs => by
    have : c = -1 := by unfold InU at hc; omega
    subst this
    simp [stepB] at hs; subst hs
    exact ⟨Int.le_refl _, fun _ => .inl rfl⟩⟩
theorem sub_succ (L n : Nat) : ((L : Int) - (n + 1 : Nat)) + 1 = (L : Int) - n := by omega
/-- What is chosen can be glued, and has as many leads as is said. -/
theorem cnt_pair (g : Int → Int → Option Int) (L U : Nat) : ∀ (n t : Nat), cntB g ((L : Int) - n) t (pairT g L U n t).1 = some (pairT g L U n t).2 ∧ ∀ c ∈ (pairT g L U n t).1, InU U 0 c
  | 0, _ => ⟨rfl, by simp [pairT]⟩
  | n + 1, t => by
    obtain ⟨c0, mt, h⟩ := pairB_succ g L U n t
    obtain ⟨h1, h2⟩ := cnt_pair g L U n mt.2
    rw [h.eq]
    refine ⟨?_, ?_⟩
    · show cntB g _ t (c0 :: (pairT g L U n mt.2).1) = some (mt.1 + (pairT g L U n mt.2).2)
      rw [cntB, h.st, sub_succ]
      show Option.map _ _ = _
      rw [h1]; rfl
    · intro c hc
      have hc' : c ∈ c0 :: (pairT g L U n mt.2).1 := hc
      rcases List.mem_cons.1 hc' with rfl | hc'
      · exact h.hin
      · exact h2 c hc'
/-- No other pairs have more leads, or as many and come before. -/
theorem best_pair (g : Int → Int → Option Int) (L U : Nat) : ∀ (n t : Nat) (q : List Int) (m : Int), q.length = n → (∀ c ∈ q, InU U 0 c) → cntB g ((L : Int) - n) t q = some m → m ≤ (pairT g L U n t).2 ∧ (m = (pairT g L U n t).2 → LexB (pairT g L U n t).1 q)
  | 0, t, q, m, hl, _, h => by
    obtain rfl := List.eq_nil_of_length_eq_zero hl
    simp [cntB] at h
    subst h
    exact ⟨Int.le_refl _, fun _ => trivial⟩
  | n + 1, t, [], m, hl, _, h => by simp at hl
  | n + 1, t, c :: q, m, hl, hq, h => by
    obtain ⟨c0, mt, hs⟩ := pairB_succ g L U n t
    rw [cntB, sub_succ] at h
    cases hst : stepB g ((L : Int) - (n + 1 : Nat)) t c with
    | none => rw [hst] at h; simp at h
    | some m1 =>
      rw [hst] at h
      have h' : (cntB g ((L : Int) - n) m1.2 q).map (m1.1 + ·) = some m := h
      cases hc : cntB g ((L : Int) - n) m1.2 q with
      | none => rw [hc] at h'; simp at h'
      | some m2 =>
        rw [hc] at h'
        have e : m1.1 + m2 = m := by simpa using h'
        obtain ⟨b1, b2⟩ := best_pair g L U n m1.2 q m2 (by simpa using hl) (fun x hx => hq x (List.mem_cons_of_mem _ hx)) hc
        obtain ⟨a1, a2⟩ := hs.all c m1 (hq c (List.mem_cons_self ..)) hst
        refine ⟨by omega, fun em => ?_⟩
        have e2 : m2 = (pairT g L U n m1.2).2 := by omega
        rw [hs.eq]
        show LexB (c0 :: (pairT g L U n mt.2).1) (c :: q)
        rcases a2 (by omega) with rfl | hb
        · rw [hs.st] at hst; cases hst
          exact .inl ⟨rfl, b2 e2⟩
        · exact .inr hb
/-- The first place at which two lists part. -/
theorem lexB_at : ∀ (p q : List Int) (k : Nat) (a b : Int), LexB p q → (∀ j, j < k → p[j]? = q[j]?) → p[k]? = some a → q[k]? = some b → a ≠ b → befK a b
  | [], _, k, a, b, _, _, h, _, _ => by simp at h
  | _ :: _, [], k, a, b, _, _, _, h, _ => by simp at h
  | x :: p, y :: q, 0, a, b, hL, _, h1, h2, hne => by
    simp at h1 h2; subst h1; subst h2
    rcases hL with ⟨e, _⟩ | h
    · exact absurd e hne
    · exact h
  | x :: p, y :: q, k + 1, a, b, hL, hs, h1, h2, hne => by
    have h0 := hs 0 (by omega)
    simp at h0; subst h0
    rcases hL with ⟨_, h⟩ | h
    · exact lexB_at p q k a b h (fun j hj => by simpa using hs (j + 1) (by omega)) (by simpa using h1) (by simpa using h2) hne
    · unfold befK at h; omega
theorem grade_one (l : Lead) (x : Int) : gradeOf l [x] = if leadIn l x = true then 0 else -1 := by
  unfold gradeOf gradeFrom gradeFrom; rfl
theorem grade_count (j : Jig) (a b : Slat) (lim : Int) : (gradesOf j a b [lim]).countP (· == 0) = (leadsOf j a b).countP (leadIn · lim) := by
  unfold gradesOf
  rw [List.countP_map]
  congr 1
  funext l
  simp only [Function.comp_apply, grade_one]
  cases leadIn l lim <;> simp
theorem pair_gra {j : Jig} {l u : List Slat} {lim : Int} (h : pairE j l u lim = 0) {i k : Nat} (hi : i < l.length) (hk : k < u.length) :
    (∃ m : Nat, pairS j l u lim i k = some (m : Int) ∧ graE j l[i] u[k] [lim] = 0 ∧ (graL j l[i] u[k] [lim]).countP (· == 0) = m ∧ (graL j l[i] u[k] [lim]).length ≤ 10) ∨ (pairS j l u lim i k = none ∧ graE j l[i] u[k] [lim] = 6) := by
  obtain ⟨h1, ⟨h2, h3⟩, -, h5, -⟩ := slErr_0 h
  have ha := List.all_eq_true.1 h2 _ (List.getElem_mem hi)
  have hb := List.all_eq_true.1 h3 _ (List.getElem_mem hk)
  have h0 : graE0 j l[i] u[k] [lim] = 0 := by
    unfold graE0 slErr
    simp [h1, ha, hb, h5]
  have e : pairS j l u lim i k = if alwaysB j l[i] u[k] = true then some (((leadsOf j l[i] u[k]).countP (leadIn · lim) : Nat) : Int) else none := by
    unfold pairS
    simp [hi, hk]
  cases hal : alwaysB j l[i] u[k] with
  | true =>
    have eL : graL j l[i] u[k] [lim] = gradesOf j l[i] u[k] [lim] := by unfold graL; rw [if_pos ⟨h0, hal⟩]
    refine .inl ⟨_, by rw [e, hal]; rfl, by unfold graE; rw [if_pos h0, hal]; rfl, by rw [eL, grade_count], ?_⟩
    rw [eL, grades_len, leads_len]
    have := (jigIn_of h1).n1
    omega
  | false => exact .inr ⟨by rw [e, hal]; rfl, by unfold graE; rw [if_pos h0, hal]; rfl⟩
end Go.Proofs.Ytbfamblbnfkpgaa
namespace Go.Proofs.Ytbfamblbnfkpgaa
open Go.RowKit Go.Shelf

/-- What the closure has captured. -/
structure CtS (qj ql qu qm : Nat) (j : Jig) (A B : Option Addr) (n ca m cb : Nat) (lim : Int) (w W : World) : Prop where
  hb : Below w.heap.size w W
  kj : Blk W qj 25 #[.int .i64 j.glue.lo, .int .i64 j.glue.hi, .int .i64 j.lead.lo, .int .i64 j.lead.hi, .int .i64 j.side.lo, .int .i64 j.side.hi, .int .i64 j.height.lo, .int .i64 j.height.hi, .int .i64 j.play, .int .i64 j.grooves]
  kl : Blk W ql 26 #[.slice A n ca]
  ku : Blk W qu 26 #[.slice B m cb]
  km : Blk W qm 3 #[.int .i64 lim]
theorem CtS.call {qj ql qu qm : Nat} {j : Jig} {A B : Option Addr} {n ca m cb : Nat} {lim : Int} {w W W' : World} (h : CtS qj ql qu qm j A B n ca m cb lim w W) (hb : Below W.heap.size W W') : CtS qj ql qu qm j A B n ca m cb lim w W' :=
  ⟨h.hb.trans (hb.mono h.hb.size), h.kj.below hb h.kj.lt, h.kl.below hb h.kl.lt, h.ku.below hb h.ku.lt, h.km.below hb h.km.lt⟩
theorem bit_use2 {t q : Nat} (ht : t < 128) (hq : q < 7) : bits .and .i64 ((t : Int) / 2 ^ q) 1 = if Nat.testBit t q = true then 1 else 0 := by
  rw [← and_bits t ht q hq]
  rw [Int.natCast_ediv, Int.natCast_pow]; rfl
theorem cnt_at {G : Int → Int → Option Int} {q : List Int} {k t : Nat} (hk : k < q.length) : cntB G k t (q.drop k) = match stepB G k t q[k] with
    | some mt => (cntB G ((k : Int) + 1) mt.2 (q.drop (k + 1))).map (mt.1 + ·)
    | none => none := by
  rw [List.drop_eq_getElem_cons hk, cntB]
  all_goals (cases stepB G k t q[k] <;> rfl)
theorem map_add2 (o : Option Int) (a b : Int) : (o.map (b + ·)).map (a + ·) = o.map (a + b + ·) := by
  cases o with
  | none => rfl
  | some x => simp [Int.add_assoc]
theorem step_none (G : Int → Int → Option Int) (i : Int) (t : Nat) : stepB G i t (-1) = some (0, t) := by simp [stepB]
theorem step_used {G : Int → Int → Option Int} {i : Int} {t r : Nat} {m : Int} (hg : G i r = some m) (ht : Nat.testBit t r = true) : stepB G i t r = none := by
  have h : (r : Int) ≠ -1 := by omega
  simp [stepB, h, hg, ht]
theorem step_used2 {G : Int → Int → Option Int} {i : Int} {t r : Nat} (ht : Nat.testBit t r = true) : stepB G i t r = none := by
  cases hg : G i r with
  | some m => exact step_used hg ht
  | none =>
    have h : (r : Int) ≠ -1 := by omega
    simp [stepB, h, hg]
theorem step_not {G : Int → Int → Option Int} {i : Int} {t r : Nat} (hg : G i r = none) : stepB G i t r = none := by
  have h : (r : Int) ≠ -1 := by omega
  simp [stepB, h, hg]
theorem step_free {G : Int → Int → Option Int} {i : Int} {t r : Nat} {m : Int} (hg : G i r = some m) (ht : Nat.testBit t r = false) : stepB G i t r = some (m, t ||| 2 ^ r) := by
  have h : (r : Int) ≠ -1 := by omega
  simp [stepB, h, hg, ht]
set_option maxRecDepth 100000 in
set_option maxHeartbeats 8000000 in
theorem count5_any (w : World) (qj ql qu qm : Nat) (A B P : Option Addr) (ca cb cp : Nat) (j : Jig) (l u : List Slat) (lim : Int) (q : List Int) (hE : pairE j l u lim = 0) (hq : q.length = l.length) (hr : ∀ c ∈ q, InU u.length 0 c) (hP : IntSl w w.heap.size P q) (hA : SlatSl w w.heap.size A l) (hB : SlatSl w w.heap.size B u) (hS : CtS qj ql qu qm j A B l.length ca u.length cb lim w w) :
    Calls Try.prog 29 #[.slice P q.length cp, .pointer (some ⟨qu, 0, none⟩), .pointer (some ⟨qj, 0, none⟩), .pointer (some ⟨ql, 0, none⟩), .pointer (some ⟨qm, 0, none⟩)] w (Ret (.tuple #[.int .i64 ((cntB (pairS j l u lim) 0 0 q).getD 0), .bool (cntB (pairS j l u lim) 0 0 q).isSome]) w) := by
  have HPG := Lib.hid fun (i k : Nat) (hi : i < l.length) (hk : k < u.length) => pair_gra hE hi hk
  obtain ⟨-, -, ⟨hl7, hu7, -⟩, hlim, -⟩ := slErr_0 hE
  have HGO : Hid (GOk (pairS j l u lim)) := Lib.hid (pairS_ok (jigIn_of (slErr_0 hE).1))
  have HS := Lib.hid hS
  have HQ := Lib.hid hP
  have HAA := Lib.hid hA
  have HBB := Lib.hid hB
  have HR := Lib.hid hr
  have HQL := Lib.hid hq
  have hq0 : (0 : Int) ≤ q.length := by omega
  have hq7 : (q.length : Int) ≤ 7 := by omega
  have hu0 : (0 : Int) ≤ u.length := by omega
  have hu1 : (u.length : Int) ≤ 7 := by omega
  have HQ7 : Hid (q.length ≤ 7) := Lib.hid (by omega)
  generalize pairS j l u lim = G at *
  obtain ⟨res, hres⟩ : ∃ r, cntB G 0 0 q = r := ⟨_, rfl⟩
  rw [hres]
  have HC0 : Hid (res = (cntB G ((0 : Nat) : Int) 0 (q.drop 0)).map ((0 : Int) + ·)) := Lib.hid (by rw [← hres]; cases h : cntB G 0 0 q with | none => simp [h] | some x => simp [h])
  clear hE hq hr hP hA hB hS hlim hres hl7
  go_enter Try.func29, Try.ntmps29
  go_wp2_with fail
  go_loopw [8, 9, 18] (fun n t i wr => ∃ (k : Nat) (m : Int) (ub : Nat), k ≤ q.length ∧ n = .int .i64 m ∧ t = .int .i64 (ub : Int) ∧ i = .int .i64 k ∧ Hid ((0 ≤ m ∧ m ≤ 10 * k) ∧ ub < 128) ∧ Hid (res = (cntB G k ub (q.drop k)).map (m + ·)) ∧ Hid (CtS qj ql qu qm j A B l.length ca u.length cb lim w wr)) (fun _ _ i _ => q.length - (intOf i).toNat)
  case atStart => exact ⟨0, 0, 0, Nat.zero_le _, rfl, rfl, rfl, Lib.hid (by omega), HC0, HS⟩
  case round =>
    clear HS HC0
    obtain ⟨k, m, ub, hk, rfl, rfl, rfl, HM, HC, HS⟩ := hrel
    by_cases hlt : k < q.length
    · obtain ⟨bP, oP, rfl, hbP, hcP⟩ := HQ.out (by intro e; rw [e] at hlt; simp at hlt)
      have x0 := hcP k hlt
      rw [← HS.out.hb.cell (p := ⟨bP, _, none⟩) hbP] at x0
      rw [cnt_at hlt] at HC
      have hin := HR.out q[k] (List.getElem_mem hlt)
      have hk0 : (0 : Int) ≤ k := by omega
      have hkl : (k : Int) < q.length := by omega
      have hka : k < l.length := by have := HQL.out; omega
      generalize q[k] = c at *
      clear hcP hbP
      by_cases hc : c = -1
      · subst hc
        rw [step_none] at HC
        have HC2 : Hid (res = (cntB G ((k + 1 : Nat) : Int) ub (q.drop (k + 1))).map (m + ·)) := Lib.hid (by rw [HC.out]; show Option.map _ (Option.map _ _) = _; rw [map_add2]; simp)
        clear HC hin
        go_wp2_with fail
        go_roundw
        case rel => exact ⟨k + 1, m, ub, by omega, rfl, rfl, by go_num, Lib.hid (by have := HM.out; omega), HC2, HS⟩
        case measure => simp [intOf]; omega
      · have hc' : (c == -1) = false := by rw [beq_eq_false_iff_ne]; exact hc
        obtain ⟨r, rfl⟩ := Int.eq_ofNat_of_zero_le (show 0 ≤ c by unfold InU at hin; omega)
        have hru : r < u.length := by unfold InU at hin; omega
        have hr0 : (0 : Int) ≤ r := by omega
        have hr1 : (r : Int) < u.length := by omega
        have hr2 : ¬ (u.length : Int) ≤ r := by omega
        have hr3 : ¬ (r : Int) < 0 := by omega
        have hr64 : (r : Int) ≤ 64 := by omega
        have hr7 : r < 7 := by omega
        have x1 := HS.out.ku.cell 0
        have hbu := bit_use2 HM.out.2 hr7
        clear hin hc
        cases htb : Nat.testBit ub r with
        | true =>
          rw [step_used2 htb] at HC
          rw [if_pos htb] at hbu
          have HN : Hid (res = none) := Lib.hid HC.out
          clear HC htb
          go_wp2_with fail
          exact bodyPost_ret (v := .tuple #[.int .i64 0, .bool false]) (by simp [results, Try.results29, go_sem]) rfl ⟨by rw [HN.out]; rfl, HS.out.hb⟩
        | false =>
          rw [if_neg (by rw [htb]; simp)] at hbu
          have HO := Lib.hid (or_bits ub HM.out.2 r hr7)
          have HSH := Lib.hid (sh_bits r hr7)
          have HT2 : Hid (ub ||| 2 ^ r < 128) := Lib.hid (or_small ub HM.out.2 r hr7)
          have e1 : IntKind.i64.wrap (2 ^ r) = ((2 ^ r : Nat) : Int) := by rw [← HSH.out]; rw [Int.natCast_pow]; rfl
          have e2 : bits .or .i64 (ub : Int) ((2 ^ r : Nat) : Int) = ((ub ||| 2 ^ r : Nat) : Int) := HO.out
          have HPK := Lib.hid (HPG.out k r hka hru)
          have HST : Hid (∀ m1, G k r = some m1 → stepB G k ub r = some (m1, ub ||| 2 ^ r)) := Lib.hid fun m1 h => step_free h htb
          have HST2 : Hid (G k r = none → stepB G k ub r = none) := Lib.hid step_not
          have HGB := Lib.hid fun m1 => HGO.out k r m1
          obtain ⟨bA, oA, rfl, hbA, hsA⟩ := HAA.out (by intro e; rw [e] at hka; simp at hka)
          obtain ⟨bB, oB, rfl, hbB, hsB⟩ := HBB.out (by intro e; rw [e] at hru; simp at hru)
          have HRA := Lib.hid fun V (hV : Below w.heap.size w V) => range_low (slats_range hsA hka rfl) hV hbA
          have HRB := Lib.hid fun V (hV : Below w.heap.size w V) => range_low (slats_range hsB hru rfl) hV hbB
          generalize l[k] = a at *
          generalize u[r] = b at *
          generalize ((2 ^ r : Nat) : Int) = P2 at e1 e2
          generalize ub ||| 2 ^ r = ub2 at *
          have hkl' : (k : Int) < l.length := by omega
          clear htb HO HSH hsA hsB hbA hbB
          go_upto_region 9 with fail
          clear x0 x1 hbu e1 e2
          replace HS := Lib.hid (HS.out.call (Below.refl _ _).drew)
          refine wp_region_held_drew (S := fun W9 => (Blk W9 qj 25 #[.int .i64 j.glue.lo, .int .i64 j.glue.hi, .int .i64 j.lead.lo, .int .i64 j.lead.hi, .int .i64 j.side.lo, .int .i64 j.side.hi, .int .i64 j.height.lo, .int .i64 j.height.hi, .int .i64 j.play, .int .i64 j.grooves] ∧ Blk W9 ql 26 #[.slice (some ⟨bA, oA, none⟩) l.length ca] ∧ Blk W9 qu 26 #[.slice (some ⟨bB, oB, none⟩) u.length cb] ∧ Blk W9 qm 3 #[.int .i64 lim]) ∧ W9.rangeAt bA (oA + k * 8) [.int .i64 a.thick.lo, .int .i64 a.thick.hi, .int .i64 a.depth.lo, .int .i64 a.depth.hi, .int .i64 a.shift.lo, .int .i64 a.shift.hi, .int .i64 a.pitch.lo, .int .i64 a.pitch.hi] ∧ W9.rangeAt bB (oB + r * 8) [.int .i64 b.thick.lo, .int .i64 b.thick.hi, .int .i64 b.depth.lo, .int .i64 b.depth.hi, .int .i64 b.shift.lo, .int .i64 b.shift.hi, .int .i64 b.pitch.lo, .int .i64 b.pitch.hi]) (by kernel_rfl) ⟨⟨HS.out.kj, HS.out.kl, HS.out.ku, HS.out.km⟩, HRA.out _ HS.out.hb, HRB.out _ HS.out.hb⟩ (fun hH0 => ?_)
          generalize World.drew _ = V0 at *
          simp only [List.size_toArray, List.length_cons, List.length_nil, Nat.reduceAdd, Array.replicate_succ, Array.replicate_zero, List.push_toArray, List.nil_append, List.cons_append]
          refine wpAnyH_take (i := 0) (v := _) rfl (by kernel_rfl) (by kernel_rfl) (by kernel_rfl) (fun _ _ _ h => h) (yieldsIf_load_mid (by rfl) _ _ rfl _ _ rfl [.int .i64 j.glue.lo, .int .i64 j.glue.hi, .int .i64 j.lead.lo, .int .i64 j.lead.hi, .int .i64 j.side.lo, .int .i64 j.side.hi, .int .i64 j.height.lo, .int .i64 j.height.hi, .int .i64 j.play, .int .i64 j.grooves] _ (fun w0 h0 => h0.1.1.range) (by rfl) (by rfl) (by kernel_rfl)) (by assumption) ?_
          (try simp only [Act.put, List.getElem_toArray, List.getElem_cons_zero, List.setIfInBounds_toArray, List.set_cons_zero, List.set_cons_succ])
          refine wpAnyH_take (i := 1 ) (v := ?_) rfl (by kernel_rfl) (by kernel_rfl) (by kernel_rfl) (fun _ _ _ h => h) (Or.inl ⟨by rfl, ?_⟩) (by assumption) ?_; rotate_left; (· (intro w0 hSw; have a0 := hSw.1.2.1.cell 0; have a1 := hSw.1.2.2.1.cell 0; have a2 := hSw.1.2.2.2.cell 0; clear hSw; go_simp); first | done | with_reducible rfl); (try simp only [Act.put, List.getElem_toArray, List.getElem_cons_succ, List.getElem_cons_zero, List.setIfInBounds_toArray, List.set_cons_zero, List.set_cons_succ])
          refine wpAnyH_take (i := 2 ) (v := ?_) rfl (by kernel_rfl) (by kernel_rfl) (by kernel_rfl) (fun _ _ _ h => h) (Or.inl ⟨by rfl, ?_⟩) (by assumption) ?_; rotate_left; (· (intro w0 hSw; have a0 := hSw.1.2.1.cell 0; have a1 := hSw.1.2.2.1.cell 0; have a2 := hSw.1.2.2.2.cell 0; clear hSw; go_simp); first | done | with_reducible rfl); (try simp only [Act.put, List.getElem_toArray, List.getElem_cons_succ, List.getElem_cons_zero, List.setIfInBounds_toArray, List.set_cons_zero, List.set_cons_succ])
          refine wpAnyH_take (i := 3 ) (v := ?_) rfl (by kernel_rfl) (by kernel_rfl) (by kernel_rfl) (fun _ _ _ h => h) (Or.inl ⟨by rfl, ?_⟩) (by assumption) ?_; rotate_left; (· (intro w0 hSw; have a0 := hSw.1.2.1.cell 0; have a1 := hSw.1.2.2.1.cell 0; have a2 := hSw.1.2.2.2.cell 0; clear hSw; go_simp); first | done | with_reducible rfl); (try simp only [Act.put, List.getElem_toArray, List.getElem_cons_succ, List.getElem_cons_zero, List.setIfInBounds_toArray, List.set_cons_zero, List.set_cons_succ])
          refine wpAnyH_take (i := 4) (v := _) rfl (by kernel_rfl) (by kernel_rfl) (by kernel_rfl) (fun _ _ _ h => h) (yieldsIf_load_mid (by rfl) _ _ rfl _ _ rfl [.int .i64 a.thick.lo, .int .i64 a.thick.hi, .int .i64 a.depth.lo, .int .i64 a.depth.hi, .int .i64 a.shift.lo, .int .i64 a.shift.hi, .int .i64 a.pitch.lo, .int .i64 a.pitch.hi] _ (fun w0 h0 => h0.2.1) (by rfl) (by rfl) (by kernel_rfl)) (by assumption) ?_
          (try simp only [Act.put, List.getElem_toArray, List.getElem_cons_succ, List.getElem_cons_zero, List.setIfInBounds_toArray, List.set_cons_zero, List.set_cons_succ])
          refine wpAnyH_take (i := 5 ) (v := ?_) rfl (by kernel_rfl) (by kernel_rfl) (by kernel_rfl) (fun _ _ _ h => h) (Or.inl ⟨by rfl, ?_⟩) (by assumption) ?_; rotate_left; (· (intro w0 hSw; have a0 := hSw.1.2.1.cell 0; have a1 := hSw.1.2.2.1.cell 0; have a2 := hSw.1.2.2.2.cell 0; clear hSw; go_simp); first | done | with_reducible rfl); (try simp only [Act.put, List.getElem_toArray, List.getElem_cons_succ, List.getElem_cons_zero, List.setIfInBounds_toArray, List.set_cons_zero, List.set_cons_succ])
          refine wpAnyH_take (i := 6 ) (v := ?_) rfl (by kernel_rfl) (by kernel_rfl) (by kernel_rfl) (fun _ _ _ h => h) (Or.inl ⟨by rfl, ?_⟩) (by assumption) ?_; rotate_left; (· (intro w0 hSw; have a0 := hSw.1.2.1.cell 0; have a1 := hSw.1.2.2.1.cell 0; have a2 := hSw.1.2.2.2.cell 0; clear hSw; go_simp); first | done | with_reducible rfl); (try simp only [Act.put, List.getElem_toArray, List.getElem_cons_succ, List.getElem_cons_zero, List.setIfInBounds_toArray, List.set_cons_zero, List.set_cons_succ])
          refine wpAnyH_take (i := 7 ) (v := ?_) rfl (by kernel_rfl) (by kernel_rfl) (by kernel_rfl) (fun _ _ _ h => h) (Or.inl ⟨by rfl, ?_⟩) (by assumption) ?_; rotate_left; (· (intro w0 hSw; have a0 := hSw.1.2.1.cell 0; have a1 := hSw.1.2.2.1.cell 0; have a2 := hSw.1.2.2.2.cell 0; clear hSw; go_simp); first | done | with_reducible rfl); (try simp only [Act.put, List.getElem_toArray, List.getElem_cons_succ, List.getElem_cons_zero, List.setIfInBounds_toArray, List.set_cons_zero, List.set_cons_succ])
          refine wpAnyH_take (i := 8) (v := _) rfl (by kernel_rfl) (by kernel_rfl) (by kernel_rfl) (fun _ _ _ h => h) (yieldsIf_load_mid (by rfl) _ _ rfl _ _ rfl [.int .i64 b.thick.lo, .int .i64 b.thick.hi, .int .i64 b.depth.lo, .int .i64 b.depth.hi, .int .i64 b.shift.lo, .int .i64 b.shift.hi, .int .i64 b.pitch.lo, .int .i64 b.pitch.hi] _ (fun w0 h0 => h0.2.2) (by rfl) (by rfl) (by kernel_rfl)) (by assumption) ?_
          (try simp only [Act.put, List.getElem_toArray, List.getElem_cons_succ, List.getElem_cons_zero, List.setIfInBounds_toArray, List.set_cons_zero, List.set_cons_succ])
          refine wpAnyH_take (i := 9 ) (v := ?_) rfl (by kernel_rfl) (by kernel_rfl) (by kernel_rfl) (fun _ _ _ h => h) (Or.inl ⟨by rfl, ?_⟩) (by assumption) ?_; rotate_left; (· (intro w0 hSw; have a0 := hSw.1.2.1.cell 0; have a1 := hSw.1.2.2.1.cell 0; have a2 := hSw.1.2.2.2.cell 0; clear hSw; go_simp); first | done | with_reducible rfl); (try simp only [Act.put, List.getElem_toArray, List.getElem_cons_succ, List.getElem_cons_zero, List.setIfInBounds_toArray, List.set_cons_zero, List.set_cons_succ])
          refine wpAnyH_ready (rs := [10]) (by kernel_rfl) (by simp) ?_
          refine AllReadyH.cons (by simp only [List.getElem?_toArray, List.getElem?_cons_succ, List.getElem?_cons_zero]; rfl) (fun K hK => ?_) AllReadyH.nil
          go_simp
          have hb : Below V0.heap.size V0 (V0.alloc (.cells #[.int .i64 lim] 3)) := (Below.refl _ _).alloc (Nat.le_refl _) _
          have H9 := Lib.hid (Blk.new V0 3 #[.int .i64 lim])
          replace HS := Lib.hid (HS.out.call hb)
          clear hb
          generalize V0.heap.size = g9 at *
          generalize World.alloc V0 _ = X9 at *
          refine hK.out _ _ ⟨⟨HS.out.kj, HS.out.kl, HS.out.ku, HS.out.km⟩, HRA.out _ HS.out.hb, HRB.out _ HS.out.hb⟩ (fun hH1 => ?_)
          clear hK K
          try simp only [List.setIfInBounds_toArray, List.set_cons_zero, List.set_cons_succ]
          refine wpAnyH_ready (rs := [11]) (by kernel_rfl) (by simp) ?_
          refine AllReadyH.cons (by simp only [List.getElem?_toArray, List.getElem?_cons_succ, List.getElem?_cons_zero]; rfl) (fun K hK => ?_) AllReadyH.nil
          go_simp
          refine (grades5_any j a b (some ⟨g9, 0, none⟩) 1 [lim] _ (by simp) (one_lim H9.out)).mono ?_
          rintro e X ⟨A9, c9, rfl, hown, hb⟩
          replace HS := Lib.hid (HS.out.call hb)
          have HOW := Lib.hid (show PlanAt X (.slice A9 (graL j a b [lim]).length c9) (graL j a b [lim]) from own_low hown (Nat.zero_le _))
          clear hb hown H9
          refine hK.out _ _ ⟨⟨HS.out.kj, HS.out.kl, HS.out.ku, HS.out.km⟩, HRA.out _ HS.out.hb, HRB.out _ HS.out.hb⟩ (fun hH2 => ?_)
          clear hK K
          try simp only [List.setIfInBounds_toArray, List.set_cons_zero, List.set_cons_succ]
          refine wpAnyH_take (i := 12 ) (v := ?_) rfl (by kernel_rfl) (by kernel_rfl) (by kernel_rfl) (fun _ _ _ h => h) (Or.inl ⟨by rfl, ?_⟩) (by assumption) ?_; rotate_left; (· (intro w0 hSw; have a0 := hSw.1.2.1.cell 0; have a1 := hSw.1.2.2.1.cell 0; have a2 := hSw.1.2.2.2.cell 0; clear hSw; go_simp); first | done | with_reducible rfl); (try simp only [Act.put, List.getElem_toArray, List.getElem_cons_succ, List.getElem_cons_zero, List.setIfInBounds_toArray, List.set_cons_zero, List.set_cons_succ])
          refine wpAnyH_take (i := 13 ) (v := ?_) rfl (by kernel_rfl) (by kernel_rfl) (by kernel_rfl) (fun _ _ _ h => h) (Or.inl ⟨by rfl, ?_⟩) (by assumption) ?_; rotate_left; (· (intro w0 hSw; have a0 := hSw.1.2.1.cell 0; have a1 := hSw.1.2.2.1.cell 0; have a2 := hSw.1.2.2.2.cell 0; clear hSw; go_simp); first | done | with_reducible rfl); (try simp only [Act.put, List.getElem_toArray, List.getElem_cons_succ, List.getElem_cons_zero, List.setIfInBounds_toArray, List.set_cons_zero, List.set_cons_succ])
          refine wpAnyH_take (i := 14 ) (v := ?_) rfl (by kernel_rfl) (by kernel_rfl) (by kernel_rfl) (fun _ _ _ h => h) (Or.inl ⟨by rfl, ?_⟩) (by assumption) ?_; rotate_left; (· (intro w0 hSw; have a0 := hSw.1.2.1.cell 0; have a1 := hSw.1.2.2.1.cell 0; have a2 := hSw.1.2.2.2.cell 0; clear hSw; go_simp); first | done | with_reducible rfl); (try simp only [Act.put, List.getElem_toArray, List.getElem_cons_succ, List.getElem_cons_zero, List.setIfInBounds_toArray, List.set_cons_zero, List.set_cons_succ])
          refine wpAnyH_take (i := 15 ) (v := ?_) rfl (by kernel_rfl) (by kernel_rfl) (by kernel_rfl) (fun _ _ _ h => h) (Or.inl ⟨by rfl, ?_⟩) (by assumption) ?_; rotate_left; (· (intro w0 hSw; have a0 := hSw.1.2.1.cell 0; have a1 := hSw.1.2.2.1.cell 0; have a2 := hSw.1.2.2.2.cell 0; clear hSw; go_simp); first | done | with_reducible rfl); (try simp only [Act.put, List.getElem_toArray, List.getElem_cons_succ, List.getElem_cons_zero, List.setIfInBounds_toArray, List.set_cons_zero, List.set_cons_succ])
          refine wpAnyH_take (i := 16 ) (v := ?_) rfl (by kernel_rfl) (by kernel_rfl) (by kernel_rfl) (fun _ _ _ h => h) (Or.inl ⟨by rfl, ?_⟩) (by assumption) ?_; rotate_left; (· (intro w0 hSw; have a0 := hSw.1.2.1.cell 0; have a1 := hSw.1.2.2.1.cell 0; have a2 := hSw.1.2.2.2.cell 0; clear hSw; go_simp); first | done | with_reducible rfl); (try simp only [Act.put, List.getElem_toArray, List.getElem_cons_succ, List.getElem_cons_zero, List.setIfInBounds_toArray, List.set_cons_zero, List.set_cons_succ])
          refine wpAnyH_done (by kernel_rfl) ?_ _
          clear HRA HRB
          rcases HPK.out with ⟨z, hg1, hg2, hg3, hg4⟩ | ⟨hg1, hg2⟩
          · rw [HST.out _ hg1] at HC
            have hz10 := (HGB.out _ hg1)
            have HC2 : Hid (res = (cntB G ((k + 1 : Nat) : Int) ub2 (q.drop (k + 1))).map (m + (z : Int) + ·)) := Lib.hid (by rw [HC.out]; show Option.map _ (Option.map _ _) = _; rw [map_add2]; simp)
            have HZ := Lib.hid hg3
            rw [hg2]
            clear hg1 hg2 hg3 HC HST HST2 HGB HPK
            generalize graL j a b [lim] = gl at *
            have HGS := Lib.hid (plan_sl5 HOW.out)
            have hgl0 : (0 : Int) ≤ gl.length := by omega
            have hgl1 : (gl.length : Int) ≤ 10 := by omega
            have hsz := HS.out.hb
            have HX := Lib.hid (Below.refl X.heap.size X)
            clear hsz
            go_wp2_with fail
            go_loopw [8, 63] (fun n i wr => ∃ (p y : Nat), p ≤ gl.length ∧ n = .int .i64 (m + y) ∧ i = .int .i64 p ∧ Hid (y = (gl.take p).countP (· == 0)) ∧ Hid (CtS qj ql qu qm j (some ⟨bA, oA, none⟩) (some ⟨bB, oB, none⟩) l.length ca u.length cb lim w wr) ∧ Hid (Below X.heap.size X wr)) (fun _ i _ => gl.length - (intOf i).toNat)
            case atStart => exact ⟨0, 0, Nat.zero_le _, by simp, rfl, Lib.hid (by simp), HS, HX⟩
            case round =>
              clear HS HX
              obtain ⟨p, y, hp, rfl, rfl, HY, HS, HX⟩ := hrel
              by_cases hpl : p < gl.length
              · obtain ⟨bG, oG, rfl, hbG, hcG⟩ := HGS.out (by intro e; rw [e] at hpl; simp at hpl)
                have g0 := hcG p hpl
                rw [← HX.out.cell (p := ⟨bG, _, none⟩) hbG] at g0
                have HCN : Hid ((gl.take (p + 1)).countP (· == 0) = (gl.take p).countP (· == 0) + if (gl[p] == 0) = true then 1 else 0) := Lib.hid (by rw [List.take_succ_eq_append_getElem hpl, List.countP_append]; simp [List.countP_cons])
                have hy10 : y ≤ 10 := by
                  have h1 := HY.out
                  have h2 := List.countP_le_length (p := fun x : Int => x == 0) (l := gl.take p)
                  rw [List.length_take] at h2
                  omega
                have hmb := HM.out.1
                have wm : IntKind.i64.wrap (m + (y : Int) + 1) = m + (y : Int) + 1 := IntWalk.i64_in _ ⟨by omega, by omega⟩
                have hp0 : (0 : Int) ≤ p := by omega
                have hp1 : (p : Int) < gl.length := by omega
                generalize gl[p] = gv at *
                clear hcG hmb
                cases hw : gv == 0 with
                | true =>
                  rw [hw] at HCN
                  have HY2 : Hid (y + 1 = (gl.take (p + 1)).countP (· == 0)) := Lib.hid (by rw [HCN.out, ← HY.out]; rfl)
                  clear HCN HY
                  go_wp2_with fail
                  go_roundw
                  case rel => exact ⟨p + 1, y + 1, by omega, by rw [Int.natCast_add, ← Int.add_assoc]; rfl, by go_num, HY2, HS, HX⟩
                  case measure => simp [intOf]; omega
                | false =>
                  rw [hw] at HCN
                  have HY2 : Hid (y = (gl.take (p + 1)).countP (· == 0)) := Lib.hid (by rw [HCN.out, ← HY.out]; rfl)
                  clear HCN HY
                  go_wp2_with fail
                  go_roundw
                  case rel => exact ⟨p + 1, y, by omega, rfl, by go_num, HY2, HS, HX⟩
                  case measure => simp [intOf]; omega
              · obtain rfl : gl.length = p := by omega
                have hpl' : ¬ (gl.length : Int) < gl.length := by omega
                have hyz : y = z := by rw [HY.out, List.take_length, HZ.out]
                subst hyz
                clear HY HZ
                go_wp2_with fail
                go_roundw
                case rel => exact ⟨k + 1, m + y, ub2, by omega, rfl, rfl, by go_num, Lib.hid (by have := HM.out; have := HT2.out; omega), HC2, HS⟩
                case measure => simp [intOf]; omega
          · rw [HST2.out hg1] at HC
            have HN : Hid (res = none) := Lib.hid HC.out
            rw [hg2]
            clear hg1 hg2 HC HST HST2 HGB HPK
            go_wp2_with fail
            exact bodyPost_ret (v := .tuple #[.int .i64 0, .bool false]) (by simp [results, Try.results29, go_sem]) rfl ⟨by rw [HN.out]; rfl, HS.out.hb⟩
    · obtain rfl : q.length = k := by omega
      have hlt' : ¬ (q.length : Int) < q.length := by omega
      have HN : Hid (res = some m) := Lib.hid (by rw [HC.out, List.drop_length]; simp [cntB])
      clear HC
      go_wp2_with fail
      exact bodyPost_ret (v := .tuple #[.int .i64 m, .bool true]) (by simp [results, Try.results29, go_sem]) rfl ⟨by rw [HN.out]; rfl, HS.out.hb⟩
end Go.Proofs.Ytbfamblbnfkpgaa
