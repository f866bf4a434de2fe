/- The law's function truth: what sacks truly are, and what was truly taken. -/
import Derived.Test.YtoiggflhfbfiiaaT2
namespace Go.Proofs.Ytoiggflhfbfiiaa
open Go.RowKit Go.Shelf

def ysAt (ys : List Int) (i : Nat) : Int := ys.getD (i % ys.length) 0
def trueAt (l : List Sack) (ys : List Int) (i : Nat) : Cor :=
  ⟨pickV (sackAt l i).w.lo (sackAt l i).w.hi (ysAt ys (3 * i)), pickV (sackAt l i).c.lo (sackAt l i).c.hi (ysAt ys (3 * i + 1)), pickV (sackAt l i).l.lo (sackAt l i).l.hi (ysAt ys (3 * i + 2))⟩
def trueS (l : List Sack) (ys : List Int) (k : Nat) : List Cor := (List.range k).map (trueAt l ys)
def tookAt (b : List Take) (ys : List Int) (i : Nat) : Int := pickV (b.getD i ⟨0, ⟨0, 0⟩⟩).m.lo (b.getD i ⟨0, ⟨0, 0⟩⟩).m.hi (ysAt ys (5 * i + 2))
def trueW (b : List Take) (ys : List Int) (k : Nat) : List Int := (List.range k).map (tookAt b ys)
theorem trueS_len (l : List Sack) (ys : List Int) (k : Nat) : (trueS l ys k).length = k := by simp [trueS]
theorem trueW_len (b : List Take) (ys : List Int) (k : Nat) : (trueW b ys k).length = k := by simp [trueW]
theorem trueS_next (l : List Sack) (ys : List Int) (k : Nat) : corVs (trueS l ys (k + 1)) = corVs (trueS l ys k) ++ corV (trueAt l ys k) := by simp [trueS, corVs, List.range_succ]
theorem trueW_next (b : List Take) (ys : List Int) (k : Nat) : (trueW b ys (k + 1)).map (Value.int .i64) = (trueW b ys k).map (Value.int .i64) ++ [.int .i64 (tookAt b ys k)] := by simp [trueW, List.range_succ]
theorem ysAt_bd {ys : List Int} (h : ∀ y ∈ ys, 0 ≤ y ∧ y ≤ 4294967295) (i : Nat) : 0 ≤ ysAt ys i ∧ ysAt ys i ≤ 4294967295 := by
  unfold ysAt
  rw [List.getD_eq_getElem?_getD]
  cases e : ys[i % ys.length]? with
  | none => simp
  | some y => exact h y (List.mem_of_getElem? e)
theorem corInfo : (Try.prog.info? 96).map (fun i => (i.zero, i.size, i.bytes)) = some (some (.agg #[.int .i64 0, .int .i64 0, .int .i64 0]), 3, 24) := by kernel_rfl
theorem intInfo : (Try.prog.info? 3).map (fun i => (i.zero, i.size, i.bytes)) = some (some (.int .i64 0), 1, 8) := by kernel_rfl
theorem corsSl : Try.prog.underlying 41 = some (.slice 96) := by kernel_rfl
theorem intsSl : Try.prog.underlying 42 = some (.slice 3) := by kernel_rfl

/-- The cell of a number in the list of remainders. -/
theorem ys_cell {w : World} {b off : Nat} {ys : List Int} (hs : ∀ i (h : i < ys.length), w.cell? ⟨b, off + i, none⟩ = some (.int .u32 ys[i])) (hne : 0 < ys.length) (i : Nat) : w.cell? ⟨b, off + i % ys.length, none⟩ = some (.int .u32 (ysAt ys i)) := by
  have hlt := Nat.mod_lt i hne
  rw [hs _ hlt]
  simp [ysAt, hlt]
theorem wrap_in {x : Int} (h : -9223372036854775808 ≤ x) (h' : x ≤ 9223372036854775807) : IntKind.i64.wrap x = x := wr h h'
theorem rem_nat (a n : Nat) : (a : Int).tmod (n : Int) = ((a % n : Nat) : Int) := by
  rw [Int.tmod_eq_emod_of_nonneg (by omega)]
  rfl

def TrS (w : World) (bA oA k : Nat) (s : Sack) (bY oY j0 j1 j2 : Nat) (z0 z1 z2 : Int) (W : World) : Prop := Below w.heap.size w W ∧ W.cell? ⟨bA, oA + k * 6, none⟩ = some (.int .i64 s.w.lo) ∧ W.cell? ⟨bA, oA + k * 6 + 1, none⟩ = some (.int .i64 s.w.hi) ∧ W.cell? ⟨bA, oA + k * 6 + 2, none⟩ = some (.int .i64 s.c.lo) ∧ W.cell? ⟨bA, oA + k * 6 + 3, none⟩ = some (.int .i64 s.c.hi) ∧ W.cell? ⟨bA, oA + k * 6 + 4, none⟩ = some (.int .i64 s.l.lo) ∧ W.cell? ⟨bA, oA + k * 6 + 5, none⟩ = some (.int .i64 s.l.hi)   ∧ W.cell? ⟨bY, oY + j0, none⟩ = some (.int .u32 z0) ∧ W.cell? ⟨bY, oY + j1, none⟩ = some (.int .u32 z1) ∧ W.cell? ⟨bY, oY + j2, none⟩ = some (.int .u32 z2)
theorem TrS.to {w : World} {bA oA k : Nat} {s : Sack} {bY oY j0 j1 j2 : Nat} {z0 z1 z2 : Int} {W W' : World} (h : TrS w bA oA k s bY oY j0 j1 j2 z0 z1 z2 W) (hA : bA < w.heap.size) (hY : bY < w.heap.size) (hb : Below w.heap.size W W') : TrS w bA oA k s bY oY j0 j1 j2 z0 z1 z2 W' := by
  obtain ⟨h0, c0, c1, c2, c3, c4, c5, y0, y1, y2⟩ := h
  exact ⟨h0.trans hb, (hb.cell (p := ⟨bA, _, none⟩) hA).trans c0, (hb.cell (p := ⟨bA, _, none⟩) hA).trans c1, (hb.cell (p := ⟨bA, _, none⟩) hA).trans c2, (hb.cell (p := ⟨bA, _, none⟩) hA).trans c3, (hb.cell (p := ⟨bA, _, none⟩) hA).trans c4, (hb.cell (p := ⟨bA, _, none⟩) hA).trans c5,
    (hb.cell (p := ⟨bY, _, none⟩) hY).trans y0, (hb.cell (p := ⟨bY, _, none⟩) hY).trans y1, (hb.cell (p := ⟨bY, _, none⟩) hY).trans y2⟩
/-- An append to a slice that the call made, in a world that has grown. -/
theorem below_append {w W V V' : World} {e : TypeId} {size : Nat} {v : Value} {k : Nat} {xs : List Value} (hB : w.heap.size ≤ W.heap.size) (ho : W.ownsRow w.heap.size e size v k xs) (hb : Below W.heap.size W V) (hg : V.grownBy V' v.ownBlock) : Below w.heap.size W V' :=
  (hb.mono hB).grown hg (Nat.le_trans hB hb.size) (own_ge ho)

theorem own_lt {w : World} {B : Nat} {e : TypeId} {size : Nat} {v : Value} {k : Nat} {xs : List Value} (hr : w.ownsRow B e size v k xs) (g : Nat) (hg : v.ownBlock = some g) : g < w.heap.size := by
  rcases hr.2 with ⟨rfl, _⟩ | ⟨g', cap, cur, rfl, h1, h2, h3⟩
  · simp [Value.ownBlock] at hg
  · have : g' = g := by simpa [Value.ownBlock] using hg
    subst this
    exact (Array.getElem?_eq_some_iff.1 h2).1
/-- A row of ours is as it was where another one was appended to. -/
theorem own_other {W V V' : World} {B : Nat} {e : TypeId} {size : Nat} {v : Value} {k : Nat} {xs : List Value} {row : Option Nat} (hr : W.ownsRow B e size v k xs) (hb : Below W.heap.size W V) (hg : V.grownBy V' row) (hne : ∀ g, v.ownBlock = some g → row ≠ some g) : V'.ownsRow B e size v k xs := by
  have h1 := own_call hr hb
  refine h1.kept hg ?_
  rcases h1.2 with ⟨rfl, _⟩ | ⟨g, cap, cur, rfl, _⟩
  · exact .inl rfl
  · exact .inr fun e => hne g rfl e.symm
def TsS (w : World) (bT oT k : Nat) (s : Span) (bY oY j0 : Nat) (z0 : Int) (W : World) : Prop := Below w.heap.size w W ∧ W.cell? ⟨bT, oT + k * 3 + 1, none⟩ = some (.int .i64 s.lo) ∧ W.cell? ⟨bT, oT + k * 3 + 2, none⟩ = some (.int .i64 s.hi) ∧ W.cell? ⟨bY, oY + j0, none⟩ = some (.int .u32 z0)
theorem TsS.to {w : World} {bT oT k : Nat} {s : Span} {bY oY j0 : Nat} {z0 : Int} {W W' : World} (h : TsS w bT oT k s bY oY j0 z0 W) (hA : bT < w.heap.size) (hY : bY < w.heap.size) (hb : Below w.heap.size W W') : TsS w bT oT k s bY oY j0 z0 W' :=
  ⟨h.1.trans hb, (hb.cell (p := ⟨bT, _, none⟩) hA).trans h.2.1, (hb.cell (p := ⟨bT, _, none⟩) hA).trans h.2.2.1, (hb.cell (p := ⟨bY, _, none⟩) hY).trans h.2.2.2⟩

def RetTruth (w : World) (l : List Sack) (b : List Take) (ys : List Int) (e : Ending) (w' : World) : Prop := ∃ S T ca cb, e = .returned (.tuple #[.slice S l.length ca, .slice T b.length cb]) ∧ CorSl w' w'.heap.size S (trueS l ys l.length) ∧ IntSl w' w'.heap.size T (trueW b ys b.length) ∧ Below w.heap.size w w'

set_option maxRecDepth 100000 in
set_option maxHeartbeats 4000000 in
theorem truth_any (w : World) (A T Y : Option Addr) (ca ct cy : Nat) (l : List Sack) (b : List Take) (ys : List Int) (hl : l.length ≤ 12) (hb : b.length ≤ 12) (hA : SackSl w w.heap.size A l) (hT : TakeSl w w.heap.size T b) (hY : U32Sl w w.heap.size Y ys)
    (hn : 0 < ys.length) (hn2 : ys.length ≤ 9223372036854775807) (hyb : ∀ y ∈ ys, 0 ≤ y ∧ y ≤ 4294967295) (hl2 : ∀ s ∈ l, sackOk s = true) (hb2 : ∀ t ∈ b, withinB t.m 1 100000 = true) :
    Calls Try.prog 21 #[.slice A l.length ca, .slice T b.length ct, .slice Y ys.length cy] w (RetTruth w l b ys) := by
  have HA := Lib.hid hA
  have HT := Lib.hid hT
  obtain ⟨bY, oY, rfl, hbY, hYc⟩ := hY (by intro e; subst e; simp at hn)
  have HY := Lib.hid (ys_cell hYc hn)
  have HB := Lib.hid (ysAt_bd hyb)
  have HL2 := Lib.hid hl2
  have HB2 := Lib.hid hb2
  clear hA hT hY hYc hyb hl2 hb2
  go_enter Try.func21, Try.ntmps21
  go_wp2
  go_loopw [8, 10] (fun v i wr => ∃ k : Nat, k ≤ l.length ∧ i = .int .i64 k ∧ CorsAt wr w.heap.size v (trueS l ys k) ∧ Below w.heap.size w wr) (fun _ i _ => l.length - (intOf i).toNat)
  case atStart => exact ⟨0, by omega, rfl, World.ownsRow_nil _ _ _ _, Below.refl _ _⟩
  case round =>
    obtain ⟨k, hk, rfl, hown, hB⟩ := hrel
    have HOWN := Lib.hid hown
    clear hown
    by_cases hlt : k < l.length
    · obtain ⟨bA, oA, rfl, hbA, hs⟩ := HA.out (by intro e; subst e; simp at hlt)
      obtain ⟨c0, c1, c2, c3, c4, c5⟩ := hs k hlt
      have y0 := HY.out (3 * k)
      have y1 := HY.out (3 * k + 1)
      have y2 := HY.out (3 * k + 2)
      clear hs
      rw [← hB.cell (p := ⟨bA, _, none⟩) hbA] at c0 c1 c2 c3 c4 c5
      rw [← hB.cell (p := ⟨bY, _, none⟩) hbY] at y0 y1 y2
      have d0 := HB.out (3 * k)
      have d1 := HB.out (3 * k + 1)
      have d2 := HB.out (3 * k + 2)
      have hsz := hB.size
      have r0 : (3 * (k : Int)).tmod (ys.length : Int) = ((3 * k % ys.length : Nat) : Int) := rem_nat (3 * k) ys.length
      have r1 : (3 * (k : Int) + 1).tmod (ys.length : Int) = (((3 * k + 1) % ys.length : Nat) : Int) := rem_nat (3 * k + 1) ys.length
      have r2 : (3 * (k : Int) + 2).tmod (ys.length : Int) = (((3 * k + 2) % ys.length : Nat) : Int) := rem_nat (3 * k + 2) ys.length
      have hnz : ys.length ≠ 0 := by omega
      have hw0 : IntKind.i64.wrap (3 * (k : Int)) = 3 * (k : Int) := wrap_in (by omega) (by omega)
      have hw1 : IntKind.i64.wrap (3 * (k : Int) + 1) = 3 * (k : Int) + 1 := wrap_in (by omega) (by omega)
      have hw2 : IntKind.i64.wrap (3 * (k : Int) + 2) = 3 * (k : Int) + 2 := wrap_in (by omega) (by omega)
      have q0 := Nat.mod_lt (3 * k) hn
      have q1 := Nat.mod_lt (3 * k + 1) hn
      have q2 := Nat.mod_lt (3 * k + 2) hn
      generalize hz0' : ysAt ys (3 * k) = z0 at y0 d0
      have HZ0 := Lib.hid hz0'
      clear hz0'
      generalize hz1' : ysAt ys (3 * k + 1) = z1 at y1 d1
      have HZ1 := Lib.hid hz1'
      clear hz1'
      generalize hz2' : ysAt ys (3 * k + 2) = z2 at y2 d2
      have HZ2 := Lib.hid hz2'
      clear hz2'
      generalize 3 * k % ys.length = j0 at r0 q0 y0
      generalize (3 * k + 1) % ys.length = j1 at r1 q1 y1
      generalize (3 * k + 2) % ys.length = j2 at r2 q2 y2
      have v0 : (0 : Int) ≤ (j0 : Int) := by omega
      have v1 : (0 : Int) ≤ (j1 : Int) := by omega
      have v2 : (0 : Int) ≤ (j2 : Int) := by omega
      have u0 : (j0 : Int) < (ys.length : Int) := by omega
      have u1 : (j1 : Int) < (ys.length : Int) := by omega
      have u2 : (j2 : Int) < (ys.length : Int) := by omega
      go_wp2_with fail
      have hsk := HL2.out _ (List.getElem_mem hlt)
      have HTA : Hid (trueAt l ys k = ⟨pickV l[k].w.lo l[k].w.hi z0, pickV l[k].c.lo l[k].c.hi z1, pickV l[k].l.lo l[k].l.hi z2⟩) := by
        show _ = _
        simp only [trueAt, sackAt_nat hlt, HZ0.out, HZ1.out, HZ2.out]
      generalize l[k] = s at c0 c1 c2 c3 c4 c5 hsk HTA
      simp only [sackOk, Bool.and_eq_true, withinB_iff] at hsk
      have HP0 : Hid (∀ W, Calls Try.prog 58 #[.agg #[.int .i64 s.w.lo, .int .i64 s.w.hi], .int .u32 z0] W (Ret (.int .i64 (pickV s.w.lo s.w.hi z0)) W)) := fun W => pick_any _ _ _ W (by omega) (by omega) (by omega) (by omega) (by omega)
      have HP1 : Hid (∀ W, Calls Try.prog 58 #[.agg #[.int .i64 s.c.lo, .int .i64 s.c.hi], .int .u32 z1] W (Ret (.int .i64 (pickV s.c.lo s.c.hi z1)) W)) := fun W => pick_any _ _ _ W (by omega) (by omega) (by omega) (by omega) (by omega)
      have HP2 : Hid (∀ W, Calls Try.prog 58 #[.agg #[.int .i64 s.l.lo, .int .i64 s.l.hi], .int .u32 z2] W (Ret (.int .i64 (pickV s.l.lo s.l.hi z2)) W)) := fun W => pick_any _ _ _ W (by omega) (by omega) (by omega) (by omega) (by omega)
      have HOWK : Hid (wr.ownsRow w.heap.size 96 3 u8 k (corVs (trueS l ys k))) := by
        have := HOWN.out
        unfold CorsAt at this
        rw [trueS_len] at this
        exact this
      have HS : TrS w bA oA k s bY oY j0 j1 j2 z0 z1 z2 wr := ⟨hB, c0, c1, c2, c3, c4, c5, y0, y1, y2⟩
      have HS0 := Lib.hid HS
      have hbo : Below wr.heap.size wr wr.drew := (Below.refl _ _).drew
      obtain ⟨i0, hi, hz0, hz1, hz2⟩ := info_parts corInfo
      clear HS hsk d0 d1 d2 q0 q1 q2 c0 c1 c2 c3 c4 c5 y0 y1 y2
      generalize pickV s.w.lo s.w.hi z0 = p0 at HP0 HTA
      generalize pickV s.c.lo s.c.hi z1 = p1 at HP1 HTA
      generalize pickV s.l.lo s.l.hi z2 = p2 at HP2 HTA
      generalize hxs : corVs (trueS l ys k) = xs at HOWK
      have HXS := Lib.hid hxs
      clear hxs
      go_region_held3 (fun W => Below w.heap.size w W ∧ W.cell? ⟨bA, oA + k * 6, none⟩ = some (.int .i64 s.w.lo) ∧ W.cell? ⟨bA, oA + k * 6 + 1, none⟩ = some (.int .i64 s.w.hi) ∧ W.cell? ⟨bA, oA + k * 6 + 2, none⟩ = some (.int .i64 s.c.lo) ∧ W.cell? ⟨bA, oA + k * 6 + 3, none⟩ = some (.int .i64 s.c.hi) ∧ W.cell? ⟨bA, oA + k * 6 + 4, none⟩ = some (.int .i64 s.l.lo) ∧ W.cell? ⟨bA, oA + k * 6 + 5, none⟩ = some (.int .i64 s.l.hi)   ∧ W.cell? ⟨bY, oY + j0, none⟩ = some (.int .u32 z0) ∧ W.cell? ⟨bY, oY + j1, none⟩ = some (.int .u32 z1) ∧ W.cell? ⟨bY, oY + j2, none⟩ = some (.int .u32 z2))
        (first | exact HS0.out.to hbA hbY (hbo.mono hsz) | exact HS0.out.to hbA hbY ((hbo.alloc hbo.size _).mono hsz) | exact HS0.out.to hbA hbY (below_append hsz HOWK.out (hbo.alloc hbo.size _) hgrow) | fail "no keep")
        (first
          | (go_at_call 58; (with_reducible refine (HP0.out _).mono ?_); rintro e e' ⟨rfl, hb'⟩; replace hbo := hbo.trans (hb'.mono hbo.size); clear hb')
          | (go_at_call 58; (with_reducible refine (HP1.out _).mono ?_); rintro e e' ⟨rfl, hb'⟩; replace hbo := hbo.trans (hb'.mono hbo.size); clear hb')
          | (go_at_call 58; (with_reducible refine (HP2.out _).mono ?_); rintro e e' ⟨rfl, hb'⟩; replace hbo := hbo.trans (hb'.mono hbo.size); clear hb')
          | (refine step_append_lies _ (by rfl) _ _ _ (by rfl) w.heap.size 96 i0 _ 3 24 corsSl hi hz0 hz1 hz2 rfl (by omega) u8 k xs (by rfl) (own_call HOWK.out (hbo.alloc hbo.size _)) ⟨e'.heap.size, 0, none⟩ 1 1 [.int .i64 p0, .int .i64 p1, .int .i64 p2] (by rfl) (by rfl) (World.news_of_block (cs := #[.int .i64 p0, .int .i64 p1, .int .i64 p2]) (t := 96) (fr := (0, 0)) (World.alloc_heap_new e' _)) (by simp [Value.oneCell']) (by omega) (by unfold maxLen; omega) (by omega) (by have := hbo.size; simp only [World.size_alloc]; omega) (e'.heap.size + 1) (by simp) ?_; intro g cap w1 hown1 hgrow hat hlt1)
          | fail "no arm")
      all_goals go_wp2_with fail
      all_goals
        have hown2 : CorsAt w1 w.heap.size (.slice (some ⟨g, 0, none⟩) (k + 1) cap) (trueS l ys (k + 1)) := by
          unfold CorsAt
          rw [trueS_len, trueS_next, HTA.out, HXS.out]
          exact hown1
        have hB1 := hB.trans (below_append hsz HOWK.out (hbo.alloc hbo.size _) hgrow)
        have HO2 := Lib.hid hown2
        clear hown2 hown1 hgrow hat r0 r1 r2 hw0 hw1 hw2
        go_roundw
        case rel => exact ⟨k + 1, by omega, by go_num, HO2.out, hB1⟩
        case measure => simp [intOf]; omega
    · obtain rfl : k = l.length := by omega
      clear hlt hk
      go_wp2_with fail
      go_loopw [9, 11] (fun v i wr => ∃ k : Nat, k ≤ b.length ∧ i = .int .i64 k ∧ IntsAt wr w.heap.size v (trueW b ys k) ∧ CorsAt wr w.heap.size u8 (trueS l ys l.length) ∧ (∀ g, v.ownBlock = some g → some g ≠ u8.ownBlock) ∧ Below w.heap.size w wr) (fun _ i _ => b.length - (intOf i).toNat)
      case atStart => exact ⟨0, by omega, rfl, World.ownsRow_nil _ _ _ _, HOWN.out, (fun g hg => by simp [Value.ownBlock] at hg), hB⟩
      case round =>
        clear hB HOWN
        obtain ⟨k, hk, rfl, hown, hownS, hne, hB⟩ := hrel
        have HOWN := Lib.hid hown
        have HOWS := Lib.hid hownS
        have HNE := Lib.hid hne
        clear hown hownS hne
        by_cases hlt : k < b.length
        · obtain ⟨bT, oT, rfl, hbT, hs⟩ := HT.out (by intro e; subst e; simp at hlt)
          obtain ⟨-, c1, c2⟩ := hs k hlt
          have y0 := HY.out (5 * k + 2)
          clear hs
          rw [← hB.cell (p := ⟨bT, _, none⟩) hbT] at c1 c2
          rw [← hB.cell (p := ⟨bY, _, none⟩) hbY] at y0
          have d0 := HB.out (5 * k + 2)
          have hsz := hB.size
          have r0 : (5 * (k : Int) + 2).tmod (ys.length : Int) = (((5 * k + 2) % ys.length : Nat) : Int) := rem_nat (5 * k + 2) ys.length
          have hnz : ys.length ≠ 0 := by omega
          have hw0 : IntKind.i64.wrap (5 * (k : Int)) = 5 * (k : Int) := wrap_in (by omega) (by omega)
          have hw2 : IntKind.i64.wrap (5 * (k : Int) + 2) = 5 * (k : Int) + 2 := wrap_in (by omega) (by omega)
          have q0 := Nat.mod_lt (5 * k + 2) hn
          generalize hz0' : ysAt ys (5 * k + 2) = z0 at y0 d0
          have HZ0 := Lib.hid hz0'
          clear hz0'
          generalize (5 * k + 2) % ys.length = j0 at r0 q0 y0
          have v0 : (0 : Int) ≤ (j0 : Int) := by omega
          have u0 : (j0 : Int) < (ys.length : Int) := by omega
          have hsk := HB2.out _ (List.getElem_mem hlt)
          have HTA : Hid (tookAt b ys k = pickV b[k].m.lo b[k].m.hi z0) := by
            show _ = _
            simp [tookAt, hlt, HZ0.out]
          generalize b[k].m = s at c1 c2 hsk HTA
          simp only [withinB_iff] at hsk
          have HP0 : Hid (∀ W, Calls Try.prog 58 #[.agg #[.int .i64 s.lo, .int .i64 s.hi], .int .u32 z0] W (Ret (.int .i64 (pickV s.lo s.hi z0)) W)) := fun W => pick_any _ _ _ W (by omega) (by omega) (by omega) (by omega) (by omega)
          have HOWK : Hid (wr.ownsRow w.heap.size 3 1 u9 k ((trueW b ys k).map (Value.int .i64))) := by
            have := HOWN.out
            unfold IntsAt at this
            rw [trueW_len] at this
            exact this
          have HS : TsS w bT oT k s bY oY j0 z0 wr := ⟨hB, c1, c2, y0⟩
          have HS0 := Lib.hid HS
          have hbo : Below wr.heap.size wr wr.drew := (Below.refl _ _).drew
          obtain ⟨i0, hi, hz0, hz1, hz2⟩ := info_parts intInfo
          clear HS hsk d0 q0 c1 c2 y0
          generalize pickV s.lo s.hi z0 = p0 at HP0 HTA
          generalize hxs : (trueW b ys k).map (Value.int .i64) = xs at HOWK
          have HXS := Lib.hid hxs
          clear hxs
          go_wp2_with fail
          go_region_held3 (fun W => Below w.heap.size w W ∧ W.cell? ⟨bT, oT + k * 3 + 1, none⟩ = some (.int .i64 s.lo) ∧ W.cell? ⟨bT, oT + k * 3 + 2, none⟩ = some (.int .i64 s.hi) ∧ W.cell? ⟨bY, oY + j0, none⟩ = some (.int .u32 z0))
            (first | exact HS0.out.to hbT hbY (hbo.mono hsz) | exact HS0.out.to hbT hbY ((hbo.alloc hbo.size _).mono hsz) | exact HS0.out.to hbT hbY (below_append hsz HOWK.out (hbo.alloc hbo.size _) hgrow) | fail "no keep")
            (first
              | (go_at_call 58; (with_reducible refine (HP0.out _).mono ?_); rintro e e' ⟨rfl, hb'⟩; replace hbo := hbo.trans (hb'.mono hbo.size); clear hb')
              | (refine step_append_lies _ (by rfl) _ _ _ (by rfl) w.heap.size 3 i0 _ 1 8 intsSl hi hz0 hz1 hz2 rfl (by omega) u9 k xs (by rfl) (own_call HOWK.out (hbo.alloc hbo.size _)) ⟨e'.heap.size, 0, none⟩ 1 1 [.int .i64 p0] (by rfl) (by rfl) (World.news_of_block (cs := #[.int .i64 p0]) (t := 3) (fr := (0, 0)) (World.alloc_heap_new e' _)) (by simp [Value.oneCell']) (by omega) (by unfold maxLen; omega) (by omega) (by have := hbo.size; simp only [World.size_alloc]; omega) (e'.heap.size + 1) (by simp) ?_; intro g cap w1 hown1 hgrow hat hlt1)
              | fail "no arm")
          all_goals go_wp2_with fail
          all_goals
            have hown2 : IntsAt w1 w.heap.size (.slice (some ⟨g, 0, none⟩) (k + 1) cap) (trueW b ys (k + 1)) := by
              unfold IntsAt
              rw [trueW_len, trueW_next, HTA.out, HXS.out]
              exact hown1
            have hB1 := hB.trans (below_append hsz HOWK.out (hbo.alloc hbo.size _) hgrow)
            have hownS : CorsAt w1 w.heap.size u8 (trueS l ys l.length) := own_other HOWS.out (hbo.alloc hbo.size _) hgrow fun g' hg' e => (HNE.out g' e).elim hg'.symm
            have hne1 : ∀ g', (Value.slice (some ⟨g, 0, none⟩) (k + 1) cap).ownBlock = some g' → some g' ≠ u8.ownBlock := by
              intro g' hg'
              have hg' : g = g' := by simpa [Value.ownBlock] using hg'
              subst hg'
              rcases hat with h | h
              · exact HNE.out _ h
              · intro e
                have := own_lt HOWS.out _ e.symm
                have := hbo.size
                omega
            have HO2 := Lib.hid hown2
            have HO3 := Lib.hid hownS
            have HN1 := Lib.hid hne1
            clear hown2 hown1 hownS hne1 hgrow hat r0 hw0 hw2
            go_roundw
            case rel => exact ⟨k + 1, by omega, by go_num, HO2.out, HO3.out, HN1.out, hB1⟩
            case measure => simp [intOf]; omega
        · obtain rfl : k = b.length := by omega
          obtain ⟨S, c1, rfl, h1⟩ := CorSl.of_own HOWS.out
          obtain ⟨T', c2, rfl, h2⟩ := IntSl.of_own HOWN.out
          have h1' := h1
          rw [trueS_len]
          rw [trueW_len]
          go_wp2_with fail
          go_ret2
          exact ⟨_, _, _, _, rfl, h1, h2, hB⟩
end Go.Proofs.Ytoiggflhfbfiiaa
