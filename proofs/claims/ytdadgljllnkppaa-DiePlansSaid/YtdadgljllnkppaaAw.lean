/- The results that the document fixes: sample and awake. -/
import Derived.Test.YtdadgljllnkppaaIn
import Derived.Test.YtdadgljllnkppaaPn
namespace Go.Proofs.Ytdadgljllnkppaa
open Go.RowKit Go.Shelf

def smP : Press := ⟨[⟨2000, ⟨1, 2⟩⟩, ⟨2200, ⟨2, 3⟩⟩], ⟨90, 100⟩, 5⟩
def smL (x : Int) : List Draw := [⟨40, ⟨1800, 1900⟩⟩, ⟨20, ⟨1980, 2070⟩⟩, ⟨30, ⟨x, 2000⟩⟩]
def smT (x : Int) : Array Value := #[.int .i64 40, .int .i64 1800, .int .i64 1900, .int .i64 20, .int .i64 1980, .int .i64 2070, .int .i64 30, .int .i64 x, .int .i64 2000]
def RetSample (w : World) (e : Ending) (w' : World) : Prop := ∃ b1 b2, e = .returned (.tuple #[.agg #[.slice (some ⟨b1, 0, none⟩) 2 2, .int .i64 90, .int .i64 100, .int .i64 5], .slice (some ⟨b2, 0, none⟩) 3 3]) ∧ Blk w' b1 49 #[.int .i64 2000, .int .i64 1, .int .i64 2, .int .i64 2200, .int .i64 2, .int .i64 3] ∧ Blk w' b2 51 (smT 1830) ∧ b1 ≠ b2 ∧ (w.heap.size ≤ b1 ∧ w.heap.size ≤ b2) ∧ Below w.heap.size w w'
theorem sm_dies {W : World} {b1 : Nat} (h : Blk W b1 49 #[.int .i64 2000, .int .i64 1, .int .i64 2, .int .i64 2200, .int .i64 2, .int .i64 3]) : DieSl W W.heap.size (some ⟨b1, 0, none⟩) smP.dies := fun _ => ⟨b1, 0, rfl, h.lt, fun i hi => by
  have : i = 0 ∨ i = 1 := by simp [smP] at hi; omega
  rcases this with rfl | rfl
  · exact ⟨h.cell 0, h.cell 1, h.cell 2⟩
  · exact ⟨h.cell 3, h.cell 4, h.cell 5⟩⟩
theorem sm_draws {W : World} {b2 : Nat} {x : Int} (h : Blk W b2 51 (smT x)) : DrawSl W W.heap.size (some ⟨b2, 0, none⟩) (smL x) := fun _ => ⟨b2, 0, rfl, h.lt, fun i hi => by
  have : i = 0 ∨ i = 1 ∨ i = 2 := by simp [smL] at hi; omega
  rcases this with rfl | rfl | rfl
  · exact ⟨h.cell 0, h.cell 1, h.cell 2⟩
  · exact ⟨h.cell 3, h.cell 4, h.cell 5⟩
  · exact ⟨h.cell 6, h.cell 7, h.cell 8⟩⟩
set_option maxRecDepth 100000 in
set_option maxHeartbeats 2000000 in
theorem sample_any (w : World) : Calls Try.prog 59 #[] w (RetSample w) := by
  go_enter Try.func59, Try.ntmps59
  go_wp2_with fail
  have R0 := Blk.new w 26 #[.slice none 0 0, .int .i64 0, .int .i64 0, .int .i64 0]
  have B0 : Below w.heap.size w (w.alloc (.cells #[.slice none 0 0, .int .i64 0, .int .i64 0, .int .i64 0] 26)) := (Below.refl _ _).alloc (Nat.le_refl _) _
  generalize World.alloc w _ = u0 at R0 B0 ⊢
  refine (span_any _ _ _).mono ?_
  rintro e u1 ⟨rfl, b1⟩
  have B1 : Below w.heap.size w u1 := B0.trans (b1.mono B0.size)
  have R1 := Lib.hid (R0.below b1 R0.lt)
  clear b1 B0 R0
  go_wp2_with fail
  refine (span_any _ _ _).mono ?_
  rintro e u2 ⟨rfl, b2⟩
  have B2 : Below w.heap.size w u2 := B1.trans (b2.mono B1.size)
  have R2 := Lib.hid (R1.out.below b2 R1.out.lt)
  clear b2 B1 R1
  go_wp2_with fail
  have S2 := Lib.hid (Blk.new u2 49 #[.int .i64 2000, .int .i64 1, .int .i64 2, .int .i64 2200, .int .i64 2, .int .i64 3])
  have B3 := B2.alloc B2.size (.cells #[.int .i64 2000, .int .i64 1, .int .i64 2, .int .i64 2200, .int .i64 2, .int .i64 3] 49)
  have R3 := Lib.hid (R2.out.alloc (.cells #[.int .i64 2000, .int .i64 1, .int .i64 2, .int .i64 2200, .int .i64 2, .int .i64 3] 49))
  have hs2 : w.heap.size < u2.heap.size := by have := R2.out.lt; omega
  have hz3 : (u2.alloc (.cells #[.int .i64 2000, .int .i64 1, .int .i64 2, .int .i64 2200, .int .i64 2, .int .i64 3] 49)).heap.size = u2.heap.size + 1 := World.size_alloc _ _
  generalize World.alloc u2 _ = u3 at S2 B3 R3 hz3 ⊢
  generalize u2.heap.size = d1 at S2 hs2 hz3 ⊢
  refine (span_any _ _ _).mono ?_
  rintro e u4 ⟨rfl, b4⟩
  have S4 := Lib.hid (S2.out.below b4 S2.out.lt)
  have R4 := Lib.hid (R3.out.below b4 R3.out.lt)
  have B4 : Below w.heap.size w u4 := B3.trans (b4.mono B3.size)
  clear b4 B3 S2 R3
  go_wp2_with fail
  refine (span_any _ _ _).mono ?_
  rintro e u5 ⟨rfl, b5⟩
  have S5 := Lib.hid (S4.out.below b5 S4.out.lt)
  have R5 := Lib.hid (R4.out.below b5 R4.out.lt)
  have B5 : Below w.heap.size w u5 := B4.trans (b5.mono B4.size)
  clear b5 B4 S4 R4
  go_wp2_with fail
  refine (span_any _ _ _).mono ?_
  rintro e u6 ⟨rfl, b6⟩
  have S6 := Lib.hid (S5.out.below b6 S5.out.lt)
  have R6 := Lib.hid (R5.out.below b6 R5.out.lt)
  have B6 : Below w.heap.size w u6 := B5.trans (b6.mono B5.size)
  clear b6 B5 S5 R5
  go_wp2_with fail
  refine (span_any _ _ _).mono ?_
  rintro e u7 ⟨rfl, b7⟩
  have S7 := Lib.hid (S6.out.below b7 S6.out.lt)
  have R7 := Lib.hid (R6.out.below b7 R6.out.lt)
  have B7 : Below w.heap.size w u7 := B6.trans (b7.mono B6.size)
  clear b7 B6 S6 R6
  have r0 := (R7.out.alloc (.cells (smT 1830) 51)).cell 0
  have r1 := (R7.out.alloc (.cells (smT 1830) 51)).cell 1
  have r2 := (R7.out.alloc (.cells (smT 1830) 51)).cell 2
  have r3 := (R7.out.alloc (.cells (smT 1830) 51)).cell 3
  have g0 := (R7.out.alloc (.cells (smT 1830) 51)).frozen 0
  have g1 := (R7.out.alloc (.cells (smT 1830) 51)).frozen 1
  have g2 := (R7.out.alloc (.cells (smT 1830) 51)).frozen 2
  have g3 := (R7.out.alloc (.cells (smT 1830) 51)).frozen 3
  unfold smT at r0 r1 r2 r3 g0 g1 g2 g3
  go_wp2_with fail
  have hlt := S7.out.lt
  have hrl := R7.out.lt
  have n1 : d1 ≠ w.heap.size := by omega
  have n2 : u7.heap.size ≠ w.heap.size := by omega
  refine bodyPost_ret (results_blk_tmp rfl _ rfl (((((R7.out.alloc _).set_ 0 _).set_ 1 _).set_ 2 _).set_ 3 _) (by kernel_rfl) (by kernel_rfl)) rfl ⟨d1, u7.heap.size, rfl, ?_, ?_, by omega, ⟨by omega, by omega⟩, ?_⟩
  · exact ((((S7.out.alloc _).far (p := ⟨_, _, none⟩) n1 _).far (p := ⟨_, _, none⟩) n1 _).far (p := ⟨_, _, none⟩) n1 _).far (p := ⟨_, _, none⟩) n1 _
  · exact ((((Blk.new u7 _ _).far (p := ⟨_, _, none⟩) n2 _).far (p := ⟨_, _, none⟩) n2 _).far (p := ⟨_, _, none⟩) n2 _).far (p := ⟨_, _, none⟩) n2 _
  · exact ((((B7.alloc B7.size _).setCell (by simp) _).setCell (by simp) _).setCell (by simp) _).setCell (by simp) _

/-- What is fixed: the numbers of the examples. -/
theorem ex_wide : wideS smP 0 50 = ⟨1845, 1911⟩ ∧ wideE smP 0 50 = 0 := by decide +kernel
theorem ex_follow : followR smP (smL 1830) [0, 1, 0] = ⟨[70, 20], 3, 0⟩ ∧ followR smP (smL 1850) [0, 1, 0] = ⟨[], 2, 11⟩ := by decide +kernel
theorem ex_plan : planP smP (smL 1830) = [0, 1, 0] ∧ planC smP (smL 1830) = 11 ∧ planE smP (smL 1830) = 0 := by decide +kernel
theorem ex_last : lastR smP 0 ⟨1850, 2000⟩ = ⟨56, 98, 0⟩ := by decide +kernel

structure AwS (w : World) (q b1 b2 : Nat) (x : Int) (W : World) : Prop where
  below : Below w.heap.size w W
  bq : Blk W q 26 #[.slice (some ⟨b1, 0, none⟩) 2 2, .int .i64 90, .int .i64 100, .int .i64 5]
  bd : Blk W b1 49 #[.int .i64 2000, .int .i64 1, .int .i64 2, .int .i64 2200, .int .i64 2, .int .i64 3]
  bt : Blk W b2 51 (smT x)
section
variable {w : World} {q b1 b2 : Nat} {x : Int} {W W' : World}
theorem AwS.call (h : AwS w q b1 b2 x W) (hb : Below W.heap.size W W') : AwS w q b1 b2 x W' := ⟨h.below.trans (hb.mono h.below.size), h.bq.below hb h.bq.lt, h.bd.below hb h.bd.lt, h.bt.below hb h.bt.lt⟩
theorem AwS.drew (h : AwS w q b1 b2 x W) : AwS w q b1 b2 x W.drew := ⟨h.below.drew, h.bq, h.bd, h.bt⟩
theorem AwS.alloc (h : AwS w q b1 b2 x W) (o : Obj) : AwS w q b1 b2 x (W.alloc o) := h.call ((Below.refl _ _).alloc (Nat.le_refl _) o)
theorem aw_wide (h : AwS w q b1 b2 x W) : Calls Try.prog 20 #[.agg #[.slice (some ⟨b1, 0, none⟩) 2 2, .int .i64 90, .int .i64 100, .int .i64 5], .int .i64 0, .int .i64 50] W (Ret (.tuple #[.agg #[.int .i64 1845, .int .i64 1911], .int .i64 0]) W) := by
  have := wide_any W (some ⟨b1, 0, none⟩) 2 smP 0 50 (by decide) (sm_dies h.bd)
  rw [ex_wide.1, ex_wide.2] at this
  exact this
theorem aw_last (h : AwS w q b1 b2 x W) : Calls Try.prog 22 #[.agg #[.slice (some ⟨b1, 0, none⟩) 2 2, .int .i64 90, .int .i64 100, .int .i64 5], .int .i64 0, .agg #[.int .i64 1850, .int .i64 2000]] W (Ret (.tuple #[.int .i64 56, .int .i64 98, .int .i64 0]) W) := by
  have := last_any W (some ⟨b1, 0, none⟩) 2 smP 0 ⟨1850, 2000⟩ (by decide) (sm_dies h.bd)
  rw [ex_last] at this
  exact this
theorem aw_follow {b3 : Nat} (h : AwS w q b1 b2 1830 W) (h3 : Blk W b3 3 #[.int .i64 0, .int .i64 1, .int .i64 0]) : Calls Try.prog 24 #[.agg #[.slice (some ⟨b1, 0, none⟩) 2 2, .int .i64 90, .int .i64 100, .int .i64 5], .slice (some ⟨b2, 0, none⟩) 3 3, .slice (some ⟨b3, 0, none⟩) 3 3] W (RetFo ⟨[70, 20], 3, 0⟩ W) := by
  have := follow_any W (some ⟨b1, 0, none⟩) (some ⟨b2, 0, none⟩) (some ⟨b3, 0, none⟩) 2 3 3 smP (smL 1830) [0, 1, 0] (by decide) (by decide) (by decide) (sm_dies h.bd) (sm_draws h.bt) (blk_sl h3)
  rw [ex_follow.1] at this
  exact this
theorem aw_follow2 {b3 : Nat} (h : AwS w q b1 b2 1850 W) (h3 : Blk W b3 3 #[.int .i64 0, .int .i64 1, .int .i64 0]) : Calls Try.prog 24 #[.agg #[.slice (some ⟨b1, 0, none⟩) 2 2, .int .i64 90, .int .i64 100, .int .i64 5], .slice (some ⟨b2, 0, none⟩) 3 3, .slice (some ⟨b3, 0, none⟩) 3 3] W (RetFo ⟨[], 2, 11⟩ W) := by
  have := follow_any W (some ⟨b1, 0, none⟩) (some ⟨b2, 0, none⟩) (some ⟨b3, 0, none⟩) 2 3 3 smP (smL 1850) [0, 1, 0] (by decide) (by decide) (by decide) (sm_dies h.bd) (sm_draws h.bt) (blk_sl h3)
  rw [ex_follow.2] at this
  exact this
theorem aw_plan (h : AwS w q b1 b2 1830 W) : Calls Try.prog 27 #[.agg #[.slice (some ⟨b1, 0, none⟩) 2 2, .int .i64 90, .int .i64 100, .int .i64 5], .slice (some ⟨b2, 0, none⟩) 3 3] W (RetPl [0, 1, 0] 11 0 W) := by
  have := plan_any W (some ⟨b1, 0, none⟩) (some ⟨b2, 0, none⟩) 2 3 smP (smL 1830) (by decide) (by decide) (sm_dies h.bd) (sm_draws h.bt) (by decide)
  rw [ex_plan.1, ex_plan.2.1, ex_plan.2.2] at this
  exact this
end
theorem ints_made (V : World) (A : Option Addr) (c k : Nat) (l : List Int) (h : IntSl V V.heap.size A l) (hl : l.length ≤ 100) (cs : Array Value) (hcs : intsA l = cs) (hk : l.length = k) :
    Calls Try.prog 26 #[.slice A k c, .slice (some ⟨V.heap.size, 0, none⟩) k k] (V.alloc (.cells cs 3)) (Ret (.bool true) (V.alloc (.cells cs 3))) := by
  subst hcs hk
  have h2 := ints_any (V.alloc (.cells (intsA l) 3)) A (some ⟨V.heap.size, 0, none⟩) c l.length l l (by omega) (by omega) (h.on ((Below.refl _ _).alloc (Nat.le_refl _) _) (Nat.le_refl _)) (blk_sl (Blk.new V _ _))
  rw [decide_eq_true rfl] at h2
  exact h2
set_option maxRecDepth 100000 in
set_option maxHeartbeats 4000000 in
theorem awake_any (w : World) : Calls Try.prog 19 #[] w (Ret (.bool true) w) := by
  go_enter Try.func19, Try.ntmps19
  go_wp2_with fail
  refine (sample_any w).mono ?_
  rintro e w1 ⟨b1, b2, rfl, hd, ht, hne, hge, B1⟩
  go_wp2_with fail
  have hS : AwS w w1.heap.size b1 b2 1830 (w1.alloc (.cells #[.slice (some ⟨b1, 0, none⟩) 2 2, .int .i64 90, .int .i64 100, .int .i64 5] 26)) := ⟨B1.alloc B1.size _, Blk.new _ _ _, hd.alloc _, ht.alloc _⟩
  have hlt : b1 < w1.heap.size ∧ b2 < w1.heap.size := ⟨hd.lt, ht.lt⟩
  generalize World.alloc w1 _ = w2 at hS ⊢
  generalize w1.heap.size = q at hS hlt ⊢
  have S2 := Lib.hid hS
  clear hd ht B1 hS
  have x0 := S2.out.bq.cell 0
  have x1 := S2.out.bq.cell 1
  have x2 := S2.out.bq.cell 2
  have x3 := S2.out.bq.cell 3
  go_wp2_with fail
  refine (aw_wide S2.out).mono ?_
  rintro e w3 ⟨rfl, hb⟩
  have S3 := Lib.hid (S2.out.call hb)
  clear hb S2 x0 x1 x2 x3
  go_wp2_with fail
  have X3 := Lib.hid (Blk.new w3 24 #[.int .i64 1845, .int .i64 1911])
  have S4 := Lib.hid (S3.out.alloc (.cells #[.int .i64 1845, .int .i64 1911] 24))
  have hq3 : q < w3.heap.size := S3.out.bq.lt
  generalize World.alloc w3 _ = w4 at X3 S4 ⊢
  generalize w3.heap.size = q3 at X3 hq3 ⊢
  clear S3
  have x0 := S4.out.bq.cell 0
  have x1 := S4.out.bq.cell 1
  have x2 := S4.out.bq.cell 2
  have x3 := S4.out.bq.cell 3
  have hS4 : w4.cell? ⟨q, 0, none⟩ = some (.slice (some ⟨b1, 0, none⟩) 2 2) ∧ w4.cell? ⟨q, 1, none⟩ = some (.int .i64 90) ∧ w4.cell? ⟨q, 2, none⟩ = some (.int .i64 100) ∧ w4.cell? ⟨q, 3, none⟩ = some (.int .i64 5) := ⟨x0, x1, x2, x3⟩
  clear x0 x1 x2 x3
  go_region_held3 (fun W => W.cell? ⟨q, 0, none⟩ = some (.slice (some ⟨b1, 0, none⟩) 2 2) ∧ W.cell? ⟨q, 1, none⟩ = some (.int .i64 90) ∧ W.cell? ⟨q, 2, none⟩ = some (.int .i64 100) ∧ W.cell? ⟨q, 3, none⟩ = some (.int .i64 5))
    (first | exact hS4 | exact ⟨S5.out.bq.cell 0, S5.out.bq.cell 1, S5.out.bq.cell 2, S5.out.bq.cell 3⟩ | exact ⟨S6.out.bq.cell 0, S6.out.bq.cell 1, S6.out.bq.cell 2, S6.out.bq.cell 3⟩ | fail "keep")
    (first
      | (go_at_call 33; (with_reducible refine (span_any _ _ _).mono ?_); rintro e w5 ⟨rfl, hb⟩; have S5 := Lib.hid (S4.out.drew.call hb); have X5 := Lib.hid (X3.out.below (Below.trans (Below.refl _ _).drew hb) X3.out.lt); clear hb)
      | (go_at_call 22; (with_reducible refine (aw_last S5.out).mono ?_); rintro e w6 ⟨rfl, hb⟩; have S6 := Lib.hid (S5.out.call hb); have X6 := Lib.hid (X5.out.below hb X5.out.lt); clear hb)
      | fail "no arm")
  clear hS4 S4 X3 S5 X5
  have x0 := S6.out.bq.cell 0
  have x1 := S6.out.bq.cell 1
  have x2 := S6.out.bq.cell 2
  have x3 := S6.out.bq.cell 3
  go_wp2_with fail
  have N7 := Blk.new w6 3 #[.int .i64 0, .int .i64 1, .int .i64 0]
  have S7 := Lib.hid (S6.out.alloc (.cells #[.int .i64 0, .int .i64 1, .int .i64 0] 3))
  have X7 := Lib.hid (X6.out.alloc (.cells #[.int .i64 0, .int .i64 1, .int .i64 0] 3))
  generalize World.alloc w6 _ = w7 at N7 S7 X7 ⊢
  generalize w6.heap.size = q7 at N7 ⊢
  refine (aw_follow S7.out N7).mono ?_
  rintro e w8 ⟨A8, c8, rfl, hp8, hb⟩
  have S8 := Lib.hid (S7.out.call hb)
  have X8 := Lib.hid (X7.out.below hb X7.out.lt)
  have P8 := Lib.hid hp8
  clear hb hp8 S6 X6 S7 X7 N7 x0 x1 x2 x3
  have x0 := S8.out.bq.cell 0
  have x1 := S8.out.bq.cell 1
  have x2 := S8.out.bq.cell 2
  have x3 := S8.out.bq.cell 3
  go_wp2_with fail
  refine (aw_plan S8.out).mono ?_
  rintro e w9 ⟨A9, c9, rfl, hp9, hb⟩
  have S9 := Lib.hid (S8.out.call hb)
  have X9 := Lib.hid (X8.out.below hb X8.out.lt)
  have P89 := Lib.hid (P8.out.keep (.below hb))
  have P9 := Lib.hid hp9
  clear hb hp9 S8 X8 P8 x0 x1 x2 x3
  have d7 := S9.out.bt.cell 7
  have f7 := S9.out.bt.frozen 7
  unfold smT at d7
  have SA : Hid (AwS w q b1 b2 1850 (w9.setCell ⟨b2, 7, none⟩ (.int .i64 1850))) := Lib.hid ⟨S9.out.below.setCell hge.2 _, S9.out.bq.far (by simp only; omega) _, S9.out.bd.far (by simp only; exact hne) _, S9.out.bt.set_ 7 _⟩
  have XA := Lib.hid (X9.out.far (p := ⟨b2, 7, none⟩) (by simp only; omega) (.int .i64 1850))
  have PA8 := Lib.hid (P89.out.keep (KeepI.set S9.out.bt (by decide) 7 (.int .i64 1850)))
  have PA9 := Lib.hid (P9.out.keep (KeepI.set S9.out.bt (by decide) 7 (.int .i64 1850)))
  clear S9 X9 P89 P9
  have x0 := SA.out.bq.cell 0
  have x1 := SA.out.bq.cell 1
  have x2 := SA.out.bq.cell 2
  have x3 := SA.out.bq.cell 3
  go_wp2_with fail
  clear d7 f7
  have hzA : w9.heap.size = (World.setCell w9 ⟨b2, 7, none⟩ (.int .i64 1850)).heap.size := by simp
  generalize World.setCell w9 _ _ = wA at SA XA PA8 PA9 hzA ⊢
  simp only [hzA]
  have NB := Blk.new wA 3 #[.int .i64 0, .int .i64 1, .int .i64 0]
  have hbB : Below wA.heap.size wA (wA.alloc (.cells #[.int .i64 0, .int .i64 1, .int .i64 0] 3)) := (Below.refl _ _).alloc (Nat.le_refl _) _
  have SB := Lib.hid (SA.out.call hbB)
  have XB := Lib.hid (XA.out.below hbB XA.out.lt)
  have PB8 := Lib.hid (PA8.out.keep (.below hbB))
  have PB9 := Lib.hid (PA9.out.keep (.below hbB))
  clear hbB SA XA PA8 PA9 x0 x1 x2 x3
  generalize World.alloc wA _ = wB at NB SB XB PB8 PB9 ⊢
  generalize wA.heap.size = qB at NB ⊢
  refine (aw_follow2 SB.out NB).mono ?_
  rintro e wC ⟨AC, cC, rfl, -, hb⟩
  have SC := Lib.hid (SB.out.call hb)
  have XC := Lib.hid (XB.out.below hb XB.out.lt)
  have PC8 := Lib.hid (plan_sl (PB8.out.keep (.below hb)))
  have PC9 := Lib.hid (plan_sl (PB9.out.keep (.below hb)))
  clear hb SB XB PB8 PB9 NB
  have y0 := XC.out.cell 0
  have y1 := XC.out.cell 1
  have HI1 : Hid (∀ V, Below wC.heap.size wC V → Calls Try.prog 26 #[.slice A8 2 c8, .slice (some ⟨V.heap.size, 0, none⟩) 2 2] (V.alloc (.cells #[.int .i64 70, .int .i64 20] 3)) (Ret (.bool true) (V.alloc (.cells #[.int .i64 70, .int .i64 20] 3)))) := Lib.hid fun V hV =>
    ints_made V A8 c8 2 [70, 20] (PC8.out.on hV (Nat.le_refl _)) (by decide) _ rfl rfl
  have HI2 : Hid (∀ V, Below wC.heap.size wC V → Calls Try.prog 26 #[.slice A9 3 c9, .slice (some ⟨V.heap.size, 0, none⟩) 3 3] (V.alloc (.cells #[.int .i64 0, .int .i64 1, .int .i64 0] 3)) (Ret (.bool true) (V.alloc (.cells #[.int .i64 0, .int .i64 1, .int .i64 0] 3)))) := Lib.hid fun V hV =>
    ints_made V A9 c9 3 [0, 1, 0] (PC9.out.on hV (Nat.le_refl _)) (by decide) _ rfl rfl
  have HBC := Lib.hid SC.out.below
  go_wp2_with fail
  have hSC : wC.cell? ⟨q3, 0, none⟩ = some (.int .i64 1845) ∧ wC.cell? ⟨q3, 1, none⟩ = some (.int .i64 1911) := ⟨y0, y1⟩
  clear SC PC8 PC9 y0 y1
  go_region_held3 (fun W => W.cell? ⟨q3, 0, none⟩ = some (.int .i64 1845) ∧ W.cell? ⟨q3, 1, none⟩ = some (.int .i64 1911))
    (first | exact hSC | exact ⟨XD.out.cell 0, XD.out.cell 1⟩ | exact ⟨XE.out.cell 0, XE.out.cell 1⟩ | exact ⟨XF.out.cell 0, XF.out.cell 1⟩ | exact ⟨(XD.out.alloc _).cell 0, (XD.out.alloc _).cell 1⟩ | exact ⟨(XE.out.alloc _).cell 0, (XE.out.alloc _).cell 1⟩ | fail "keep")
    (first
      | (go_at_call 33; (with_reducible refine (span_any _ _ _).mono ?_); rintro e wD ⟨rfl, hb⟩; have HBD := Lib.hid (Below.trans (Below.refl wC.heap.size wC).drew hb); have XD := Lib.hid (XC.out.below HBD.out XC.out.lt); clear hb)
      | (go_at_call 26; (with_reducible refine (HI1.out _ HBD.out).mono ?_); rintro e wE ⟨rfl, hb⟩; have HBE := Lib.hid (HBD.out.trans (((Below.refl _ _).alloc (Nat.le_refl _) _ |>.trans (hb.mono (by simp))).mono HBD.out.size)); have XE := Lib.hid (XC.out.below HBE.out XC.out.lt); clear hb)
      | (go_at_call 26; (with_reducible refine (HI2.out _ HBE.out).mono ?_); rintro e wF ⟨rfl, hb⟩; have HBF := Lib.hid (HBE.out.trans (((Below.refl _ _).alloc (Nat.le_refl _) _ |>.trans (hb.mono (by simp))).mono HBE.out.size)); have XF := Lib.hid (XC.out.below HBF.out XC.out.lt); clear hb)
      | fail "no arm")
  go_wp2_with fail
  go_ret
  exact ⟨rfl, HBC.out.trans (HBF.out.mono HBC.out.size)⟩
end Go.Proofs.Ytdadgljllnkppaa
