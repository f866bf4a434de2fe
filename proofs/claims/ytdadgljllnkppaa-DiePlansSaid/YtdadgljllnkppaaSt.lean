/- Walks: states of the dies; what a draw costs; which rest is better. -/
import Derived.Test.YtdadgljllnkppaaMa
import Derived.RegionTactic
import Derived.ChangeAlike
namespace Go.Proofs.Ytdadgljllnkppaa
open Go.RowKit Go.Shelf

def Sta.get (s : Sta) : Nat → Int
  | 0 => s.a
  | 1 => s.b
  | 2 => s.c
  | _ => s.d
def Sta.after (s : Sta) (len : Int) : Nat → Sta
  | 0 => ⟨s.a + len, s.b, s.c, s.d, 0⟩
  | 1 => ⟨s.a, s.b + len, s.c, s.d, 1⟩
  | 2 => ⟨s.a, s.b, s.c + len, s.d, 2⟩
  | n => ⟨s.a, s.b, s.c, s.d + len, n⟩
def Sta.sum (s : Sta) : Int := s.a + s.b + s.c + s.d
def stepCost (change : Int) (s : Sta) (n : Nat) : Int := if s.on = -1 ∨ s.on = (n : Int) then n else n + change
def Sta.ok (s : Sta) : Prop := 0 ≤ s.a ∧ 0 ≤ s.b ∧ 0 ≤ s.c ∧ 0 ≤ s.d ∧ s.sum ≤ 8000 ∧ -1 ≤ s.on ∧ s.on ≤ 4
theorem Sta.ok_fit {s : Sta} (h : s.ok) : s.fit := by
  obtain ⟨a, b, c, d, e, f, g⟩ := h
  unfold Sta.sum at e
  exact ⟨by omega, by omega, by omega, by omega, by omega, by omega⟩
theorem Sta.get_bd {s : Sta} (h : s.ok) (n : Nat) : 0 ≤ s.get n ∧ s.get n ≤ s.sum := by
  obtain ⟨a, b, c, d, e, f, g⟩ := h
  unfold Sta.sum at *
  match n with
  | 0 => exact ⟨a, by simp only [Sta.get]; omega⟩
  | 1 => exact ⟨b, by simp only [Sta.get]; omega⟩
  | 2 => exact ⟨c, by simp only [Sta.get]; omega⟩
  | _ + 3 => exact ⟨d, by simp only [Sta.get]; omega⟩
theorem Sta.after_sum (s : Sta) (len : Int) (n : Nat) : (s.after len n).sum = s.sum + len := by
  unfold Sta.sum
  match n with
  | 0 => simp only [Sta.after]; omega
  | 1 => simp only [Sta.after]; omega
  | 2 => simp only [Sta.after]; omega
  | _ + 3 => simp only [Sta.after]; omega
theorem Sta.after_on (s : Sta) (len : Int) (n : Nat) : (s.after len n).on = n := by
  match n with
  | 0 => rfl
  | 1 => rfl
  | 2 => rfl
  | _ + 3 => rfl
theorem Sta.after_ok {s : Sta} (h : s.ok) {len : Int} (h0 : 0 ≤ len) {n : Nat} (hn : n ≤ 4) (hs : s.sum + len ≤ 8000) : (s.after len n).ok := by
  have e := Sta.after_sum s len n
  have f := Sta.after_on s len n
  obtain ⟨a, b, c, d, -⟩ := h
  refine ⟨?_, ?_, ?_, ?_, by omega, by omega, by omega⟩
  all_goals
    match n with
    | 0 => simp only [Sta.after]; omega
    | 1 => simp only [Sta.after]; omega
    | 2 => simp only [Sta.after]; omega
    | _ + 3 => simp only [Sta.after]; omega

set_option maxHeartbeats 400000 in
theorem outset_any (w : World) : Calls Try.prog 108 #[] w (Ret (staV ⟨0, 0, 0, 0, -1⟩) w) := by
  go_enter Try.func108, Try.ntmps108
  go_wp2
  exact bodyPost_ret (v := staV ⟨0, 0, 0, 0, -1⟩) (by simp [results, Try.results108, go_sem, staV]) rfl ⟨rfl, (Below.refl _ _).alloc (Nat.le_refl _) _⟩
set_option maxRecDepth 100000 in
set_option maxHeartbeats 2000000 in
theorem after0_any (w : World) (s : Sta) (x : Draw) (n : Nat) (hn : n < 4) (hs : s.ok) (h0 : 0 ≤ x.len) (h1 : x.len ≤ 1000) :
    Calls Try.prog 104 #[staV s, .agg #[.int .i64 x.len, .int .i64 x.want.lo, .int .i64 x.want.hi], .int .i64 (n : Int)] w (Ret (staV (s.after x.len n)) w) := by
  obtain ⟨a, b, c, d, on⟩ := s
  obtain ⟨a0, b0, c0, d0, e0, -⟩ := hs
  simp only [Sta.sum] at a0 b0 c0 d0 e0
  have ha : a ≤ 8000 := by omega
  have hb : b ≤ 8000 := by omega
  have hc : c ≤ 8000 := by omega
  have hd : d ≤ 8000 := by omega
  clear e0
  unfold staV
  have hn4 : n = 0 ∨ n = 1 ∨ n = 2 ∨ n = 3 := by omega
  clear hn
  rcases hn4 with rfl | rfl | rfl | rfl
  · go_enter Try.func104, Try.ntmps104
    go_wp2
    go_region
    go_wp2
    exact bodyPost_ret (v := .agg #[.int .i64 (a + x.len), .int .i64 b, .int .i64 c, .int .i64 d, .int .i64 0]) (by simp [results, Try.results104, go_sem]) rfl ⟨rfl, by repeat (first | exact Below.refl _ _ | assumption | refine Below.drew ?_ | refine Below.alloc ?_ (by first | omega | (simp only [World.size_alloc]; omega) | simp) _ | refine Below.setCell ?_ (by first | omega | (simp only [World.size_alloc]; omega) | simp) _)⟩
  · go_enter Try.func104, Try.ntmps104
    go_wp2
    go_region
    go_wp2
    exact bodyPost_ret (v := .agg #[.int .i64 a, .int .i64 (b + x.len), .int .i64 c, .int .i64 d, .int .i64 1]) (by simp [results, Try.results104, go_sem]) rfl ⟨rfl, by repeat (first | exact Below.refl _ _ | assumption | refine Below.drew ?_ | refine Below.alloc ?_ (by first | omega | (simp only [World.size_alloc]; omega) | simp) _ | refine Below.setCell ?_ (by first | omega | (simp only [World.size_alloc]; omega) | simp) _)⟩
  · go_enter Try.func104, Try.ntmps104
    go_wp2
    go_region
    go_wp2
    exact bodyPost_ret (v := .agg #[.int .i64 a, .int .i64 b, .int .i64 (c + x.len), .int .i64 d, .int .i64 2]) (by simp [results, Try.results104, go_sem]) rfl ⟨rfl, by repeat (first | exact Below.refl _ _ | assumption | refine Below.drew ?_ | refine Below.alloc ?_ (by first | omega | (simp only [World.size_alloc]; omega) | simp) _ | refine Below.setCell ?_ (by first | omega | (simp only [World.size_alloc]; omega) | simp) _)⟩
  · go_enter Try.func104, Try.ntmps104
    go_wp2
    go_region
    go_wp2
    exact bodyPost_ret (v := .agg #[.int .i64 a, .int .i64 b, .int .i64 c, .int .i64 (d + x.len), .int .i64 3]) (by simp [results, Try.results104, go_sem]) rfl ⟨rfl, by repeat (first | exact Below.refl _ _ | assumption | refine Below.drew ?_ | refine Below.alloc ?_ (by first | omega | (simp only [World.size_alloc]; omega) | simp) _ | refine Below.setCell ?_ (by first | omega | (simp only [World.size_alloc]; omega) | simp) _)⟩
set_option maxHeartbeats 400000 in
theorem cost_any (w : World) (A : Option Addr) (c : Nat) (p : Press) (s : Sta) (n : Nat) (hn : n < 4) (h0 : 0 ≤ p.change) (h1 : p.change ≤ 10000) :
    Calls Try.prog 106 #[staV s, .agg #[.slice A p.dies.length c, .int .i64 p.shrink.lo, .int .i64 p.shrink.hi, .int .i64 p.change], .int .i64 (n : Int)] w (Ret (.int .i64 (stepCost p.change s n)) w) := by
  unfold staV
  have HE : Hid (stepCost p.change s n = if s.on = -1 ∨ s.on = (n : Int) then (n : Int) else n + p.change) := Lib.hid rfl
  generalize stepCost p.change s n = z at *
  obtain ⟨sa, sb, sc, sd, on⟩ := s
  have hw : IntKind.i64.wrap ((n : Int) + p.change) = n + p.change := wr (by omega) (by omega)
  go_enter Try.func106, Try.ntmps106
  go_wp2
  all_goals go_ret
  all_goals exact ⟨ret_int (by rw [HE.out]; simp_all <;> omega), by repeat (first | exact Below.refl _ _ | assumption | refine Below.drew ?_ | refine Below.alloc ?_ (by first | omega | (simp only [World.size_alloc]; omega) | simp) _ | refine Below.setCell ?_ (by first | omega | (simp only [World.size_alloc]; omega) | simp) _)⟩
/-- A rest: a plan for the last draws, what it costs, and whether there is one. -/
structure Rst where
  plan : List Int
  cost : Int
  good : Bool
def betterB (r t : Rst) : Bool := r.good && (!t.good || decide (r.cost < t.cost))
set_option maxHeartbeats 400000 in
theorem better_any (w : World) (A T : Option Addr) (n c m d : Nat) (x y : Int) (g h : Bool) :
    Calls Try.prog 107 #[.agg #[.slice A n c, .int .i64 x, .bool g], .agg #[.slice T m d, .int .i64 y, .bool h]] w (Ret (.bool (g && (!h || decide (x < y)))) w) := by
  cases g <;> cases h
  all_goals
    go_enter Try.func107, Try.ntmps107
    go_wp2
    all_goals go_ret
    all_goals exact ⟨ret_bool (by simp_all), by repeat (first | exact Below.refl _ _ | assumption | refine Below.drew ?_ | refine Below.alloc ?_ (by first | omega | (simp only [World.size_alloc]; omega) | simp) _ | refine Below.setCell ?_ (by first | omega | (simp only [World.size_alloc]; omega) | simp) _)⟩
end Go.Proofs.Ytdadgljllnkppaa
