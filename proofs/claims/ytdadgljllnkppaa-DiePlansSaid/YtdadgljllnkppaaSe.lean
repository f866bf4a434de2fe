/- sort.Search over a function value that tells a bool, true from some number on. -/
import Derived.Test.YtdadgljllnkppaaTh
namespace Go.Proofs.Ytdadgljllnkppaa
open Go.RowKit Go.Shelf

def IsPred (w : World) (B : Nat) (v : Value) (n : Int) (p : Int → Bool) : Prop :=
  ∃ (k : Nat) (cap : Array Value), v = .func (.func k) #[] cap ∧ (∀ args W, (callFunc k args).run Try.prog W = .ok (.enter k args) W) ∧
    ∀ (W : World) (i : Int), Below B w W → 0 ≤ i → i < n → Calls Try.prog k (#[.int .i64 i] ++ cap) W (Ret (.bool (p i)) W)

def RetFirst (n : Int) (p : Int → Bool) (w : World) (e : Ending) (w' : World) : Prop :=
  ∃ r : Int, e = .returned (.int .i64 r) ∧ 0 ≤ r ∧ r ≤ n ∧ (∀ x, 0 ≤ x → x < r → p x = false) ∧ (∀ x, r ≤ x → x < n → p x = true) ∧ Below w.heap.size w w'

set_option maxRecDepth 100000 in
set_option maxHeartbeats 2000000 in
theorem search_any (w : World) (v : Value) (n : Int) (p : Int → Bool) (hn : 0 ≤ n) (hn' : n ≤ 1000000) (hp : IsPred w w.heap.size v n p) (hm : ∀ i j, 0 ≤ i → i ≤ j → j < n → p i = true → p j = true) :
    Calls Try.prog 67 #[.int .i64 n, v] w (RetFirst n p w) := by
  obtain ⟨k, cap, rfl, he, hc⟩ := hp
  have HC := Lib.hid hc
  have HM := Lib.hid hm
  clear hc hm
  go_enter Try.func67, Try.ntmps67
  go_wp2
  go_loopw [5, 6] (fun i j wr => ∃ a b : Int, i = .int .i64 a ∧ j = .int .i64 b ∧ 0 ≤ a ∧ a ≤ b ∧ b ≤ n ∧ Hid (∀ x, 0 ≤ x → x < a → p x = false) ∧ Hid (∀ x, b ≤ x → x < n → p x = true) ∧ Below w.heap.size w wr) (fun i j _ => (intOf j - intOf i).toNat)
  case atStart => exact ⟨0, n, rfl, rfl, by omega, hn, by omega, fun x h1 h2 => by omega, fun x h1 h2 => by omega, Below.refl _ _⟩
  case round =>
    obtain ⟨a, b, rfl, rfl, ha, hab, hb, hlo, hhi, hB⟩ := hrel
    by_cases hlt : a < b
    · go_wp2_with fail
      have hh1 : a ≤ (a + b) / 2 := by omega
      have hh2 : (a + b) / 2 < b := by omega
      generalize (a + b) / 2 = h at hh1 hh2 ⊢
      refine (HC.out wr h hB (by omega) (by omega)).mono ?_
      rintro e W1 ⟨rfl, hb1⟩
      have hB1 := hB.trans (hb1.mono hB.size)
      clear hb1 hB
      cases hph : p h with
      | true =>
        have H2 : Hid (∀ x, h ≤ x → x < n → p x = true) := fun x h1 h2 => HM.out h x (by omega) h1 h2 hph
        clear hph
        go_wp2
        go_roundw
        case rel => exact ⟨a, h, rfl, rfl, ha, hh1, by omega, hlo, H2, hB1⟩
        case measure => simp [intOf]; omega
      | false =>
        have H2 : Hid (∀ x, 0 ≤ x → x < h + 1 → p x = false) := fun x h1 h2 => by
          cases hpx : p x with
          | false => rfl
          | true => have := HM.out x h h1 (by omega) (by omega) hpx; rw [hph] at this; cases this
        clear hph
        go_wp2
        go_roundw
        case rel => exact ⟨h + 1, b, rfl, rfl, by omega, by omega, hb, H2, hhi, hB1⟩
        case measure => simp [intOf]; omega
    · obtain rfl : a = b := by omega
      go_wp2
      go_ret
      exact ⟨a, rfl, ha, hb, hlo, hhi, hB⟩
/-- The first number from which on something is true. -/
def firstGo (p : Int → Bool) : Nat → Int → Int
  | 0, i => i
  | k + 1, i => if p i = true then i else firstGo p k (i + 1)
def firstOf (p : Int → Bool) (n : Int) : Int := firstGo p n.toNat 0
theorem firstGo_eq (p : Int → Bool) (n r : Int) (h2 : ∀ x, 0 ≤ x → x < r → p x = false) (h3 : ∀ x, r ≤ x → x < n → p x = true) : ∀ (k : Nat) (i : Int), 0 ≤ i → i ≤ r → r ≤ n → (k : Int) = n - i → firstGo p k i = r
  | 0, i, h0, h, h', hk => by simp only [firstGo]; omega
  | k + 1, i, h0, h, h', hk => by
    unfold firstGo
    by_cases hi : i < r
    · rw [if_neg (by rw [h2 i h0 hi]; simp), firstGo_eq p n r h2 h3 k (i + 1) (by omega) (by omega) h' (by omega)]
    · rw [if_pos (h3 i (by omega) (by omega))]; omega
theorem firstOf_eq {p : Int → Bool} {n r : Int} (h0 : 0 ≤ r) (h1 : r ≤ n) (h2 : ∀ x, 0 ≤ x → x < r → p x = false) (h3 : ∀ x, r ≤ x → x < n → p x = true) : firstOf p n = r :=
  firstGo_eq p n r h2 h3 n.toNat 0 (by omega) h0 h1 (by omega)
theorem firstOf_spec {p : Int → Bool} {n : Int} (hn : 0 ≤ n) (hm : ∀ i j, 0 ≤ i → i ≤ j → j < n → p i = true → p j = true) : 0 ≤ firstOf p n ∧ firstOf p n ≤ n ∧ (∀ x, 0 ≤ x → x < firstOf p n → p x = false) ∧ (∀ x, firstOf p n ≤ x → x < n → p x = true) := by
  have aux : ∀ (k : Nat) (i : Int), 0 ≤ i → (k : Int) = n - i → (∀ x, 0 ≤ x → x < i → p x = false) → 0 ≤ firstGo p k i ∧ firstGo p k i ≤ n ∧ (∀ x, 0 ≤ x → x < firstGo p k i → p x = false) ∧ (∀ x, firstGo p k i ≤ x → x < n → p x = true) := by
    intro k
    induction k with
    | zero => intro i h0 hk h; simp only [firstGo]; exact ⟨h0, by omega, h, fun x h1 h2 => by omega⟩
    | succ k ih =>
      intro i h0 hk h
      unfold firstGo
      cases hi : p i with
      | true => rw [if_pos rfl]; exact ⟨h0, by omega, h, fun x h1 h2 => hm i x h0 h1 h2 hi⟩
      | false =>
        rw [if_neg (by simp)]
        refine ih (i + 1) (by omega) (by omega) fun x h1 h2 => ?_
        by_cases hx : x = i
        · rw [hx]; exact hi
        · exact h x h1 (by omega)
  exact aux n.toNat 0 (by omega) (by omega) fun x h1 h2 => by omega
theorem search_first (w : World) (v : Value) (n : Int) (p : Int → Bool) (hn : 0 ≤ n) (hn' : n ≤ 1000000) (hp : IsPred w w.heap.size v n p) (hm : ∀ i j, 0 ≤ i → i ≤ j → j < n → p i = true → p j = true) :
    Calls Try.prog 67 #[.int .i64 n, v] w (Ret (.int .i64 (firstOf p n)) w) :=
  (search_any w v n p hn hn' hp hm).mono fun e w' ⟨r, he, h0, h1, h2, h3, hb⟩ => ⟨by rw [he, firstOf_eq h0 h1 h2 h3], hb⟩
end Go.Proofs.Ytdadgljllnkppaa
