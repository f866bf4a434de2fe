/- Numbers that are drawn by remainders, and what is true between ends (as in die's Pt and Lt, by themselves). -/
import Derived.Test.YtfpfafijockfnaaLib
namespace Go.Proofs.Ytfpfafijockfnaa
open Go.RowKit Go.Shelf

def U16At (w : World) (b off : Nat) (l : List Int) : Prop := ∀ i (h : i < l.length), w.cell? ⟨b, off + i, none⟩ = some (.int .u16 l[i])
def U16Sl (w : World) (B : Nat) (A : Option Addr) (l : List Int) : Prop := l ≠ [] → ∃ b off, A = some ⟨b, off, none⟩ ∧ b < B ∧ U16At w b off l
theorem U16At.below {w w' : World} {b off B : Nat} {l : List Int} (h : U16At w b off l) (hb : Below B w w') (hlt : b < B) : U16At w' b off l := fun i hi => (hb.cell (p := ⟨b, _, none⟩) hlt).trans (h i hi)
theorem U16Sl.on {w w' : World} {B : Nat} {A : Option Addr} {l : List Int} (h : U16Sl w B A l) (hb : Below w.heap.size w w') (hB : B ≤ w.heap.size) : U16Sl w' w'.heap.size A l := fun hne => by
  obtain ⟨b, off, e, hlt, hs⟩ := h hne
  exact ⟨b, off, e, Nat.lt_of_lt_of_le hlt (Nat.le_trans hB hb.size), hs.below (hb.mono hB) hlt⟩
def pickV (lo hi y : Int) : Int := lo + y % (hi - lo + 1)
theorem pickV_bd {lo hi y : Int} (h : lo ≤ hi) : lo ≤ pickV lo hi y ∧ pickV lo hi y ≤ hi := by
  unfold pickV
  have h1 := Int.emod_nonneg y (show hi - lo + 1 ≠ 0 by omega)
  have h2 := Int.emod_lt_of_pos y (show (0 : Int) < hi - lo + 1 by omega)
  omega
/-- A true width is between the thinnest and the thickest one. -/
theorem nano_between {wide w0 w1 s0 s1 u0 u1 u wear shrink : Int} (a0 : 0 ≤ wide) (b0 : 0 ≤ w0) (_c0 : 0 ≤ s0) (c1 : s1 ≤ 300) (d0 : 0 ≤ u0) (hw0 : w0 ≤ wear) (hw1 : wear ≤ w1) (hs0 : s0 ≤ shrink) (hs1 : shrink ≤ s1) (hu0 : u0 ≤ u) (hu1 : u ≤ u1) :
    nano wide w0 s1 u0 ≤ nano wide wear shrink u ∧ nano wide wear shrink u ≤ nano wide w1 s0 u1 := by
  unfold nano
  have e0 : w0 * u0 ≤ wear * u := Int.mul_le_mul hw0 hu0 d0 (by omega)
  have e1 : wear * u ≤ w1 * u1 := Int.mul_le_mul hw1 hu1 (by omega) (by omega)
  have e2 : 0 ≤ w0 * u0 := Int.mul_nonneg b0 d0
  exact ⟨Int.mul_le_mul (by omega) (by omega) (by omega) (by omega), Int.mul_le_mul (by omega) (by omega) (by omega) (by omega)⟩
end Go.Proofs.Ytfpfafijockfnaa
