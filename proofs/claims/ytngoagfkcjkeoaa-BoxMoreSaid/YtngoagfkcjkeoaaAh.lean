/- What the document says of its own sample. -/
import Derived.Test.YtngoagfkcjkeoaaAg
import Derived.Test.YtngoagfkcjkeoaaLa
namespace Go.Proofs.Ytngoagfkcjkeoaa
open Go.RowKit Go.Shelf

def need0 : List Int := [2, 1, 1]
def pil0 : List Pile := [⟨3, 10⟩, ⟨6, 6⟩, ⟨4, 3⟩]
theorem ok0 : boxOk need0 pil0 = true := by decide +kernel
theorem fill0 : fillA need0 pil0 4 = ([[8, 2, 0], [0, 2, 4], [0, 0, 0]], 0) := by decide +kernel
theorem fill1 : fillA need0 pil0 5 = ([], 10) := by decide +kernel
theorem lack0 : lackA need0 pil0 6 = (7, 5, 0) := by decide +kernel
theorem most0 {r : Int} (h : GreatOf (canB need0 pil0) 8388608 r) : r = 4 := great_uniq h ⟨by decide, .inr (by decide +kernel), fun x h1 _ => by
  cases hx : canB need0 pil0 x with
  | false => rfl
  | true =>
    have := can_anti (ok_in ok0).1 (show (5 : Int) ≤ x by omega) hx
    rw [show canB need0 pil0 5 = false by decide +kernel] at this
    cases this⟩
theorem proof0 : lackingS need0 pil0 5 = 7 := by decide +kernel
theorem len0 : 1 < pil0.length := by decide
theorem less3 : lessF need0 pil0 4 1 len0 3 = true := by decide +kernel
theorem less4 : lessF need0 pil0 4 1 len0 4 = false := by decide +kernel
theorem use0 {lo hi ee : Int} (h : UseR need0 pil0 4 1 lo hi ee) : lo = 3 ∧ hi = 6 ∧ ee = 0 := by
  have e0 : errE need0 pil0 4 = 0 := by decide +kernel
  have e1 : canB need0 pil0 4 = true := by decide +kernel
  rcases h with ⟨h1, -⟩ | ⟨-, h2, -⟩ | ⟨-, -, h2, -⟩ | ⟨-, -, rfl, p, hp, r, h3, h4, rfl, rfl⟩
  · exact absurd e0 h1
  · exact absurd h2 (by decide +kernel)
  · rw [e1] at h2; cases h2
  · obtain rfl : p = 1 := by omega
    have hr : r = 3 := great_uniq h4 ⟨⟨by omega, show (3 : Int) ≤ 6 by omega⟩, .inr less3, fun x h1 _ => by
      cases hx : lessF need0 pil0 4 1 hp x with
      | false => rfl
      | true =>
        have := less_anti hp (show (4 : Int) ≤ x by omega) hx
        rw [less4] at this
        cases this⟩
    subst hr
    refine ⟨rfl, ?_, rfl⟩
    show min (6 : Int) (needS need0 6 * 4) = 6
    rw [show needS need0 6 = 2 by decide +kernel]
    decide
end Go.Proofs.Ytngoagfkcjkeoaa
