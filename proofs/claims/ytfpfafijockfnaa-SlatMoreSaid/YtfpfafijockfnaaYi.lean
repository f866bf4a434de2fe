/- What the document says of the law's own jig and slats. -/
import Derived.Test.YtfpfafijockfnaaYh
import Derived.Test.YtfpfafijockfnaaTy
namespace Go.Proofs.Ytfpfafijockfnaa
open Go.RowKit Go.Shelf

def jL : Jig := ⟨⟨10, 20⟩, ⟨2000, 2020⟩, ⟨-5, 5⟩, ⟨-10, 10⟩, 40, 3⟩
def aL : Slat := ⟨⟨5000, 5010⟩, ⟨1010, 1020⟩, ⟨0, 4⟩, ⟨1, 2⟩⟩
def bL : Slat := ⟨⟨4980, 4990⟩, ⟨1000, 1010⟩, ⟨-2, 2⟩, ⟨0, 1⟩⟩
def cL : Slat := ⟨⟨4900, 4910⟩, ⟨1010, 1020⟩, ⟨0, 4⟩, ⟨1, 2⟩⟩
def dL : Slat := ⟨⟨4880, 4890⟩, ⟨1000, 1010⟩, ⟨-2, 2⟩, ⟨0, 1⟩⟩
theorem off_law : offS jL aL bL 1 = ⟨-11, 19⟩ ∧ offH jL aL bL 1 = ⟨-70, 40⟩ ∧ offE jL aL bL 1 = 0 := by decide +kernel
theorem closes_law : slErr jL [aL] [bL] [] true = 0 ∧ closesN jL aL bL = 2 := by decide +kernel
theorem grades_law : gradesOf jL aL bL [36, 37, 50] = [0, 1, 1] ∧ graE jL aL bL [36, 37, 50] = 0 := by decide +kernel
theorem pair_law : pairR jL [aL, cL] [dL, bL] 37 = (([1, 0], 6), 0) := by decide +kernel
theorem tune_law : tuneR jL [aL] [bL] 30 = (⟨1, -7⟩, 3, 0) := by decide +kernel
end Go.Proofs.Ytfpfafijockfnaa
