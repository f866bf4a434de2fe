/-
  No cell of these rows narrows 'for every input' (looked for: loops, veiled, ifaces, maps, wideKeys, modest, calm, conditions, laid).
  DERIVED. THE GIVEN ROWS OF THIS SEAT. 9 by the template 'for every input the law returns true; each argument reads behind the call as it read before'; 0 by the template 'total and deterministic' (their statements: YtfpfafijockfnaaTotals.lean).
  GIVEN WITH THE SEED: the statements are not yours to turn. If you find one false, say at which input.
  Laid BY PROGRAM, IN A SANDBOX (cutbox-rows.mjs): the forced cells as the released guide's own fill.sh prints them over the translation 28a9ef114f9590f1… (all of the seat's roots in one cut). By AI agents, Wed Nov 11 2026. No macro, syntax, notation, axiom, sorry.
-/
import Derived.Test.YtfpfafijockfnaaChecked
import GoSem.Claim
import GoSem.ClaimJoined
import GoSem.ClaimMapViews
import Derived.JoinedTies
import Derived.KernelRfl
namespace Go.Proofs.Ytfpfafijockfnaa
/- THE CELL 'sum', in the pinned program and in every row, IS THE sha256 OF THE DUMP (.gsa) THAT YtfpfafijockfnaaProg.lean LOADS. Nothing in Lean hashes anything: it is a label: what it is worth is what the hold of that sum in a sandbox is worth. -/
noncomputable def Try.pinned : Pinned := { name := "ytfpfafijockfnaa", sum := "28a9ef114f9590f107eb02f35909440ae5914fafc5ba401fa03149c9a24e5d82", checked := Try.checked }
namespace Rows
def none {H : Type} : Left H := { results := [], args := [] }

/-- 'pencilworkslaw05.SlatPairs': WHATEVER THE INPUT: true; the input reads as it did. -/
def slatPairsSpec : ChangeSpec := { name := "slatPairs", fn := fun _ => fun
  | [d1, d2, d3, d4] => { results := [.lit (.bool true)], args := [d1, d2, d3, d4] }
  | _ => none }
def slatPairsRow : OpenClaim := { program := "ytfpfafijockfnaa", sum := "28a9ef114f9590f107eb02f35909440ae5914fafc5ba401fa03149c9a24e5d82", func := "pencilworks/pencilworkslaw05.SlatPairs", spec := "slatPairs", unfollowed := true, recurses := true, plainKeys := false, apart := false }
def SlatPairsSaid : Prop := slatPairsRow.holds Try.pinned (OpenSpec.ofChange slatPairsSpec)

/-- ITS FALSE NEIGHBOUR: 'it returns false'. Refute it at one input. -/
def slatPairsWrong : ChangeSpec := { name := "slatPairs", fn := fun _ => fun
  | [d1, d2, d3, d4] => { results := [.lit (.bool false)], args := [d1, d2, d3, d4] }
  | _ => none }
def SlatPairsWrongFalsely : Prop := slatPairsRow.holds Try.pinned (OpenSpec.ofChange slatPairsWrong)

/-- 'pencilworkslaw05.SlatNames': WHATEVER THE INPUT: true; the input reads as it did. -/
def slatNamesSpec : ChangeSpec := { name := "slatNames", fn := fun _ => fun
  | [] => { results := [.lit (.bool true)], args := [] }
  | _ => none }
def slatNamesRow : OpenClaim := { program := "ytfpfafijockfnaa", sum := "28a9ef114f9590f107eb02f35909440ae5914fafc5ba401fa03149c9a24e5d82", func := "pencilworks/pencilworkslaw05.SlatNames", spec := "slatNames", unfollowed := true, recurses := true, plainKeys := false, apart := false }
def SlatNamesSaid : Prop := slatNamesRow.holds Try.pinned (OpenSpec.ofChange slatNamesSpec)

/-- ITS FALSE NEIGHBOUR: 'it returns false'. Refute it at one input. -/
def slatNamesWrong : ChangeSpec := { name := "slatNames", fn := fun _ => fun
  | [] => { results := [.lit (.bool false)], args := [] }
  | _ => none }
def SlatNamesWrongFalsely : Prop := slatNamesRow.holds Try.pinned (OpenSpec.ofChange slatNamesWrong)

/-- 'pencilworkslaw05.SlatTrue': WHATEVER THE INPUT: true; the input reads as it did. -/
def slatTrueSpec : ChangeSpec := { name := "slatTrue", fn := fun _ => fun
  | [d1, d2, d3, d4, d5] => { results := [.lit (.bool true)], args := [d1, d2, d3, d4, d5] }
  | _ => none }
def slatTrueRow : OpenClaim := { program := "ytfpfafijockfnaa", sum := "28a9ef114f9590f107eb02f35909440ae5914fafc5ba401fa03149c9a24e5d82", func := "pencilworks/pencilworkslaw05.SlatTrue", spec := "slatTrue", unfollowed := true, recurses := true, plainKeys := false, apart := false }
def SlatTrueSaid : Prop := slatTrueRow.holds Try.pinned (OpenSpec.ofChange slatTrueSpec)

/-- ITS FALSE NEIGHBOUR: 'it returns false'. Refute it at one input. -/
def slatTrueWrong : ChangeSpec := { name := "slatTrue", fn := fun _ => fun
  | [d1, d2, d3, d4, d5] => { results := [.lit (.bool false)], args := [d1, d2, d3, d4, d5] }
  | _ => none }
def SlatTrueWrongFalsely : Prop := slatTrueRow.holds Try.pinned (OpenSpec.ofChange slatTrueWrong)

/-- 'pencilworkslaw05.SlatEnds': WHATEVER THE INPUT: true; the input reads as it did. -/
def slatEndsSpec : ChangeSpec := { name := "slatEnds", fn := fun _ => fun
  | [d1, d2, d3, d4] => { results := [.lit (.bool true)], args := [d1, d2, d3, d4] }
  | _ => none }
def slatEndsRow : OpenClaim := { program := "ytfpfafijockfnaa", sum := "28a9ef114f9590f107eb02f35909440ae5914fafc5ba401fa03149c9a24e5d82", func := "pencilworks/pencilworkslaw05.SlatEnds", spec := "slatEnds", unfollowed := true, recurses := true, plainKeys := false, apart := false }
def SlatEndsSaid : Prop := slatEndsRow.holds Try.pinned (OpenSpec.ofChange slatEndsSpec)

/-- ITS FALSE NEIGHBOUR: 'it returns false'. Refute it at one input. -/
def slatEndsWrong : ChangeSpec := { name := "slatEnds", fn := fun _ => fun
  | [d1, d2, d3, d4] => { results := [.lit (.bool false)], args := [d1, d2, d3, d4] }
  | _ => none }
def SlatEndsWrongFalsely : Prop := slatEndsRow.holds Try.pinned (OpenSpec.ofChange slatEndsWrong)

/-- 'pencilworkslaw05.SlatBest': WHATEVER THE INPUT: true; the input reads as it did. -/
def slatBestSpec : ChangeSpec := { name := "slatBest", fn := fun _ => fun
  | [d1, d2, d3, d4, d5] => { results := [.lit (.bool true)], args := [d1, d2, d3, d4, d5] }
  | _ => none }
def slatBestRow : OpenClaim := { program := "ytfpfafijockfnaa", sum := "28a9ef114f9590f107eb02f35909440ae5914fafc5ba401fa03149c9a24e5d82", func := "pencilworks/pencilworkslaw05.SlatBest", spec := "slatBest", unfollowed := true, recurses := true, plainKeys := false, apart := false }
def SlatBestSaid : Prop := slatBestRow.holds Try.pinned (OpenSpec.ofChange slatBestSpec)

/-- ITS FALSE NEIGHBOUR: 'it returns false'. Refute it at one input. -/
def slatBestWrong : ChangeSpec := { name := "slatBest", fn := fun _ => fun
  | [d1, d2, d3, d4, d5] => { results := [.lit (.bool false)], args := [d1, d2, d3, d4, d5] }
  | _ => none }
def SlatBestWrongFalsely : Prop := slatBestRow.holds Try.pinned (OpenSpec.ofChange slatBestWrong)

/-- 'pencilworkslaw05.SlatTune': WHATEVER THE INPUT: true; the input reads as it did. -/
def slatTuneSpec : ChangeSpec := { name := "slatTune", fn := fun _ => fun
  | [d1, d2, d3, d4, d5, d6] => { results := [.lit (.bool true)], args := [d1, d2, d3, d4, d5, d6] }
  | _ => none }
def slatTuneRow : OpenClaim := { program := "ytfpfafijockfnaa", sum := "28a9ef114f9590f107eb02f35909440ae5914fafc5ba401fa03149c9a24e5d82", func := "pencilworks/pencilworkslaw05.SlatTune", spec := "slatTune", unfollowed := true, recurses := true, plainKeys := false, apart := false }
def SlatTuneSaid : Prop := slatTuneRow.holds Try.pinned (OpenSpec.ofChange slatTuneSpec)

/-- ITS FALSE NEIGHBOUR: 'it returns false'. Refute it at one input. -/
def slatTuneWrong : ChangeSpec := { name := "slatTune", fn := fun _ => fun
  | [d1, d2, d3, d4, d5, d6] => { results := [.lit (.bool false)], args := [d1, d2, d3, d4, d5, d6] }
  | _ => none }
def SlatTuneWrongFalsely : Prop := slatTuneRow.holds Try.pinned (OpenSpec.ofChange slatTuneWrong)

/-- 'pencilworkslaw05.SlatMore': WHATEVER THE INPUT: true; the input reads as it did. -/
def slatMoreSpec : ChangeSpec := { name := "slatMore", fn := fun _ => fun
  | [d1, d2, d3, d4, d5, d6, d7, d8] => { results := [.lit (.bool true)], args := [d1, d2, d3, d4, d5, d6, d7, d8] }
  | _ => none }
def slatMoreRow : OpenClaim := { program := "ytfpfafijockfnaa", sum := "28a9ef114f9590f107eb02f35909440ae5914fafc5ba401fa03149c9a24e5d82", func := "pencilworks/pencilworkslaw05.SlatMore", spec := "slatMore", unfollowed := true, recurses := true, plainKeys := false, apart := false }
def SlatMoreSaid : Prop := slatMoreRow.holds Try.pinned (OpenSpec.ofChange slatMoreSpec)

/-- ITS FALSE NEIGHBOUR: 'it returns false'. Refute it at one input. -/
def slatMoreWrong : ChangeSpec := { name := "slatMore", fn := fun _ => fun
  | [d1, d2, d3, d4, d5, d6, d7, d8] => { results := [.lit (.bool false)], args := [d1, d2, d3, d4, d5, d6, d7, d8] }
  | _ => none }
def SlatMoreWrongFalsely : Prop := slatMoreRow.holds Try.pinned (OpenSpec.ofChange slatMoreWrong)

/-- 'pencilworkslaw05.SlatOwns': WHATEVER THE INPUT: true; the input reads as it did. -/
def slatOwnsSpec : ChangeSpec := { name := "slatOwns", fn := fun _ => fun
  | [d1, d2, d3, d4, d5] => { results := [.lit (.bool true)], args := [d1, d2, d3, d4, d5] }
  | _ => none }
def slatOwnsRow : OpenClaim := { program := "ytfpfafijockfnaa", sum := "28a9ef114f9590f107eb02f35909440ae5914fafc5ba401fa03149c9a24e5d82", func := "pencilworks/pencilworkslaw05.SlatOwns", spec := "slatOwns", unfollowed := true, recurses := true, plainKeys := false, apart := false }
def SlatOwnsSaid : Prop := slatOwnsRow.holds Try.pinned (OpenSpec.ofChange slatOwnsSpec)

/-- ITS FALSE NEIGHBOUR: 'it returns false'. Refute it at one input. -/
def slatOwnsWrong : ChangeSpec := { name := "slatOwns", fn := fun _ => fun
  | [d1, d2, d3, d4, d5] => { results := [.lit (.bool false)], args := [d1, d2, d3, d4, d5] }
  | _ => none }
def SlatOwnsWrongFalsely : Prop := slatOwnsRow.holds Try.pinned (OpenSpec.ofChange slatOwnsWrong)

/-- 'pencilworkstop.TopCentre': WHATEVER THE INPUT: true; the input reads as it did. -/
def topCentreSpec : ChangeSpec := { name := "topCentre", fn := fun _ => fun
  | [d1, d2, d3, d4, d5, d6, d7, d8] => { results := [.lit (.bool true)], args := [d1, d2, d3, d4, d5, d6, d7, d8] }
  | _ => none }
def topCentreRow : OpenClaim := { program := "ytfpfafijockfnaa", sum := "28a9ef114f9590f107eb02f35909440ae5914fafc5ba401fa03149c9a24e5d82", func := "pencilworks/pencilworkstop.TopCentre", spec := "topCentre", unfollowed := true, recurses := true, plainKeys := false, apart := false }
def TopCentreSaid : Prop := topCentreRow.holds Try.pinned (OpenSpec.ofChange topCentreSpec)

/-- ITS FALSE NEIGHBOUR: 'it returns false'. Refute it at one input. -/
def topCentreWrong : ChangeSpec := { name := "topCentre", fn := fun _ => fun
  | [d1, d2, d3, d4, d5, d6, d7, d8] => { results := [.lit (.bool false)], args := [d1, d2, d3, d4, d5, d6, d7, d8] }
  | _ => none }
def TopCentreWrongFalsely : Prop := topCentreRow.holds Try.pinned (OpenSpec.ofChange topCentreWrong)

/- THE SECOND FORM. 'bulk': how many values and letters a reading holds, each counted each time it is reached (what is shared counts as often as it is met; a slice's spare places count too). A statement '..UptoSaid' is the law's where the arguments, and the package variables that the reading takes, are together of bulk at most 1048576: NARROWER than '..Said'. Prove '..Said' where nothing that the law and all that it calls make is longer than what came in: it says more and counts as full. Else prove '..UptoSaid'. A law counts once. -/
mutual
def uptoBulk {H : Type} : DataW H → Nat
  | .lit (.string bytes) => bytes.length + 1
  | .lit _ => 1
  | .nil => 1
  | .ptr d => uptoBulk d + 1
  | .slice elems spare => uptoBulkAll elems + uptoBulkAll spare + 1
  | .agg parts => uptoBulkAll parts + 1
  | .iface _ d => uptoBulk d + 1
  | .map entries => uptoBulkEntries entries + 1
  | .held _ => 1
def uptoBulkAll {H : Type} : List (DataW H) → Nat
  | [] => 0
  | d :: r => uptoBulk d + uptoBulkAll r
def uptoBulkEntries {H : Type} : List (Lit × DataW H) → Nat
  | [] => 0
  | x :: r => uptoBulkEntry x + uptoBulkEntries r
def uptoBulkEntry {H : Type} : Lit × DataW H → Nat
  | (.string bytes, d) => bytes.length + uptoBulk d + 1
  | (_, d) => uptoBulk d + 1
 end
def uptoSmall : (H : Type) → List (DataW H) → Bool := fun _ ds => decide (uptoBulkAll ds ≤ 1048576)
def OpenSpec.upto (s : _root_.Go.ChangeSpec) : _root_.Go.OpenSpec := { _root_.Go.OpenSpec.ofChange s with cond := some uptoSmall }

/-- 'pencilworkslaw05.SlatPairs', WHERE WHAT IT READS IS OF BULK AT MOST 1048576: true; the input reads as it did. -/
def slatPairsUptoRow : OpenClaim := { program := "ytfpfafijockfnaa", sum := "28a9ef114f9590f107eb02f35909440ae5914fafc5ba401fa03149c9a24e5d82", func := "pencilworks/pencilworkslaw05.SlatPairs", spec := "slatPairs", unfollowed := true, recurses := true, plainKeys := false, apart := false, narrowed := true }
def SlatPairsUptoSaid : Prop := slatPairsUptoRow.holds Try.pinned (OpenSpec.upto slatPairsSpec)

/-- 'pencilworkslaw05.SlatNames', WHERE WHAT IT READS IS OF BULK AT MOST 1048576: true; the input reads as it did. -/
def slatNamesUptoRow : OpenClaim := { program := "ytfpfafijockfnaa", sum := "28a9ef114f9590f107eb02f35909440ae5914fafc5ba401fa03149c9a24e5d82", func := "pencilworks/pencilworkslaw05.SlatNames", spec := "slatNames", unfollowed := true, recurses := true, plainKeys := false, apart := false, narrowed := true }
def SlatNamesUptoSaid : Prop := slatNamesUptoRow.holds Try.pinned (OpenSpec.upto slatNamesSpec)

/-- 'pencilworkslaw05.SlatTrue', WHERE WHAT IT READS IS OF BULK AT MOST 1048576: true; the input reads as it did. -/
def slatTrueUptoRow : OpenClaim := { program := "ytfpfafijockfnaa", sum := "28a9ef114f9590f107eb02f35909440ae5914fafc5ba401fa03149c9a24e5d82", func := "pencilworks/pencilworkslaw05.SlatTrue", spec := "slatTrue", unfollowed := true, recurses := true, plainKeys := false, apart := false, narrowed := true }
def SlatTrueUptoSaid : Prop := slatTrueUptoRow.holds Try.pinned (OpenSpec.upto slatTrueSpec)

/-- 'pencilworkslaw05.SlatEnds', WHERE WHAT IT READS IS OF BULK AT MOST 1048576: true; the input reads as it did. -/
def slatEndsUptoRow : OpenClaim := { program := "ytfpfafijockfnaa", sum := "28a9ef114f9590f107eb02f35909440ae5914fafc5ba401fa03149c9a24e5d82", func := "pencilworks/pencilworkslaw05.SlatEnds", spec := "slatEnds", unfollowed := true, recurses := true, plainKeys := false, apart := false, narrowed := true }
def SlatEndsUptoSaid : Prop := slatEndsUptoRow.holds Try.pinned (OpenSpec.upto slatEndsSpec)

/-- 'pencilworkslaw05.SlatBest', WHERE WHAT IT READS IS OF BULK AT MOST 1048576: true; the input reads as it did. -/
def slatBestUptoRow : OpenClaim := { program := "ytfpfafijockfnaa", sum := "28a9ef114f9590f107eb02f35909440ae5914fafc5ba401fa03149c9a24e5d82", func := "pencilworks/pencilworkslaw05.SlatBest", spec := "slatBest", unfollowed := true, recurses := true, plainKeys := false, apart := false, narrowed := true }
def SlatBestUptoSaid : Prop := slatBestUptoRow.holds Try.pinned (OpenSpec.upto slatBestSpec)

/-- 'pencilworkslaw05.SlatTune', WHERE WHAT IT READS IS OF BULK AT MOST 1048576: true; the input reads as it did. -/
def slatTuneUptoRow : OpenClaim := { program := "ytfpfafijockfnaa", sum := "28a9ef114f9590f107eb02f35909440ae5914fafc5ba401fa03149c9a24e5d82", func := "pencilworks/pencilworkslaw05.SlatTune", spec := "slatTune", unfollowed := true, recurses := true, plainKeys := false, apart := false, narrowed := true }
def SlatTuneUptoSaid : Prop := slatTuneUptoRow.holds Try.pinned (OpenSpec.upto slatTuneSpec)

/-- 'pencilworkslaw05.SlatMore', WHERE WHAT IT READS IS OF BULK AT MOST 1048576: true; the input reads as it did. -/
def slatMoreUptoRow : OpenClaim := { program := "ytfpfafijockfnaa", sum := "28a9ef114f9590f107eb02f35909440ae5914fafc5ba401fa03149c9a24e5d82", func := "pencilworks/pencilworkslaw05.SlatMore", spec := "slatMore", unfollowed := true, recurses := true, plainKeys := false, apart := false, narrowed := true }
def SlatMoreUptoSaid : Prop := slatMoreUptoRow.holds Try.pinned (OpenSpec.upto slatMoreSpec)

/-- 'pencilworkslaw05.SlatOwns', WHERE WHAT IT READS IS OF BULK AT MOST 1048576: true; the input reads as it did. -/
def slatOwnsUptoRow : OpenClaim := { program := "ytfpfafijockfnaa", sum := "28a9ef114f9590f107eb02f35909440ae5914fafc5ba401fa03149c9a24e5d82", func := "pencilworks/pencilworkslaw05.SlatOwns", spec := "slatOwns", unfollowed := true, recurses := true, plainKeys := false, apart := false, narrowed := true }
def SlatOwnsUptoSaid : Prop := slatOwnsUptoRow.holds Try.pinned (OpenSpec.upto slatOwnsSpec)

/-- 'pencilworkstop.TopCentre', WHERE WHAT IT READS IS OF BULK AT MOST 1048576: true; the input reads as it did. -/
def topCentreUptoRow : OpenClaim := { program := "ytfpfafijockfnaa", sum := "28a9ef114f9590f107eb02f35909440ae5914fafc5ba401fa03149c9a24e5d82", func := "pencilworks/pencilworkstop.TopCentre", spec := "topCentre", unfollowed := true, recurses := true, plainKeys := false, apart := false, narrowed := true }
def TopCentreUptoSaid : Prop := topCentreUptoRow.holds Try.pinned (OpenSpec.upto topCentreSpec)

end Rows
end Go.Proofs.Ytfpfafijockfnaa
