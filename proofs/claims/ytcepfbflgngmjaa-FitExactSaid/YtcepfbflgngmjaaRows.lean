/-
  No cell of these rows narrows 'for every input' (looked for: loops, veiled, ifaces, maps, wideKeys, modest, calm, conditions, laid).
  DERIVED. THE GIVEN ROWS OF THIS SEAT. 3 by the template 'for every input the law returns true; each argument reads behind the call as it read before'; 0 by the template 'total and deterministic' (their statements: YtcepfbflgngmjaaTotals.lean).
  GIVEN WITH THE SEED: the statements are not yours to turn. If you find one false, say at which input.
  Laid BY PROGRAM, IN A SANDBOX (cutbox-rows.mjs): the forced cells as the released guide's own fill.sh prints them over the translation 7f18e1e97426e6b5… (all of the seat's roots in one cut). By AI agents, Wed Nov 11 2026. No macro, syntax, notation, axiom, sorry.
-/
import Derived.Test.YtcepfbflgngmjaaChecked
import GoSem.Claim
import GoSem.ClaimJoined
import GoSem.ClaimMapViews
import Derived.JoinedTies
import Derived.KernelRfl
namespace Go.Proofs.Ytcepfbflgngmjaa
/- THE CELL 'sum', in the pinned program and in every row, IS THE sha256 OF THE DUMP (.gsa) THAT YtcepfbflgngmjaaProg.lean LOADS. Nothing in Lean hashes anything: it is a label: what it is worth is what the hold of that sum in a sandbox is worth. -/
noncomputable def Try.pinned : Pinned := { name := "ytcepfbflgngmjaa", sum := "7f18e1e97426e6b5217a1bbc84bbb9d8a68dec2e9fe2a1a46d3d853da0f57440", checked := Try.checked }
namespace Rows
def none {H : Type} : Left H := { results := [], args := [] }

/-- 'calliopelaw12.FitSearches': WHATEVER THE INPUT: true; the input reads as it did. -/
def fitSearchesSpec : ChangeSpec := { name := "fitSearches", fn := fun _ => fun
  | [d1, d2, d3, d4] => { results := [.lit (.bool true)], args := [d1, d2, d3, d4] }
  | _ => none }
def fitSearchesRow : OpenClaim := { program := "ytcepfbflgngmjaa", sum := "7f18e1e97426e6b5217a1bbc84bbb9d8a68dec2e9fe2a1a46d3d853da0f57440", func := "calliope/calliopelaw12.FitSearches", spec := "fitSearches", unfollowed := true, recurses := true, apart := false }
def FitSearchesSaid : Prop := fitSearchesRow.holds Try.pinned (OpenSpec.ofChange fitSearchesSpec)

/-- ITS FALSE NEIGHBOUR: 'it returns false'. Refute it at one input. -/
def fitSearchesWrong : ChangeSpec := { name := "fitSearches", fn := fun _ => fun
  | [d1, d2, d3, d4] => { results := [.lit (.bool false)], args := [d1, d2, d3, d4] }
  | _ => none }
def FitSearchesWrongFalsely : Prop := fitSearchesRow.holds Try.pinned (OpenSpec.ofChange fitSearchesWrong)

/-- 'calliopelaw12.FitFrames': WHATEVER THE INPUT: true; the input reads as it did. -/
def fitFramesSpec : ChangeSpec := { name := "fitFrames", fn := fun _ => fun
  | [d1, d2, d3] => { results := [.lit (.bool true)], args := [d1, d2, d3] }
  | _ => none }
def fitFramesRow : OpenClaim := { program := "ytcepfbflgngmjaa", sum := "7f18e1e97426e6b5217a1bbc84bbb9d8a68dec2e9fe2a1a46d3d853da0f57440", func := "calliope/calliopelaw12.FitFrames", spec := "fitFrames", unfollowed := true, recurses := true, apart := false }
def FitFramesSaid : Prop := fitFramesRow.holds Try.pinned (OpenSpec.ofChange fitFramesSpec)

/-- ITS FALSE NEIGHBOUR: 'it returns false'. Refute it at one input. -/
def fitFramesWrong : ChangeSpec := { name := "fitFrames", fn := fun _ => fun
  | [d1, d2, d3] => { results := [.lit (.bool false)], args := [d1, d2, d3] }
  | _ => none }
def FitFramesWrongFalsely : Prop := fitFramesRow.holds Try.pinned (OpenSpec.ofChange fitFramesWrong)

/-- 'calliopelaw12.FitExact': WHATEVER THE INPUT: true; the input reads as it did. -/
def fitExactSpec : ChangeSpec := { name := "fitExact", fn := fun _ => fun
  | [d1, d2, d3] => { results := [.lit (.bool true)], args := [d1, d2, d3] }
  | _ => none }
def fitExactRow : OpenClaim := { program := "ytcepfbflgngmjaa", sum := "7f18e1e97426e6b5217a1bbc84bbb9d8a68dec2e9fe2a1a46d3d853da0f57440", func := "calliope/calliopelaw12.FitExact", spec := "fitExact", unfollowed := true, recurses := true, apart := false }
def FitExactSaid : Prop := fitExactRow.holds Try.pinned (OpenSpec.ofChange fitExactSpec)

/-- ITS FALSE NEIGHBOUR: 'it returns false'. Refute it at one input. -/
def fitExactWrong : ChangeSpec := { name := "fitExact", fn := fun _ => fun
  | [d1, d2, d3] => { results := [.lit (.bool false)], args := [d1, d2, d3] }
  | _ => none }
def FitExactWrongFalsely : Prop := fitExactRow.holds Try.pinned (OpenSpec.ofChange fitExactWrong)

/- THE SECOND FORM. 'bulk': how many values and letters a reading holds, each counted each time it is reached (what is shared counts as often as it is met; a slice's spare places count too). A statement '..UptoSaid' is the law's where the arguments, and the package variables that the reading takes, are together of bulk at most 1048576: NARROWER than '..Said'. Prove '..Said' where nothing that the law and all that it calls make is longer than what came in: it says more and counts as full. Else prove '..UptoSaid'. A law counts once. -/
mutual
def uptoBulk {H : Type} : DataW H → Nat
  | .lit (.string bytes) => bytes.length + 1
  | .lit _ => 1
  | .nil => 1
  | .ptr d => uptoBulk d + 1
  | .slice elems spare => uptoBulkAll elems + uptoBulkAll spare + 1
  | .agg parts => uptoBulkAll parts + 1
  | .iface _ d => uptoBulk d + 1
  | .map entries => uptoBulkEntries entries + 1
  | .held _ => 1
def uptoBulkAll {H : Type} : List (DataW H) → Nat
  | [] => 0
  | d :: r => uptoBulk d + uptoBulkAll r
def uptoBulkEntries {H : Type} : List (Lit × DataW H) → Nat
  | [] => 0
  | x :: r => uptoBulkEntry x + uptoBulkEntries r
def uptoBulkEntry {H : Type} : Lit × DataW H → Nat
  | (.string bytes, d) => bytes.length + uptoBulk d + 1
  | (_, d) => uptoBulk d + 1
 end
def uptoSmall : (H : Type) → List (DataW H) → Bool := fun _ ds => decide (uptoBulkAll ds ≤ 1048576)
def OpenSpec.upto (s : _root_.Go.ChangeSpec) : _root_.Go.OpenSpec := { _root_.Go.OpenSpec.ofChange s with cond := some uptoSmall }

/-- 'calliopelaw12.FitSearches', WHERE WHAT IT READS IS OF BULK AT MOST 1048576: true; the input reads as it did. -/
def fitSearchesUptoRow : OpenClaim := { program := "ytcepfbflgngmjaa", sum := "7f18e1e97426e6b5217a1bbc84bbb9d8a68dec2e9fe2a1a46d3d853da0f57440", func := "calliope/calliopelaw12.FitSearches", spec := "fitSearches", unfollowed := true, recurses := true, apart := false, narrowed := true }
def FitSearchesUptoSaid : Prop := fitSearchesUptoRow.holds Try.pinned (OpenSpec.upto fitSearchesSpec)

/-- 'calliopelaw12.FitFrames', WHERE WHAT IT READS IS OF BULK AT MOST 1048576: true; the input reads as it did. -/
def fitFramesUptoRow : OpenClaim := { program := "ytcepfbflgngmjaa", sum := "7f18e1e97426e6b5217a1bbc84bbb9d8a68dec2e9fe2a1a46d3d853da0f57440", func := "calliope/calliopelaw12.FitFrames", spec := "fitFrames", unfollowed := true, recurses := true, apart := false, narrowed := true }
def FitFramesUptoSaid : Prop := fitFramesUptoRow.holds Try.pinned (OpenSpec.upto fitFramesSpec)

/-- 'calliopelaw12.FitExact', WHERE WHAT IT READS IS OF BULK AT MOST 1048576: true; the input reads as it did. -/
def fitExactUptoRow : OpenClaim := { program := "ytcepfbflgngmjaa", sum := "7f18e1e97426e6b5217a1bbc84bbb9d8a68dec2e9fe2a1a46d3d853da0f57440", func := "calliope/calliopelaw12.FitExact", spec := "fitExact", unfollowed := true, recurses := true, apart := false, narrowed := true }
def FitExactUptoSaid : Prop := fitExactUptoRow.holds Try.pinned (OpenSpec.upto fitExactSpec)

end Rows
end Go.Proofs.Ytcepfbflgngmjaa
