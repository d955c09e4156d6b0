/-
  No cell of these rows narrows 'for every input' (looked for: loops, veiled, ifaces, maps, wideKeys, modest, calm, conditions, laid).
  DERIVED. THE GIVEN ROWS OF THIS SEAT. 5 by the template 'for every input the law returns true; each argument reads behind the call as it read before'; 0 by the template 'total and deterministic' (their statements: YtlcbmgbnhjgelaaGreatTotals.lean).
  GIVEN WITH THE SEED: the statements are not yours to turn. If you find one false, say at which input.
  Laid BY PROGRAM, IN A SANDBOX (cutbox-rows.mjs): the forced cells as the released guide's own fill.sh prints them over the translation c6a7ee52bfeb9065… (all of the seat's roots in one cut). By AI agents, Wed Nov 11 2026. No macro, syntax, notation, axiom, sorry.
-/
import Derived.Test.YtlcbmgbnhjgelaaGreatChecked
import GoSem.Claim
import GoSem.ClaimJoined
import GoSem.ClaimMapViews
import Derived.JoinedTies
import Derived.KernelRfl
namespace Go.Proofs.YtlcbmgbnhjgelaaGreat
/- THE CELL 'sum', in the pinned program and in every row, IS THE sha256 OF THE DUMP (.gsa) THAT YtlcbmgbnhjgelaaGreatProg.lean LOADS. Nothing in Lean hashes anything: it is a label: what it is worth is what the hold of that sum in a sandbox is worth. -/
noncomputable def Tryz.pinned : Pinned := { name := "ytlcbmgbnhjgelaagreat", sum := "c6a7ee52bfeb906519f636e82cc44fdabcb04bfbb8454d9ddf14e9cc7fb849d9", checked := Tryz.checked }
namespace Rows
def none {H : Type} : Left H := { results := [], args := [] }

/-- 'calliopelaw13.CodeFrames': WHATEVER THE INPUT: true; the input reads as it did. -/
def codeFramesSpec : ChangeSpec := { name := "codeFrames", fn := fun _ => fun
  | [d1, d2] => { results := [.lit (.bool true)], args := [d1, d2] }
  | _ => none }
def codeFramesRow : OpenClaim := { program := "ytlcbmgbnhjgelaagreat", sum := "c6a7ee52bfeb906519f636e82cc44fdabcb04bfbb8454d9ddf14e9cc7fb849d9", func := "calliope/calliopelaw13.CodeFrames", spec := "codeFrames", unfollowed := true, recurses := true, apart := false }
def CodeFramesSaid : Prop := codeFramesRow.holds Tryz.pinned (OpenSpec.ofChange codeFramesSpec)

/-- ITS FALSE NEIGHBOUR: 'it returns false'. Refute it at one input. -/
def codeFramesWrong : ChangeSpec := { name := "codeFrames", fn := fun _ => fun
  | [d1, d2] => { results := [.lit (.bool false)], args := [d1, d2] }
  | _ => none }
def CodeFramesWrongFalsely : Prop := codeFramesRow.holds Tryz.pinned (OpenSpec.ofChange codeFramesWrong)

/-- 'calliopelaw13.CodeExact': WHATEVER THE INPUT: true; the input reads as it did. -/
def codeExactSpec : ChangeSpec := { name := "codeExact", fn := fun _ => fun
  | [d1, d2] => { results := [.lit (.bool true)], args := [d1, d2] }
  | _ => none }
def codeExactRow : OpenClaim := { program := "ytlcbmgbnhjgelaagreat", sum := "c6a7ee52bfeb906519f636e82cc44fdabcb04bfbb8454d9ddf14e9cc7fb849d9", func := "calliope/calliopelaw13.CodeExact", spec := "codeExact", unfollowed := true, recurses := true, apart := false }
def CodeExactSaid : Prop := codeExactRow.holds Tryz.pinned (OpenSpec.ofChange codeExactSpec)

/-- ITS FALSE NEIGHBOUR: 'it returns false'. Refute it at one input. -/
def codeExactWrong : ChangeSpec := { name := "codeExact", fn := fun _ => fun
  | [d1, d2] => { results := [.lit (.bool false)], args := [d1, d2] }
  | _ => none }
def CodeExactWrongFalsely : Prop := codeExactRow.holds Tryz.pinned (OpenSpec.ofChange codeExactWrong)

/-- 'calliopelaw13.CodeSamples': WHATEVER THE INPUT: true; the input reads as it did. -/
def codeSamplesSpec : ChangeSpec := { name := "codeSamples", fn := fun _ => fun
  | [d1, d2] => { results := [.lit (.bool true)], args := [d1, d2] }
  | _ => none }
def codeSamplesRow : OpenClaim := { program := "ytlcbmgbnhjgelaagreat", sum := "c6a7ee52bfeb906519f636e82cc44fdabcb04bfbb8454d9ddf14e9cc7fb849d9", func := "calliope/calliopelaw13.CodeSamples", spec := "codeSamples", unfollowed := true, recurses := true, apart := false }
def CodeSamplesSaid : Prop := codeSamplesRow.holds Tryz.pinned (OpenSpec.ofChange codeSamplesSpec)

/-- ITS FALSE NEIGHBOUR: 'it returns false'. Refute it at one input. -/
def codeSamplesWrong : ChangeSpec := { name := "codeSamples", fn := fun _ => fun
  | [d1, d2] => { results := [.lit (.bool false)], args := [d1, d2] }
  | _ => none }
def CodeSamplesWrongFalsely : Prop := codeSamplesRow.holds Tryz.pinned (OpenSpec.ofChange codeSamplesWrong)

/-- 'calliopelaw13.CodeRefuses': WHATEVER THE INPUT: true; the input reads as it did. -/
def codeRefusesSpec : ChangeSpec := { name := "codeRefuses", fn := fun _ => fun
  | [d1, d2] => { results := [.lit (.bool true)], args := [d1, d2] }
  | _ => none }
def codeRefusesRow : OpenClaim := { program := "ytlcbmgbnhjgelaagreat", sum := "c6a7ee52bfeb906519f636e82cc44fdabcb04bfbb8454d9ddf14e9cc7fb849d9", func := "calliope/calliopelaw13.CodeRefuses", spec := "codeRefuses", unfollowed := true, recurses := true, apart := false }
def CodeRefusesSaid : Prop := codeRefusesRow.holds Tryz.pinned (OpenSpec.ofChange codeRefusesSpec)

/-- ITS FALSE NEIGHBOUR: 'it returns false'. Refute it at one input. -/
def codeRefusesWrong : ChangeSpec := { name := "codeRefuses", fn := fun _ => fun
  | [d1, d2] => { results := [.lit (.bool false)], args := [d1, d2] }
  | _ => none }
def CodeRefusesWrongFalsely : Prop := codeRefusesRow.holds Tryz.pinned (OpenSpec.ofChange codeRefusesWrong)

/-- 'calliopelaw13.CodeFar': WHATEVER THE INPUT: true; the input reads as it did. -/
def codeFarSpec : ChangeSpec := { name := "codeFar", fn := fun _ => fun
  | [d1, d2, d3] => { results := [.lit (.bool true)], args := [d1, d2, d3] }
  | _ => none }
def codeFarRow : OpenClaim := { program := "ytlcbmgbnhjgelaagreat", sum := "c6a7ee52bfeb906519f636e82cc44fdabcb04bfbb8454d9ddf14e9cc7fb849d9", func := "calliope/calliopelaw13.CodeFar", spec := "codeFar", unfollowed := true, recurses := true, apart := false }
def CodeFarSaid : Prop := codeFarRow.holds Tryz.pinned (OpenSpec.ofChange codeFarSpec)

/-- ITS FALSE NEIGHBOUR: 'it returns false'. Refute it at one input. -/
def codeFarWrong : ChangeSpec := { name := "codeFar", fn := fun _ => fun
  | [d1, d2, d3] => { results := [.lit (.bool false)], args := [d1, d2, d3] }
  | _ => none }
def CodeFarWrongFalsely : Prop := codeFarRow.holds Tryz.pinned (OpenSpec.ofChange codeFarWrong)

/- THE SECOND FORM. 'bulk': how many values and letters a reading holds, each counted each time it is reached (what is shared counts as often as it is met; a slice's spare places count too). A statement '..UptoSaid' is the law's where the arguments, and the package variables that the reading takes, are together of bulk at most 1048576: NARROWER than '..Said'. Prove '..Said' where nothing that the law and all that it calls make is longer than what came in: it says more and counts as full. Else prove '..UptoSaid'. A law counts once. -/
mutual
def uptoBulk {H : Type} : DataW H → Nat
  | .lit (.string bytes) => bytes.length + 1
  | .lit _ => 1
  | .nil => 1
  | .ptr d => uptoBulk d + 1
  | .slice elems spare => uptoBulkAll elems + uptoBulkAll spare + 1
  | .agg parts => uptoBulkAll parts + 1
  | .iface _ d => uptoBulk d + 1
  | .map entries => uptoBulkEntries entries + 1
  | .held _ => 1
def uptoBulkAll {H : Type} : List (DataW H) → Nat
  | [] => 0
  | d :: r => uptoBulk d + uptoBulkAll r
def uptoBulkEntries {H : Type} : List (Lit × DataW H) → Nat
  | [] => 0
  | x :: r => uptoBulkEntry x + uptoBulkEntries r
def uptoBulkEntry {H : Type} : Lit × DataW H → Nat
  | (.string bytes, d) => bytes.length + uptoBulk d + 1
  | (_, d) => uptoBulk d + 1
 end
def uptoSmall : (H : Type) → List (DataW H) → Bool := fun _ ds => decide (uptoBulkAll ds ≤ 1048576)
def OpenSpec.upto (s : _root_.Go.ChangeSpec) : _root_.Go.OpenSpec := { _root_.Go.OpenSpec.ofChange s with cond := some uptoSmall }

/-- 'calliopelaw13.CodeFrames', WHERE WHAT IT READS IS OF BULK AT MOST 1048576: true; the input reads as it did. -/
def codeFramesUptoRow : OpenClaim := { program := "ytlcbmgbnhjgelaagreat", sum := "c6a7ee52bfeb906519f636e82cc44fdabcb04bfbb8454d9ddf14e9cc7fb849d9", func := "calliope/calliopelaw13.CodeFrames", spec := "codeFrames", unfollowed := true, recurses := true, apart := false, narrowed := true }
def CodeFramesUptoSaid : Prop := codeFramesUptoRow.holds Tryz.pinned (OpenSpec.upto codeFramesSpec)

/-- 'calliopelaw13.CodeExact', WHERE WHAT IT READS IS OF BULK AT MOST 1048576: true; the input reads as it did. -/
def codeExactUptoRow : OpenClaim := { program := "ytlcbmgbnhjgelaagreat", sum := "c6a7ee52bfeb906519f636e82cc44fdabcb04bfbb8454d9ddf14e9cc7fb849d9", func := "calliope/calliopelaw13.CodeExact", spec := "codeExact", unfollowed := true, recurses := true, apart := false, narrowed := true }
def CodeExactUptoSaid : Prop := codeExactUptoRow.holds Tryz.pinned (OpenSpec.upto codeExactSpec)

/-- 'calliopelaw13.CodeSamples', WHERE WHAT IT READS IS OF BULK AT MOST 1048576: true; the input reads as it did. -/
def codeSamplesUptoRow : OpenClaim := { program := "ytlcbmgbnhjgelaagreat", sum := "c6a7ee52bfeb906519f636e82cc44fdabcb04bfbb8454d9ddf14e9cc7fb849d9", func := "calliope/calliopelaw13.CodeSamples", spec := "codeSamples", unfollowed := true, recurses := true, apart := false, narrowed := true }
def CodeSamplesUptoSaid : Prop := codeSamplesUptoRow.holds Tryz.pinned (OpenSpec.upto codeSamplesSpec)

/-- 'calliopelaw13.CodeRefuses', WHERE WHAT IT READS IS OF BULK AT MOST 1048576: true; the input reads as it did. -/
def codeRefusesUptoRow : OpenClaim := { program := "ytlcbmgbnhjgelaagreat", sum := "c6a7ee52bfeb906519f636e82cc44fdabcb04bfbb8454d9ddf14e9cc7fb849d9", func := "calliope/calliopelaw13.CodeRefuses", spec := "codeRefuses", unfollowed := true, recurses := true, apart := false, narrowed := true }
def CodeRefusesUptoSaid : Prop := codeRefusesUptoRow.holds Tryz.pinned (OpenSpec.upto codeRefusesSpec)

/-- 'calliopelaw13.CodeFar', WHERE WHAT IT READS IS OF BULK AT MOST 1048576: true; the input reads as it did. -/
def codeFarUptoRow : OpenClaim := { program := "ytlcbmgbnhjgelaagreat", sum := "c6a7ee52bfeb906519f636e82cc44fdabcb04bfbb8454d9ddf14e9cc7fb849d9", func := "calliope/calliopelaw13.CodeFar", spec := "codeFar", unfollowed := true, recurses := true, apart := false, narrowed := true }
def CodeFarUptoSaid : Prop := codeFarUptoRow.holds Tryz.pinned (OpenSpec.upto codeFarSpec)

end Rows
end Go.Proofs.YtlcbmgbnhjgelaaGreat
