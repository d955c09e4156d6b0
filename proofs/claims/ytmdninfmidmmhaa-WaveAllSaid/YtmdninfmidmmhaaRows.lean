/-
  No cell of these rows narrows 'for every input' (looked for: loops, veiled, ifaces, maps, wideKeys, modest, calm, conditions, laid).
  DERIVED. THE GIVEN ROWS OF THIS SEAT. 3 by the template 'for every input the law returns true; each argument reads behind the call as it read before'; 0 by the template 'total and deterministic' (their statements: YtmdninfmidmmhaaTotals.lean).
  GIVEN WITH THE SEED: the statements are not yours to turn. If you find one false, say at which input.
  Laid BY PROGRAM, IN A SANDBOX (cutbox-rows.mjs): the forced cells as the released guide's own fill.sh prints them over the translation e911901a19fef971… (all of the seat's roots in one cut). By AI agents, Wed Nov 11 2026. No macro, syntax, notation, axiom, sorry.
-/
import Derived.Test.YtmdninfmidmmhaaChecked
import GoSem.Claim
import GoSem.ClaimJoined
import GoSem.ClaimMapViews
import Derived.JoinedTies
import Derived.KernelRfl
namespace Go.Proofs.Ytmdninfmidmmhaa
/- THE CELL 'sum', in the pinned program and in every row, IS THE sha256 OF THE DUMP (.gsa) THAT YtmdninfmidmmhaaProg.lean LOADS. Nothing in Lean hashes anything: it is a label: what it is worth is what the hold of that sum in a sandbox is worth. -/
noncomputable def Try.pinned : Pinned := { name := "ytmdninfmidmmhaa", sum := "e911901a19fef97129fd7c2e652b6a502e8bba69bb13140f1b563dd526576498", checked := Try.checked }
namespace Rows
def none {H : Type} : Left H := { results := [], args := [] }

/-- 'calliopelaw14.WaveChecks': WHATEVER THE INPUT: true; the input reads as it did. -/
def waveChecksSpec : ChangeSpec := { name := "waveChecks", fn := fun _ => fun
  | [d] => { results := [.lit (.bool true)], args := [d] }
  | _ => none }
def waveChecksRow : OpenClaim := { program := "ytmdninfmidmmhaa", sum := "e911901a19fef97129fd7c2e652b6a502e8bba69bb13140f1b563dd526576498", func := "calliope/calliopelaw14.WaveChecks", spec := "waveChecks", unfollowed := true, recurses := true, apart := false }
def WaveChecksSaid : Prop := waveChecksRow.holds Try.pinned (OpenSpec.ofChange waveChecksSpec)

/-- ITS FALSE NEIGHBOUR: 'it returns false'. Refute it at one input. -/
def waveChecksWrong : ChangeSpec := { name := "waveChecks", fn := fun _ => fun
  | [d] => { results := [.lit (.bool false)], args := [d] }
  | _ => none }
def WaveChecksWrongFalsely : Prop := waveChecksRow.holds Try.pinned (OpenSpec.ofChange waveChecksWrong)

/-- 'calliopelaw14.WaveMetas': WHATEVER THE INPUT: true; the input reads as it did. -/
def waveMetasSpec : ChangeSpec := { name := "waveMetas", fn := fun _ => fun
  | [d] => { results := [.lit (.bool true)], args := [d] }
  | _ => none }
def waveMetasRow : OpenClaim := { program := "ytmdninfmidmmhaa", sum := "e911901a19fef97129fd7c2e652b6a502e8bba69bb13140f1b563dd526576498", func := "calliope/calliopelaw14.WaveMetas", spec := "waveMetas", apart := false }
def WaveMetasSaid : Prop := waveMetasRow.holds Try.pinned (OpenSpec.ofChange waveMetasSpec)

/-- ITS FALSE NEIGHBOUR: 'it returns false'. Refute it at one input. -/
def waveMetasWrong : ChangeSpec := { name := "waveMetas", fn := fun _ => fun
  | [d] => { results := [.lit (.bool false)], args := [d] }
  | _ => none }
def WaveMetasWrongFalsely : Prop := waveMetasRow.holds Try.pinned (OpenSpec.ofChange waveMetasWrong)

/-- 'calliopelaw14.WaveAll': WHATEVER THE INPUT: true; the input reads as it did. -/
def waveAllSpec : ChangeSpec := { name := "waveAll", fn := fun _ => fun
  | [d] => { results := [.lit (.bool true)], args := [d] }
  | _ => none }
def waveAllRow : OpenClaim := { program := "ytmdninfmidmmhaa", sum := "e911901a19fef97129fd7c2e652b6a502e8bba69bb13140f1b563dd526576498", func := "calliope/calliopelaw14.WaveAll", spec := "waveAll", inPlace := ["internal/bytealg.abigen_runtime_cmpstring"], unfollowed := true, recurses := true, apart := false }
def WaveAllSaid : Prop := waveAllRow.holds Try.pinned (OpenSpec.ofChange waveAllSpec)

/-- ITS FALSE NEIGHBOUR: 'it returns false'. Refute it at one input. -/
def waveAllWrong : ChangeSpec := { name := "waveAll", fn := fun _ => fun
  | [d] => { results := [.lit (.bool false)], args := [d] }
  | _ => none }
def WaveAllWrongFalsely : Prop := waveAllRow.holds Try.pinned (OpenSpec.ofChange waveAllWrong)

/- THE SECOND FORM. 'bulk': how many values and letters a reading holds, each counted each time it is reached (what is shared counts as often as it is met; a slice's spare places count too). A statement '..UptoSaid' is the law's where the arguments, and the package variables that the reading takes, are together of bulk at most 1048576: NARROWER than '..Said'. Prove '..Said' where nothing that the law and all that it calls make is longer than what came in: it says more and counts as full. Else prove '..UptoSaid'. A law counts once. -/
mutual
def uptoBulk {H : Type} : DataW H → Nat
  | .lit (.string bytes) => bytes.length + 1
  | .lit _ => 1
  | .nil => 1
  | .ptr d => uptoBulk d + 1
  | .slice elems spare => uptoBulkAll elems + uptoBulkAll spare + 1
  | .agg parts => uptoBulkAll parts + 1
  | .iface _ d => uptoBulk d + 1
  | .map entries => uptoBulkEntries entries + 1
  | .held _ => 1
def uptoBulkAll {H : Type} : List (DataW H) → Nat
  | [] => 0
  | d :: r => uptoBulk d + uptoBulkAll r
def uptoBulkEntries {H : Type} : List (Lit × DataW H) → Nat
  | [] => 0
  | x :: r => uptoBulkEntry x + uptoBulkEntries r
def uptoBulkEntry {H : Type} : Lit × DataW H → Nat
  | (.string bytes, d) => bytes.length + uptoBulk d + 1
  | (_, d) => uptoBulk d + 1
 end
def uptoSmall : (H : Type) → List (DataW H) → Bool := fun _ ds => decide (uptoBulkAll ds ≤ 1048576)
def OpenSpec.upto (s : _root_.Go.ChangeSpec) : _root_.Go.OpenSpec := { _root_.Go.OpenSpec.ofChange s with cond := some uptoSmall }

/-- 'calliopelaw14.WaveChecks', WHERE WHAT IT READS IS OF BULK AT MOST 1048576: true; the input reads as it did. -/
def waveChecksUptoRow : OpenClaim := { program := "ytmdninfmidmmhaa", sum := "e911901a19fef97129fd7c2e652b6a502e8bba69bb13140f1b563dd526576498", func := "calliope/calliopelaw14.WaveChecks", spec := "waveChecks", unfollowed := true, recurses := true, apart := false, narrowed := true }
def WaveChecksUptoSaid : Prop := waveChecksUptoRow.holds Try.pinned (OpenSpec.upto waveChecksSpec)

/-- 'calliopelaw14.WaveMetas', WHERE WHAT IT READS IS OF BULK AT MOST 1048576: true; the input reads as it did. -/
def waveMetasUptoRow : OpenClaim := { program := "ytmdninfmidmmhaa", sum := "e911901a19fef97129fd7c2e652b6a502e8bba69bb13140f1b563dd526576498", func := "calliope/calliopelaw14.WaveMetas", spec := "waveMetas", apart := false, narrowed := true }
def WaveMetasUptoSaid : Prop := waveMetasUptoRow.holds Try.pinned (OpenSpec.upto waveMetasSpec)

/-- 'calliopelaw14.WaveAll', WHERE WHAT IT READS IS OF BULK AT MOST 1048576: true; the input reads as it did. -/
def waveAllUptoRow : OpenClaim := { program := "ytmdninfmidmmhaa", sum := "e911901a19fef97129fd7c2e652b6a502e8bba69bb13140f1b563dd526576498", func := "calliope/calliopelaw14.WaveAll", spec := "waveAll", inPlace := ["internal/bytealg.abigen_runtime_cmpstring"], unfollowed := true, recurses := true, apart := false, narrowed := true }
def WaveAllUptoSaid : Prop := waveAllUptoRow.holds Try.pinned (OpenSpec.upto waveAllSpec)

end Rows
end Go.Proofs.Ytmdninfmidmmhaa
