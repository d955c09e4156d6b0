/-
  No cell of these rows narrows 'for every input' (looked for: loops, veiled, ifaces, maps, wideKeys, modest, calm, conditions, laid).
  DERIVED. THE GIVEN ROWS OF THIS SEAT. 3 by the template 'for every input the law returns true; each argument reads behind the call as it read before'; 0 by the template 'total and deterministic' (their statements: YteihhpionhllfaaTotals.lean).
  GIVEN WITH THE SEED: the statements are not yours to turn. If you find one false, say at which input.
  Laid BY PROGRAM, IN A SANDBOX (cutbox-rows.mjs): the forced cells as the released guide's own fill.sh prints them over the translation e6f9bf03691c01ba… (all of the seat's roots in one cut). By AI agents, Wed Nov 11 2026. No macro, syntax, notation, axiom, sorry.
-/
import Derived.Test.YteihhpionhllfaaChecked
import GoSem.Claim
import GoSem.ClaimJoined
import GoSem.ClaimMapViews
import Derived.JoinedTies
import Derived.KernelRfl
namespace Go.Proofs.Yteihhpionhllfaa
/- THE CELL 'sum', in the pinned program and in every row, IS THE sha256 OF THE DUMP (.gsa) THAT YteihhpionhllfaaProg.lean LOADS. Nothing in Lean hashes anything: it is a label: what it is worth is what the hold of that sum in a sandbox is worth. -/
noncomputable def Try.pinned : Pinned := { name := "yteihhpionhllfaa", sum := "e6f9bf03691c01ba24004d315b4353b55982df4419fc5b4bc62e5faa11bd039b", checked := Try.checked }
namespace Rows
def none {H : Type} : Left H := { results := [], args := [] }

/-- 'calliopelaw11.ToneIs': WHATEVER THE INPUT: true; the input reads as it did. -/
def toneIsSpec : ChangeSpec := { name := "toneIs", fn := fun _ => fun
  | [d1, d2] => { results := [.lit (.bool true)], args := [d1, d2] }
  | _ => none }
def toneIsRow : OpenClaim := { program := "yteihhpionhllfaa", sum := "e6f9bf03691c01ba24004d315b4353b55982df4419fc5b4bc62e5faa11bd039b", func := "calliope/calliopelaw11.ToneIs", spec := "toneIs", unfollowed := true, recurses := true, apart := false }
def ToneIsSaid : Prop := toneIsRow.holds Try.pinned (OpenSpec.ofChange toneIsSpec)

/-- ITS FALSE NEIGHBOUR: 'it returns false'. Refute it at one input. -/
def toneIsWrong : ChangeSpec := { name := "toneIs", fn := fun _ => fun
  | [d1, d2] => { results := [.lit (.bool false)], args := [d1, d2] }
  | _ => none }
def ToneIsWrongFalsely : Prop := toneIsRow.holds Try.pinned (OpenSpec.ofChange toneIsWrong)

/-- 'calliopelaw11.ToneFinds': WHATEVER THE INPUT: true; the input reads as it did. -/
def toneFindsSpec : ChangeSpec := { name := "toneFinds", fn := fun _ => fun
  | [d] => { results := [.lit (.bool true)], args := [d] }
  | _ => none }
def toneFindsRow : OpenClaim := { program := "yteihhpionhllfaa", sum := "e6f9bf03691c01ba24004d315b4353b55982df4419fc5b4bc62e5faa11bd039b", func := "calliope/calliopelaw11.ToneFinds", spec := "toneFinds", unfollowed := true, recurses := true, apart := false }
def ToneFindsSaid : Prop := toneFindsRow.holds Try.pinned (OpenSpec.ofChange toneFindsSpec)

/-- ITS FALSE NEIGHBOUR: 'it returns false'. Refute it at one input. -/
def toneFindsWrong : ChangeSpec := { name := "toneFinds", fn := fun _ => fun
  | [d] => { results := [.lit (.bool false)], args := [d] }
  | _ => none }
def ToneFindsWrongFalsely : Prop := toneFindsRow.holds Try.pinned (OpenSpec.ofChange toneFindsWrong)

/-- 'calliopelaw11.ToneGone': WHATEVER THE INPUT: true; the input reads as it did. -/
def toneGoneSpec : ChangeSpec := { name := "toneGone", fn := fun _ => fun
  | [d] => { results := [.lit (.bool true)], args := [d] }
  | _ => none }
def toneGoneRow : OpenClaim := { program := "yteihhpionhllfaa", sum := "e6f9bf03691c01ba24004d315b4353b55982df4419fc5b4bc62e5faa11bd039b", func := "calliope/calliopelaw11.ToneGone", spec := "toneGone", unfollowed := true, recurses := true, apart := false }
def ToneGoneSaid : Prop := toneGoneRow.holds Try.pinned (OpenSpec.ofChange toneGoneSpec)

/-- ITS FALSE NEIGHBOUR: 'it returns false'. Refute it at one input. -/
def toneGoneWrong : ChangeSpec := { name := "toneGone", fn := fun _ => fun
  | [d] => { results := [.lit (.bool false)], args := [d] }
  | _ => none }
def ToneGoneWrongFalsely : Prop := toneGoneRow.holds Try.pinned (OpenSpec.ofChange toneGoneWrong)

/- THE SECOND FORM. 'bulk': how many values and letters a reading holds, each counted each time it is reached (what is shared counts as often as it is met; a slice's spare places count too). A statement '..UptoSaid' is the law's where the arguments, and the package variables that the reading takes, are together of bulk at most 1048576: NARROWER than '..Said'. Prove '..Said' where nothing that the law and all that it calls make is longer than what came in: it says more and counts as full. Else prove '..UptoSaid'. A law counts once. -/
mutual
def uptoBulk {H : Type} : DataW H → Nat
  | .lit (.string bytes) => bytes.length + 1
  | .lit _ => 1
  | .nil => 1
  | .ptr d => uptoBulk d + 1
  | .slice elems spare => uptoBulkAll elems + uptoBulkAll spare + 1
  | .agg parts => uptoBulkAll parts + 1
  | .iface _ d => uptoBulk d + 1
  | .map entries => uptoBulkEntries entries + 1
  | .held _ => 1
def uptoBulkAll {H : Type} : List (DataW H) → Nat
  | [] => 0
  | d :: r => uptoBulk d + uptoBulkAll r
def uptoBulkEntries {H : Type} : List (Lit × DataW H) → Nat
  | [] => 0
  | x :: r => uptoBulkEntry x + uptoBulkEntries r
def uptoBulkEntry {H : Type} : Lit × DataW H → Nat
  | (.string bytes, d) => bytes.length + uptoBulk d + 1
  | (_, d) => uptoBulk d + 1
 end
def uptoSmall : (H : Type) → List (DataW H) → Bool := fun _ ds => decide (uptoBulkAll ds ≤ 1048576)
def OpenSpec.upto (s : _root_.Go.ChangeSpec) : _root_.Go.OpenSpec := { _root_.Go.OpenSpec.ofChange s with cond := some uptoSmall }

/-- 'calliopelaw11.ToneIs', WHERE WHAT IT READS IS OF BULK AT MOST 1048576: true; the input reads as it did. -/
def toneIsUptoRow : OpenClaim := { program := "yteihhpionhllfaa", sum := "e6f9bf03691c01ba24004d315b4353b55982df4419fc5b4bc62e5faa11bd039b", func := "calliope/calliopelaw11.ToneIs", spec := "toneIs", unfollowed := true, recurses := true, apart := false, narrowed := true }
def ToneIsUptoSaid : Prop := toneIsUptoRow.holds Try.pinned (OpenSpec.upto toneIsSpec)

/-- 'calliopelaw11.ToneFinds', WHERE WHAT IT READS IS OF BULK AT MOST 1048576: true; the input reads as it did. -/
def toneFindsUptoRow : OpenClaim := { program := "yteihhpionhllfaa", sum := "e6f9bf03691c01ba24004d315b4353b55982df4419fc5b4bc62e5faa11bd039b", func := "calliope/calliopelaw11.ToneFinds", spec := "toneFinds", unfollowed := true, recurses := true, apart := false, narrowed := true }
def ToneFindsUptoSaid : Prop := toneFindsUptoRow.holds Try.pinned (OpenSpec.upto toneFindsSpec)

/-- 'calliopelaw11.ToneGone', WHERE WHAT IT READS IS OF BULK AT MOST 1048576: true; the input reads as it did. -/
def toneGoneUptoRow : OpenClaim := { program := "yteihhpionhllfaa", sum := "e6f9bf03691c01ba24004d315b4353b55982df4419fc5b4bc62e5faa11bd039b", func := "calliope/calliopelaw11.ToneGone", spec := "toneGone", unfollowed := true, recurses := true, apart := false, narrowed := true }
def ToneGoneUptoSaid : Prop := toneGoneUptoRow.holds Try.pinned (OpenSpec.upto toneGoneSpec)

end Rows
end Go.Proofs.Yteihhpionhllfaa
