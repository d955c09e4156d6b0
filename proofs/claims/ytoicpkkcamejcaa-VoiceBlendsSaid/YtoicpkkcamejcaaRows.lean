/-
  No cell of these rows narrows 'for every input' (looked for: loops, veiled, ifaces, maps, wideKeys, modest, calm, conditions, laid).
  DERIVED. THE GIVEN ROWS OF THIS SEAT. 2 by the template 'for every input the law returns true; each argument reads behind the call as it read before'; 0 by the template 'total and deterministic' (their statements: YtoicpkkcamejcaaTotals.lean).
  GIVEN WITH THE SEED: the statements are not yours to turn. If you find one false, say at which input.
  Laid BY PROGRAM, IN A SANDBOX (cutbox-rows.mjs): the forced cells as the released guide's own fill.sh prints them over the translation 03b6d36dba6a68d1… (all of the seat's roots in one cut). By AI agents, Wed Nov 11 2026. No macro, syntax, notation, axiom, sorry.
-/
import Derived.Test.YtoicpkkcamejcaaChecked
import GoSem.Claim
import GoSem.ClaimJoined
import GoSem.ClaimMapViews
import Derived.JoinedTies
import Derived.KernelRfl
namespace Go.Proofs.Ytoicpkkcamejcaa
/- THE CELL 'sum', in the pinned program and in every row, IS THE sha256 OF THE DUMP (.gsa) THAT YtoicpkkcamejcaaProg.lean LOADS. Nothing in Lean hashes anything: it is a label: what it is worth is what the hold of that sum in a sandbox is worth. -/
noncomputable def Try.pinned : Pinned := { name := "ytoicpkkcamejcaa", sum := "03b6d36dba6a68d15d8aa3e7b4a9c4873d00f8a4bf9c56942002936b5f22be28", checked := Try.checked }
namespace Rows
def none {H : Type} : Left H := { results := [], args := [] }

/-- 'calliopelaw21.VoiceBlends': WHATEVER THE INPUT: true; the input reads as it did. -/
def voiceBlendsSpec : ChangeSpec := { name := "voiceBlends", fn := fun _ => fun
  | [d1, d2, d3] => { results := [.lit (.bool true)], args := [d1, d2, d3] }
  | _ => none }
def voiceBlendsRow : OpenClaim := { program := "ytoicpkkcamejcaa", sum := "03b6d36dba6a68d15d8aa3e7b4a9c4873d00f8a4bf9c56942002936b5f22be28", func := "calliope/calliopelaw21.VoiceBlends", spec := "voiceBlends", apart := false }
def VoiceBlendsSaid : Prop := voiceBlendsRow.holds Try.pinned (OpenSpec.ofChange voiceBlendsSpec)

/-- ITS FALSE NEIGHBOUR: 'it returns false'. Refute it at one input. -/
def voiceBlendsWrong : ChangeSpec := { name := "voiceBlends", fn := fun _ => fun
  | [d1, d2, d3] => { results := [.lit (.bool false)], args := [d1, d2, d3] }
  | _ => none }
def VoiceBlendsWrongFalsely : Prop := voiceBlendsRow.holds Try.pinned (OpenSpec.ofChange voiceBlendsWrong)

/-- 'calliopelaw21.VoiceHomes': WHATEVER THE INPUT: true; the input reads as it did. -/
def voiceHomesSpec : ChangeSpec := { name := "voiceHomes", fn := fun _ => fun
  | [d1, d2] => { results := [.lit (.bool true)], args := [d1, d2] }
  | _ => none }
def voiceHomesRow : OpenClaim := { program := "ytoicpkkcamejcaa", sum := "03b6d36dba6a68d15d8aa3e7b4a9c4873d00f8a4bf9c56942002936b5f22be28", func := "calliope/calliopelaw21.VoiceHomes", spec := "voiceHomes", apart := false }
def VoiceHomesSaid : Prop := voiceHomesRow.holds Try.pinned (OpenSpec.ofChange voiceHomesSpec)

/-- ITS FALSE NEIGHBOUR: 'it returns false'. Refute it at one input. -/
def voiceHomesWrong : ChangeSpec := { name := "voiceHomes", fn := fun _ => fun
  | [d1, d2] => { results := [.lit (.bool false)], args := [d1, d2] }
  | _ => none }
def VoiceHomesWrongFalsely : Prop := voiceHomesRow.holds Try.pinned (OpenSpec.ofChange voiceHomesWrong)

/- THE SECOND FORM. 'bulk': how many values and letters a reading holds, each counted each time it is reached (what is shared counts as often as it is met; a slice's spare places count too). A statement '..UptoSaid' is the law's where the arguments, and the package variables that the reading takes, are together of bulk at most 1048576: NARROWER than '..Said'. Prove '..Said' where nothing that the law and all that it calls make is longer than what came in: it says more and counts as full. Else prove '..UptoSaid'. A law counts once. -/
mutual
def uptoBulk {H : Type} : DataW H → Nat
  | .lit (.string bytes) => bytes.length + 1
  | .lit _ => 1
  | .nil => 1
  | .ptr d => uptoBulk d + 1
  | .slice elems spare => uptoBulkAll elems + uptoBulkAll spare + 1
  | .agg parts => uptoBulkAll parts + 1
  | .iface _ d => uptoBulk d + 1
  | .map entries => uptoBulkEntries entries + 1
  | .held _ => 1
def uptoBulkAll {H : Type} : List (DataW H) → Nat
  | [] => 0
  | d :: r => uptoBulk d + uptoBulkAll r
def uptoBulkEntries {H : Type} : List (Lit × DataW H) → Nat
  | [] => 0
  | x :: r => uptoBulkEntry x + uptoBulkEntries r
def uptoBulkEntry {H : Type} : Lit × DataW H → Nat
  | (.string bytes, d) => bytes.length + uptoBulk d + 1
  | (_, d) => uptoBulk d + 1
 end
def uptoSmall : (H : Type) → List (DataW H) → Bool := fun _ ds => decide (uptoBulkAll ds ≤ 1048576)
def OpenSpec.upto (s : _root_.Go.ChangeSpec) : _root_.Go.OpenSpec := { _root_.Go.OpenSpec.ofChange s with cond := some uptoSmall }

/-- 'calliopelaw21.VoiceBlends', WHERE WHAT IT READS IS OF BULK AT MOST 1048576: true; the input reads as it did. -/
def voiceBlendsUptoRow : OpenClaim := { program := "ytoicpkkcamejcaa", sum := "03b6d36dba6a68d15d8aa3e7b4a9c4873d00f8a4bf9c56942002936b5f22be28", func := "calliope/calliopelaw21.VoiceBlends", spec := "voiceBlends", apart := false, narrowed := true }
def VoiceBlendsUptoSaid : Prop := voiceBlendsUptoRow.holds Try.pinned (OpenSpec.upto voiceBlendsSpec)

/-- 'calliopelaw21.VoiceHomes', WHERE WHAT IT READS IS OF BULK AT MOST 1048576: true; the input reads as it did. -/
def voiceHomesUptoRow : OpenClaim := { program := "ytoicpkkcamejcaa", sum := "03b6d36dba6a68d15d8aa3e7b4a9c4873d00f8a4bf9c56942002936b5f22be28", func := "calliope/calliopelaw21.VoiceHomes", spec := "voiceHomes", apart := false, narrowed := true }
def VoiceHomesUptoSaid : Prop := voiceHomesUptoRow.holds Try.pinned (OpenSpec.upto voiceHomesSpec)

end Rows
end Go.Proofs.Ytoicpkkcamejcaa
