/-
  No cell of these rows narrows 'for every input' (looked for: loops, veiled, ifaces, maps, wideKeys, modest, calm, conditions, laid).
  DERIVED. THE GIVEN ROWS OF THIS SEAT. 4 by the template 'for every input the law returns true; each argument reads behind the call as it read before'; 0 by the template 'total and deterministic' (their statements: YtooamkicmmgniaaTotals.lean).
  GIVEN WITH THE SEED: the statements are not yours to turn. If you find one false, say at which input.
  Laid BY PROGRAM, IN A SANDBOX (cutbox-rows.mjs): the forced cells as the released guide's own fill.sh prints them over the translation 0f4160f1c3f4c17a… (all of the seat's roots in one cut). By AI agents, Wed Nov 11 2026. No macro, syntax, notation, axiom, sorry.
-/
import Derived.Test.YtooamkicmmgniaaChecked
import GoSem.Claim
import GoSem.ClaimJoined
import GoSem.ClaimMapViews
import Derived.JoinedTies
import Derived.KernelRfl
namespace Go.Proofs.Ytooamkicmmgniaa
/- THE CELL 'sum', in the pinned program and in every row, IS THE sha256 OF THE DUMP (.gsa) THAT YtooamkicmmgniaaProg.lean LOADS. Nothing in Lean hashes anything: it is a label: what it is worth is what the hold of that sum in a sandbox is worth. -/
noncomputable def Try.pinned : Pinned := { name := "ytooamkicmmgniaa", sum := "0f4160f1c3f4c17a11c6f50ce04b35466dfdc8f520d17a7afa3d0f6b070e4c38", checked := Try.checked }
namespace Rows
def none {H : Type} : Left H := { results := [], args := [] }

/-- 'calliopelaw17.CachePlays': WHATEVER THE INPUT: true; the input reads as it did. -/
def cachePlaysSpec : ChangeSpec := { name := "cachePlays", fn := fun _ => fun
  | [d1, d2, d3, d4] => { results := [.lit (.bool true)], args := [d1, d2, d3, d4] }
  | _ => none }
def cachePlaysRow : OpenClaim := { program := "ytooamkicmmgniaa", sum := "0f4160f1c3f4c17a11c6f50ce04b35466dfdc8f520d17a7afa3d0f6b070e4c38", func := "calliope/calliopelaw17.CachePlays", spec := "cachePlays", apart := false }
def CachePlaysSaid : Prop := cachePlaysRow.holds Try.pinned (OpenSpec.ofChange cachePlaysSpec)

/-- ITS FALSE NEIGHBOUR: 'it returns false'. Refute it at one input. -/
def cachePlaysWrong : ChangeSpec := { name := "cachePlays", fn := fun _ => fun
  | [d1, d2, d3, d4] => { results := [.lit (.bool false)], args := [d1, d2, d3, d4] }
  | _ => none }
def CachePlaysWrongFalsely : Prop := cachePlaysRow.holds Try.pinned (OpenSpec.ofChange cachePlaysWrong)

/-- 'calliopelaw17.CacheClean': WHATEVER THE INPUT: true; the input reads as it did. -/
def cacheCleanSpec : ChangeSpec := { name := "cacheClean", fn := fun _ => fun
  | [d1, d2, d3, d4, d5] => { results := [.lit (.bool true)], args := [d1, d2, d3, d4, d5] }
  | _ => none }
def cacheCleanRow : OpenClaim := { program := "ytooamkicmmgniaa", sum := "0f4160f1c3f4c17a11c6f50ce04b35466dfdc8f520d17a7afa3d0f6b070e4c38", func := "calliope/calliopelaw17.CacheClean", spec := "cacheClean", apart := false }
def CacheCleanSaid : Prop := cacheCleanRow.holds Try.pinned (OpenSpec.ofChange cacheCleanSpec)

/-- ITS FALSE NEIGHBOUR: 'it returns false'. Refute it at one input. -/
def cacheCleanWrong : ChangeSpec := { name := "cacheClean", fn := fun _ => fun
  | [d1, d2, d3, d4, d5] => { results := [.lit (.bool false)], args := [d1, d2, d3, d4, d5] }
  | _ => none }
def CacheCleanWrongFalsely : Prop := cacheCleanRow.holds Try.pinned (OpenSpec.ofChange cacheCleanWrong)

/-- 'calliopelaw17.CacheTries': WHATEVER THE INPUT: true; the input reads as it did. -/
def cacheTriesSpec : ChangeSpec := { name := "cacheTries", fn := fun _ => fun
  | [d1, d2, d3] => { results := [.lit (.bool true)], args := [d1, d2, d3] }
  | _ => none }
def cacheTriesRow : OpenClaim := { program := "ytooamkicmmgniaa", sum := "0f4160f1c3f4c17a11c6f50ce04b35466dfdc8f520d17a7afa3d0f6b070e4c38", func := "calliope/calliopelaw17.CacheTries", spec := "cacheTries", apart := false }
def CacheTriesSaid : Prop := cacheTriesRow.holds Try.pinned (OpenSpec.ofChange cacheTriesSpec)

/-- ITS FALSE NEIGHBOUR: 'it returns false'. Refute it at one input. -/
def cacheTriesWrong : ChangeSpec := { name := "cacheTries", fn := fun _ => fun
  | [d1, d2, d3] => { results := [.lit (.bool false)], args := [d1, d2, d3] }
  | _ => none }
def CacheTriesWrongFalsely : Prop := cacheTriesRow.holds Try.pinned (OpenSpec.ofChange cacheTriesWrong)

/-- 'calliopelaw17.CacheNobody': WHATEVER THE INPUT: true; the input reads as it did. -/
def cacheNobodySpec : ChangeSpec := { name := "cacheNobody", fn := fun _ => fun
  | [d] => { results := [.lit (.bool true)], args := [d] }
  | _ => none }
def cacheNobodyRow : OpenClaim := { program := "ytooamkicmmgniaa", sum := "0f4160f1c3f4c17a11c6f50ce04b35466dfdc8f520d17a7afa3d0f6b070e4c38", func := "calliope/calliopelaw17.CacheNobody", spec := "cacheNobody", apart := false }
def CacheNobodySaid : Prop := cacheNobodyRow.holds Try.pinned (OpenSpec.ofChange cacheNobodySpec)

/-- ITS FALSE NEIGHBOUR: 'it returns false'. Refute it at one input. -/
def cacheNobodyWrong : ChangeSpec := { name := "cacheNobody", fn := fun _ => fun
  | [d] => { results := [.lit (.bool false)], args := [d] }
  | _ => none }
def CacheNobodyWrongFalsely : Prop := cacheNobodyRow.holds Try.pinned (OpenSpec.ofChange cacheNobodyWrong)

/- THE SECOND FORM. 'bulk': how many values and letters a reading holds, each counted each time it is reached (what is shared counts as often as it is met; a slice's spare places count too). A statement '..UptoSaid' is the law's where the arguments, and the package variables that the reading takes, are together of bulk at most 1048576: NARROWER than '..Said'. Prove '..Said' where nothing that the law and all that it calls make is longer than what came in: it says more and counts as full. Else prove '..UptoSaid'. A law counts once. -/
mutual
def uptoBulk {H : Type} : DataW H → Nat
  | .lit (.string bytes) => bytes.length + 1
  | .lit _ => 1
  | .nil => 1
  | .ptr d => uptoBulk d + 1
  | .slice elems spare => uptoBulkAll elems + uptoBulkAll spare + 1
  | .agg parts => uptoBulkAll parts + 1
  | .iface _ d => uptoBulk d + 1
  | .map entries => uptoBulkEntries entries + 1
  | .held _ => 1
def uptoBulkAll {H : Type} : List (DataW H) → Nat
  | [] => 0
  | d :: r => uptoBulk d + uptoBulkAll r
def uptoBulkEntries {H : Type} : List (Lit × DataW H) → Nat
  | [] => 0
  | x :: r => uptoBulkEntry x + uptoBulkEntries r
def uptoBulkEntry {H : Type} : Lit × DataW H → Nat
  | (.string bytes, d) => bytes.length + uptoBulk d + 1
  | (_, d) => uptoBulk d + 1
 end
def uptoSmall : (H : Type) → List (DataW H) → Bool := fun _ ds => decide (uptoBulkAll ds ≤ 1048576)
def OpenSpec.upto (s : _root_.Go.ChangeSpec) : _root_.Go.OpenSpec := { _root_.Go.OpenSpec.ofChange s with cond := some uptoSmall }

/-- 'calliopelaw17.CachePlays', WHERE WHAT IT READS IS OF BULK AT MOST 1048576: true; the input reads as it did. -/
def cachePlaysUptoRow : OpenClaim := { program := "ytooamkicmmgniaa", sum := "0f4160f1c3f4c17a11c6f50ce04b35466dfdc8f520d17a7afa3d0f6b070e4c38", func := "calliope/calliopelaw17.CachePlays", spec := "cachePlays", apart := false, narrowed := true }
def CachePlaysUptoSaid : Prop := cachePlaysUptoRow.holds Try.pinned (OpenSpec.upto cachePlaysSpec)

/-- 'calliopelaw17.CacheClean', WHERE WHAT IT READS IS OF BULK AT MOST 1048576: true; the input reads as it did. -/
def cacheCleanUptoRow : OpenClaim := { program := "ytooamkicmmgniaa", sum := "0f4160f1c3f4c17a11c6f50ce04b35466dfdc8f520d17a7afa3d0f6b070e4c38", func := "calliope/calliopelaw17.CacheClean", spec := "cacheClean", apart := false, narrowed := true }
def CacheCleanUptoSaid : Prop := cacheCleanUptoRow.holds Try.pinned (OpenSpec.upto cacheCleanSpec)

/-- 'calliopelaw17.CacheTries', WHERE WHAT IT READS IS OF BULK AT MOST 1048576: true; the input reads as it did. -/
def cacheTriesUptoRow : OpenClaim := { program := "ytooamkicmmgniaa", sum := "0f4160f1c3f4c17a11c6f50ce04b35466dfdc8f520d17a7afa3d0f6b070e4c38", func := "calliope/calliopelaw17.CacheTries", spec := "cacheTries", apart := false, narrowed := true }
def CacheTriesUptoSaid : Prop := cacheTriesUptoRow.holds Try.pinned (OpenSpec.upto cacheTriesSpec)

/-- 'calliopelaw17.CacheNobody', WHERE WHAT IT READS IS OF BULK AT MOST 1048576: true; the input reads as it did. -/
def cacheNobodyUptoRow : OpenClaim := { program := "ytooamkicmmgniaa", sum := "0f4160f1c3f4c17a11c6f50ce04b35466dfdc8f520d17a7afa3d0f6b070e4c38", func := "calliope/calliopelaw17.CacheNobody", spec := "cacheNobody", apart := false, narrowed := true }
def CacheNobodyUptoSaid : Prop := cacheNobodyUptoRow.holds Try.pinned (OpenSpec.upto cacheNobodySpec)

end Rows
end Go.Proofs.Ytooamkicmmgniaa
