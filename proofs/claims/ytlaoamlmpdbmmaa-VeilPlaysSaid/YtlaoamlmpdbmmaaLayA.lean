/- A bit is laid into the last byte. -/
import Derived.Test.YtlaoamlmpdbmmaaFitsL
import Derived.Test.YtlaoamlmpdbmmaaPack
import Derived.RegionTactic
import Derived.BigRegion
import Derived.ChangeAlike
import Derived.OwnWalk
import Derived.OneCell
import Derived.Deep.OwnRows
namespace Go.Proofs.Ytlaoamlmpdbmmaa
set_option linter.unusedVariables false
set_option maxRecDepth 100000
open Go.RowKit


theorem Try.info5 : (Try.prog.info? 5).map (fun i => (i.zero, i.size, i.bytes)) = some (some (.int .u8 0), 1, 1) := by kernel_rfl





theorem bytesOf_snoc_old (L : List Bool) (x : Bool) (h : L.length % 8 ≠ 0) : bytesOf (L ++ [x]) = (bytesOf L).set (L.length / 8) (byteAt L (L.length / 8) + bi x * 2 ^ (7 - L.length % 8)) := by
  have hn : nb (L ++ [x]) = nb L := by simp only [nb, List.length_append, List.length_singleton]; omega
  apply List.ext_getElem?
  intro i
  rw [List.getElem?_set]
  simp only [bytesOf, hn, List.length_map, List.length_range]
  by_cases hi : i < nb L
  · by_cases he : L.length / 8 = i
    · subst he
      simp [hi, byteAt_snoc]
    · simp [he, hi, byteAt_snoc_ne L x i (fun e => he e.symm)]
  · have : L.length / 8 ≠ i := by simp only [nb] at hi; omega
    simp [this, hi]
theorem bytesOf_snoc_new (L : List Bool) (x : Bool) (h : L.length % 8 = 0) : bytesOf (L ++ [x]) = (bytesOf L ++ [0]).set (L.length / 8) (bi x * 128) := by
  have hn : nb (L ++ [x]) = nb L + 1 := by simp only [nb, List.length_append, List.length_singleton]; omega
  have hnl : nb L = L.length / 8 := by simp only [nb]; omega
  have hp := byteAt_past L (L.length / 8) (by omega)
  apply List.ext_getElem?
  intro i
  rw [List.getElem?_set]
  simp only [bytesOf, hn, List.length_append, List.length_map, List.length_range, List.length_singleton]
  by_cases he : L.length / 8 = i
  · subst he
    have e := byteAt_snoc L x
    rw [h, hp] at e
    simp [hnl, e]
  · by_cases hi : i < nb L
    · have h2 : i < nb L + 1 := by omega
      simp [he, hi, h2, byteAt_snoc_ne L x i (fun e => he e.symm)]
    · have h2 : ¬ i < nb L + 1 := by omega
      have h3 : nb L + 1 ≤ i := by omega
      simp [he, h2]

end Go.Proofs.Ytlaoamlmpdbmmaa
