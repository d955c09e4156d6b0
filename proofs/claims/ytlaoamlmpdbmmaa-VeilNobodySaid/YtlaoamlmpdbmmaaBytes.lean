/- What was laid, as bytes: contract of (*bits.Writer).Bytes. -/
import Derived.Test.YtlaoamlmpdbmmaaLay
import Derived.Laws.CopyOwn
import Derived.Deep.QuietTactic
import Derived.BigQuiet
namespace Go.Proofs.Ytlaoamlmpdbmmaa
set_option linter.unusedVariables false
set_option maxRecDepth 100000
open Go.RowKit Go.ChangeShapes Go.WideShapes

def padded (L : List Bool) (n : Nat) : List Int := (List.range n).map (byteAt L)
theorem length_padded (L : List Bool) (n : Nat) : (padded L n).length = n := by simp [padded]
theorem splice_padded (L : List Bool) (n : Nat) (h : nb L ≤ n) : splice (List.replicate n (Value.int .u8 0)) 0 ((bytesOf L).map (Value.int .u8)) = (padded L n).map (Value.int .u8) := by
  apply List.ext_getElem?
  intro i
  simp only [splice, List.take_zero, List.nil_append, Nat.zero_add, List.length_map, length_bytesOf]
  by_cases hi : i < nb L
  · rw [List.getElem?_append_left (by simpa [length_bytesOf] using hi), List.getElem?_map, List.getElem?_map, getElem?_bytesOf L i hi]
    simp [padded, show i < n by omega]
  · rw [List.getElem?_append_right (by simp [length_bytesOf]; omega), List.getElem?_map]
    simp only [List.length_map, length_bytesOf, List.getElem?_drop, padded, List.getElem?_map]
    by_cases hn : i < n
    · have e := byteAt_past L i (by simp only [nb] at hi; omega)
      simp [show nb L + (i - nb L) = i by omega, hn, e]
    · simp [show nb L + (i - nb L) = i by omega, hn]

theorem src_cells {w : World} {X : Nat → Prop} {L : List Bool} {v : Value} (o : Obj) (hown : ownX X w 5 v (nb L) ((bytesOf L).map (Value.int .u8))) :
    ∃ sp sc, v = .slice sp (nb L) sc ∧ (0 < nb L → ∃ ad, sp = some ad ∧ ∀ j u, ((bytesOf L).map (Value.int .u8))[j]? = some u → (w.alloc o).cell? (ad.add j) = some u) := by
  rcases (hown.old (Old.alloc w o)).shape with ⟨hv, h0⟩ | ⟨g, cap, rfl, _, _, _, _, hc⟩
  · exact ⟨none, 0, by rw [hv, h0], fun h => by omega⟩
  · exact ⟨some ⟨g, 0, none⟩, cap, rfl, fun _ => ⟨_, rfl, fun j u hj => by rw [add_plain, Nat.zero_add]; exact hc j u hj⟩⟩

/-- The result of Bytes(size). -/
def bytesErr (L : List Bool) (er size : Int) : Int := if er ≠ 0 then er else if size < 0 ∨ 2147483647 < size then 1 else if size < nb L then 3 else 0


theorem Try.size5 : (Try.prog.info? 5).map (·.size) = some 1 := by kernel_rfl
theorem bytes_oneCell (l : List Int) : ∀ v ∈ l.map (Value.int .u8), v.oneCell' = true := by
  intro v hv
  obtain ⟨x, _, rfl⟩ := List.mem_map.1 hv
  rfl

end Go.Proofs.Ytlaoamlmpdbmmaa
