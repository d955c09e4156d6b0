/- Lists of integers of the call's own, as they grow by one. No program. -/
import Derived.Test.YtcepfbflgngmjaaSmall
namespace Go.Proofs.Ytcepfbflgngmjaa
set_option linter.unusedVariables false
set_option maxRecDepth 100000
open Go.RowKit Go.ChangeShapes Go.WideShapes

/-- v is a row of the call's own, outside X, of these integers. -/
def OwnL (k : IntKind) (t : TypeId) (X : Nat → Prop) (w : World) (v : Value) (xs : List Int) : Prop := ownX X w t v xs.length (xs.map (Value.int k))
namespace OwnL
variable {k : IntKind} {t : TypeId} {X Y : Nat → Prop} {w w' : World} {v : Value} {xs : List Int}
theorem nil (k : IntKind) (t : TypeId) (X : Nat → Prop) (w : World) : OwnL k t X w (.slice none 0 0) [] := ownX.nil X w t
theorem old (h : OwnL k t X w v xs) (ho : Old w w') : OwnL k t X w' v xs := ownX.old h ho
theorem mono (h : OwnL k t X w v xs) (hY : ∀ k, v.ownBlock = some k → ¬ Y k) : OwnL k t Y w v xs := ownX.mono h hY
theorem sl (h : OwnL k t X w v xs) : SlI w k v xs := own_SlI h
theorem snoc {x : Int} (h : ownX X w t v (xs.length + 1) (xs.map (Value.int k) ++ [.int k x])) : OwnL k t X w v (xs ++ [x]) := by
  unfold OwnL
  rw [List.length_append, List.map_append]
  exact h
theorem drewN (h : OwnL k t X w v xs) (n : Nat) : OwnL k t X (w.drewN n) v xs := ⟨⟨h.1.1, h.1.2⟩, h.2⟩
end OwnL
end Go.Proofs.Ytcepfbflgngmjaa
