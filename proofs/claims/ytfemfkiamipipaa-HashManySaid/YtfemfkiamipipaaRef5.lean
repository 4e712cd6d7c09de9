/-
  Layer 5: the reference's simple.
-/
import Derived.Test.YtfemfkiamipipaaLabM
namespace Go.Proofs.Ytfemfkiamipipaa
open Go.ChangeShapes Go.WideShapes Go.ChangeAt Go.RowKit
set_option linter.unusedVariables false

def ToldG (v : Value) (w : World) (e : Ending) (w' : World) : Prop := e = .returned v ∧ w.grownBy w' none
theorem toldG_eq {v v' : Value} {w w' : World} (h : v' = v) (hg : w.grownBy w' none) : ToldG v w (.returned v') w' := ⟨by rw [h], hg⟩
theorem simC_less {a b : Lab} (h : ahead a b = true) : simC a b = -1 := by unfold simC; rw [if_pos h]
theorem simC_same (a : Lab) : simC a a = 0 := by unfold simC; rw [if_neg (by rw [ahead_irrefl]; exact Bool.false_ne_true), if_pos rfl]
theorem simC_more {a b : Lab} (h : ahead a b = false) (hne : a ≠ b) : simC a b = 1 := by unfold simC; rw [if_neg (by rw [h]; exact Bool.false_ne_true), if_neg hne]
end Go.Proofs.Ytfemfkiamipipaa
