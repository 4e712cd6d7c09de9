/-
  Layer 5: the reference's Unique, All.
-/
import Derived.Test.YtfemfkiamipipaaOwn5
namespace Go.Proofs.Ytfemfkiamipipaa
open Go.ChangeShapes Go.WideShapes Go.ChangeAt Go.RowKit
set_option linter.unusedVariables false

def UniqP (l : List Lab) : Prop := ∀ i, i < l.length → ∀ k, k < i → l.getD i noLab ≠ l.getD k noLab
def AllP (l : List Lab) (kind : Int) : Prop := ∀ i, i < l.length → (l.getD i noLab).k = kind ∧ rightE (l.getD i noLab) = true
/-- a truth is told that says whether P; only drawn. -/
def SaysD (P : Prop) (w : World) (e : Ending) (w' : World) : Prop := ∃ b, e = .returned (.bool b) ∧ (b = true ↔ P) ∧ ∃ m, w' = w.drewN m
/-- .. memory may have been made. -/
def SaysG (P : Prop) (w : World) (e : Ending) (w' : World) : Prop := ∃ b, e = .returned (.bool b) ∧ (b = true ↔ P) ∧ w.grownBy w' none
theorem says_yes {P : Prop} (h : P) : (true = true ↔ P) := ⟨fun _ => h, fun _ => rfl⟩
theorem says_no {P : Prop} (h : ¬ P) : (false = true ↔ P) := ⟨(fun h => by cases h), fun h2 => absurd h2 h⟩
end Go.Proofs.Ytfemfkiamipipaa
