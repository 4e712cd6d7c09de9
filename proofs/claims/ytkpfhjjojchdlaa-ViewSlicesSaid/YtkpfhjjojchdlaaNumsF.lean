/-
  SLICES OF WHOLE NUMBERS as a call takes and tells them: what they read as, and what a slice that is nil has.
-/
import Derived.Test.YtkpfhjjojchdlaaIntsApp
namespace Go.Proofs.Ytkpfhjjojchdlaa
open Go.ChangeShapes Go.WideShapes Go.ChangeAt Go.RowKit
set_option linter.unusedVariables false
set_option maxRecDepth 100000

/-- what a shape that is read has: a slice that holds no more than its capacity, and none that is nil has any. -/
def Fits (A : Option Addr) (n c : Nat) : Prop := n ≤ c ∧ (A = none → c = 0)
def TellG (v : Value) (w : World) (e : Ending) (w' : World) : Prop := e = .returned v ∧ w.grownBy w' none
/-- a slice is told that reads as these numbers. -/
def NumsF (w : World) (A : Option Addr) (n c : Nat) (zs : List Int) : Prop := Nums w w.heap.size A n zs ∧ Fits A n c
def GaveN (zs : List Int) (w : World) (e : Ending) (w' : World) : Prop := ∃ A n c, e = .returned (.slice A n c) ∧ NumsF w' A n c zs ∧ w.grownBy w' none
def GaveNB (zs : List Int) (b : Bool) (w : World) (e : Ending) (w' : World) : Prop := ∃ A n c, e = .returned (.tuple #[.slice A n c, .bool b]) ∧ NumsF w' A n c zs ∧ w.grownBy w' none
theorem NumsF.grow {w w' : World} {A : Option Addr} {n c : Nat} {zs : List Int} (h : NumsF w A n c zs) (hg : w.grownBy w' none) : NumsF w' A n c zs := ⟨h.1.grow hg, h.2⟩
theorem NumsF.len {w : World} {A : Option Addr} {n c : Nat} {zs : List Int} (h : NumsF w A n c zs) : zs.length = n := h.1.1
theorem OwnI.numsF {w : World} {base n c : Nat} {A : Option Addr} {zs : List Int} (h : OwnI w base A n c zs) : NumsF w A n c zs := by
  refine ⟨h.nums, ?_, ?_⟩
  · cases A with
    | none => have := own_none h; omega
    | some a => obtain ⟨_, _, _, h1⟩ := own_some h; exact h1
  · rintro rfl
    exact (own_none h).2
theorem GaveInts.tells {zs : List Int} {w w' : World} {e : Ending} (h : GaveInts zs w e w') : GaveN zs w e w' := by
  obtain ⟨A, c, rfl, ho, hg⟩ := h
  exact ⟨A, _, c, rfl, ho.numsF, hg⟩
theorem GaveIntsB.tells {zs : List Int} {b : Bool} {w w' : World} {e : Ending} (h : GaveIntsB zs b w e w') : GaveNB zs b w e w' := by
  obtain ⟨A, c, rfl, ho, hg⟩ := h
  exact ⟨A, _, c, rfl, ho.numsF, hg⟩
theorem ToldV.tells {v : Value} {w w' : World} {e : Ending} (h : ToldV v w e w') : TellG v w e w' := by
  obtain ⟨rfl, m, rfl⟩ := h
  exact ⟨rfl, grown_drewN (grown_refl _ _) _⟩
theorem TellG.same {v : Value} {w w' : World} {e : Ending} (h : e = .returned v ∧ w' = w) : TellG v w e w' := ⟨h.1, by rw [h.2]; exact grown_refl _ _⟩
theorem numsF_nil (w : World) : NumsF w none 0 0 [] := ⟨Nums.nil _ _, Nat.le_refl _, fun _ => rfl⟩
end Go.Proofs.Ytkpfhjjojchdlaa
