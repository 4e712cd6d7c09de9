/-
  Layer 5: the walk of LabelBack.
-/
import Derived.Test.YtblmnbaejfhagaaGreatDoorBounds5
namespace Go.Proofs.YtblmnbaejfhagaaGreatDoor
open Go.ChangeShapes Go.WideShapes Go.ChangeAt Go.RowKit
set_option linter.unusedVariables false

/-- what is read: a label and whether there is one. -/
theorem GaveTup.any {o : Option Lab} {w w' : World} {en : Ending} (h : GaveTup o w en w') : ∃ y : Lab, ∃ ok : Bool, ToldG (.tuple #[.agg #[.int .u8 y.k, .int .i64 y.n, .string y.s], .bool ok]) w en w' ∧ o.getD noLab = y ∧ o.isSome = ok := ⟨_, _, h, rfl, rfl⟩
/-- what a label told, and what was read of its text, say. -/
def BackOk (a y : Lab) (ok : Bool) : Prop := rightE a = true ∧ ok = true ∧ y = a ∨ rightE a = false ∧ showE a = []
def ReadOk (s : ByteArray) (z : Lab) (is : Bool) : Prop := is = true ∧ okL z ∧ z.s.size ≤ 300 ∧ rightE z = true ∧ txt (showE z) = s ∨ is = false ∧ z = noLab
theorem back_ok {a y : Lab} {ok : Bool} (h1 : -9223372036854775808 ≤ a.n) (h2 : a.n < 9223372036854775808) (hy : (readE (showE a)).getD noLab = y) (hok : (readE (showE a)).isSome = ok) : BackOk a y ok := by
  by_cases hr : rightE a = true
  · rw [read_show hr h1 h2] at hy hok
    exact .inl ⟨hr, hok.symm, hy.symm⟩
  · exact .inr ⟨by simpa using hr, show_wrong (by simpa using hr)⟩
theorem readok {s : ByteArray} {z : Lab} {is : Bool} (hz : (readE s.data.toList).getD noLab = z) (his : (readE s.data.toList).isSome = is) : ReadOk s z is := by
  cases h : readE s.data.toList with
  | none => rw [h] at hz his; exact .inr ⟨his.symm, hz.symm⟩
  | some x =>
    rw [h] at hz his
    obtain rfl : x = z := hz
    obtain ⟨h1, h2⟩ := show_read h
    exact .inl ⟨his.symm, (read_ok h).1, (read_ok h).2, h1, by rw [h2, txt_of]⟩
end Go.Proofs.YtblmnbaejfhagaaGreatDoor
