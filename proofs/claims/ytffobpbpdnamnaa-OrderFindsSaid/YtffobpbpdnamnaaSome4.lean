/-
  Layer 4: what a cmp is, as a value; order's some.
-/
import Derived.Test.YtffobpbpdnamnaaOrdBack
import Derived.WalkSpells
namespace Go.Proofs.Ytffobpbpdnamnaa
open Go.ChangeShapes Go.WideShapes Go.ChangeAt Go.RowKit
set_option linter.unusedVariables false

/-- function f has a body. -/
def Plain (f : FuncId) : Prop := ∀ (args : Array Value) (w : World), Sem.run Try.prog (callFunc f args) w = Result.ok (Next.enter f args) w
theorem plain_cmp : Plain 13 := fun args w => by kernel_rfl
theorem plain_alike : Plain 30 := fun args w => by kernel_rfl
theorem plain_things : Plain 25 := fun args w => by kernel_rfl
/-- function f compares numbers by K, and leaves the world as it is. -/
def IsCmp (f : FuncId) (K : Int → Int) : Prop := Plain f ∧ ∀ (a b : Int) (w : World), Calls Try.prog f #[.int .i64 a, .int .i64 b] w fun e w' => e = .returned (.int .i64 (cmpI (K a) (K b))) ∧ w' = w
theorem isCmp_cmp : IsCmp 13 id := ⟨plain_cmp, fun a b w => cmp4_any a b w⟩
theorem isCmp_alike : IsCmp 30 (fun _ => 0) := by
  refine ⟨plain_alike, ?_⟩
  intro a b w
  go_enter Try.func30, Try.ntmps30
  go_wp2
  go_ret
  exact ⟨rfl, rfl⟩
theorem eql_nil_nil (w : World) : (binOp .eql 29 .nilFunc .nilFunc).run Try.prog w = Result.ok (.bool true) w := by kernel_rfl
theorem eql_func_nil (f : FuncId) (w : World) : (binOp .eql 29 (.func (.func f) #[] #[]) .nilFunc).run Try.prog w = Result.ok (.bool false) w := by kernel_rfl
theorem some4_nil (w : World) : Calls Try.prog 24 #[.nilFunc] w fun e w' => e = .returned (.func (.func 30) #[] #[]) ∧ w' = w := by
  have he := eql_nil_nil
  go_enter Try.func24, Try.ntmps24
  go_wp2
  go_ret
  exact ⟨rfl, rfl⟩
theorem some4_func (f : FuncId) (w : World) : Calls Try.prog 24 #[.func (.func f) #[] #[]] w fun e w' => e = .returned (.func (.func f) #[] #[]) ∧ w' = w := by
  have he := eql_func_nil f
  go_enter Try.func24, Try.ntmps24
  go_wp2
  go_ret
  exact ⟨rfl, rfl⟩
/-- a cmp as it is given: g, and the function f that is asked in its place. -/
def GivenCmp (g : Value) (f : FuncId) (K : Int → Int) : Prop := IsCmp f K ∧ ∀ w : World, Calls Try.prog 24 #[g] w fun e w' => e = .returned (.func (.func f) #[] #[]) ∧ w' = w
theorem givenCmp_cmp : GivenCmp (.func (.func 13) #[] #[]) 13 id := ⟨isCmp_cmp, some4_func _⟩
theorem givenCmp_nil : GivenCmp .nilFunc 30 (fun _ => 0) := ⟨isCmp_alike, some4_nil⟩
end Go.Proofs.Ytffobpbpdnamnaa
