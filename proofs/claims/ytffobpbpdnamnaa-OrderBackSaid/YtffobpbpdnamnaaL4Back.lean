/-
  OrderBack holds for every input: what is taken by its order comes in order, each once, of those that are alike as they stood; Back tells where each comes; without a cmp all stay as they stand. Conditions: none beside the given row's own.
-/
import Derived.Test.YtffobpbpdnamnaaFrame
import Derived.Test.YtffobpbpdnamnaaOpen4
import Derived.Test.YtffobpbpdnamnaaLBack4
namespace Go.Proofs.Ytffobpbpdnamnaa
open Go.ChangeShapes Go.WideShapes Go.ChangeAt Go.RowKit
set_option linter.unusedVariables false

namespace orderBack
theorem lifted (os : Os) (started : os.Started) (H : Type) (enc : TypeId × Value → H) :
    ReturnsInHanded {} Try.checked os 5 .any (Rows.orderBackSpec.pre6 enc Try.prog Try.f5 Rows.orderBackRow.domain false) (Rows.orderBackSpec.post enc Try.prog Try.f5 false true false false) := by
  refine Frame.lift (C := Try.checked) (B := 4) Frame.own started (by kernel_rfl) Try.func5 Frame.laidOut (by kernel_rfl) rfl Try.underlying4 ?_
    (ChangeSpec.witness6 (enc := enc) (C := Try.checked) false ⟨#[], #[.slice none 0 0], []⟩ 8 (by kernel_rfl) (by kernel_rfl) (by kernel_rfl) (by kernel_rfl)) ?_
  · exact ⟨rfl, fun H ds h => by
      rw [Try.params5] at h
      match ds, h with
      | [_], _ => exact ⟨rfl, rfl, rfl⟩⟩
  · intro W base args ds p hval hA hlt hsz
    rw [Try.params5] at hA hval
    obtain ⟨v0, vs0, d0, ds0, p0, q0, hargs, rfl, rfl, h0, r0⟩ := trodAll_cons hA
    obtain ⟨rfl, rfl, rfl⟩ := trodAll_nil r0
    obtain rfl : args = #[v0] := by cases args; simp_all
    obtain ⟨A0, n0, c0, l0, rfl, hI0, hN0, hC0⟩ := open_Nums (hval 0 _ v0 rfl rfl) h0
    exact orderBack_walk A0 n0 c0 l0 W hI0 hN0 hC0
theorem over : Rows.orderBackRow.holds Try.pinned (OpenSpec.ofChange Rows.orderBackSpec) :=
  OpenClaim.holds_of_wide 5 Try.f5 rfl rfl rfl rfl rfl rfl rfl ⟨rfl, rfl, rfl, rfl, rfl⟩ rfl rfl rfl rfl rfl (by kernel_rfl) Try.func5 (by kernel_rfl)
    (of_decide_eq_true (by kernel_rfl)) (by unfold Func.isWrapper; first | (rw [if_pos (by decide +kernel)]; kernel_rfl) | (rw [if_neg (by decide +kernel)]; exact ⟨rfl, rfl⟩))
    (fun os started H enc _ => lifted os started H enc)
/-- THE STATEMENT -/
theorem proved : Rows.OrderBackSaid := over
end orderBack
end Go.Proofs.Ytffobpbpdnamnaa
