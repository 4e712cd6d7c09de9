/-
  HashPlays holds for every input: labels are taken and found as the document says, one by one. Conditions: none beside the given row's own.
-/
import Derived.Test.YtfemfkiamipipaaFrame
import Derived.Test.YtfemfkiamipipaaAll6
import Derived.Test.YtfemfkiamipipaaSaid6
namespace Go.Proofs.Ytfemfkiamipipaa
open Go.ChangeShapes Go.WideShapes Go.ChangeAt Go.RowKit
set_option linter.unusedVariables false

namespace hashPlays
theorem lifted (os : Os) (started : os.Started) (H : Type) (enc : TypeId × Value → H) :
    ReturnsInHanded {} Try.checked os 3 .any (Rows.hashPlaysSpec.pre6 enc Try.prog Try.f3 Rows.hashPlaysRow.domain false) (Rows.hashPlaysSpec.post enc Try.prog Try.f3 false true false false) := by
  refine Frame.lift (C := Try.checked) (B := 4) Frame.own started (by kernel_rfl) Try.func3 Frame.laidOut (by kernel_rfl) rfl Try.underlying4 ?_
    (ChangeSpec.witness6 (enc := enc) (C := Try.checked) false ⟨#[], #[.slice none 0 0, .slice none 0 0], []⟩ 8 (by kernel_rfl) (by kernel_rfl) (by kernel_rfl) (by kernel_rfl)) ?_
  · exact ⟨rfl, fun H ds h => by
      rw [Try.params3] at h
      match ds, h with
      | [_, _], _ => exact ⟨rfl, rfl, rfl⟩⟩
  · intro W base args ds p hval hA hlt hsz
    rw [Try.params3] at hA hval
    obtain ⟨v0, vs0, d0, ds0, p0, q0, hargs, rfl, rfl, h0, r0⟩ := trodAll_cons hA
    obtain ⟨v1, vs1, d1, ds1, p1, q1, rfl, rfl, rfl, h1, r1⟩ := trodAll_cons r0
    obtain ⟨rfl, rfl, rfl⟩ := trodAll_nil r1
    obtain rfl : args = #[v0, v1] := by cases args; simp_all
    obtain ⟨A0, n0, c0, l0, rfl, hI0, hL0, hN0⟩ := open_Labs (hval 0 _ v0 rfl rfl) h0
    obtain ⟨A1, n1, c1, l1, rfl, hI1, hL1, hN1⟩ := open_Labs (hval 1 _ v1 rfl rfl) h1
    exact hashPlays_walk says6 A0 A1 n0 n1 c0 c1 l0 l1 W hI0 hI1 hL0 hL1 hN0 hN1
theorem over : Rows.hashPlaysRow.holds Try.pinned (OpenSpec.ofChange Rows.hashPlaysSpec) :=
  OpenClaim.holds_of_wide 3 Try.f3 rfl rfl rfl rfl rfl rfl rfl ⟨rfl, rfl, rfl, rfl, rfl⟩ rfl rfl rfl rfl rfl (by kernel_rfl) Try.func3 (by kernel_rfl)
    (of_decide_eq_true (by kernel_rfl)) (by unfold Func.isWrapper; first | (rw [if_pos (by decide +kernel)]; kernel_rfl) | (rw [if_neg (by decide +kernel)]; exact ⟨rfl, rfl⟩))
    (fun os started H enc _ => lifted os started H enc)
/-- THE STATEMENT -/
theorem proved : Rows.HashPlaysSaid := over
end hashPlays
end Go.Proofs.Ytfemfkiamipipaa
