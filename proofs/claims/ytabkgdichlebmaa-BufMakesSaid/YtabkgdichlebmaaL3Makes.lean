/-
  BufMakes holds for every input: how many cells a new row has or why there is none, and which rows are the same, is as the document says. Conditions: none beside the given row's own.
-/
import Derived.Test.YtabkgdichlebmaaFrame
import Derived.Test.YtabkgdichlebmaaOpen3
import Derived.Test.YtabkgdichlebmaaMakes3
namespace Go.Proofs.Ytabkgdichlebmaa
open Go.ChangeShapes Go.WideShapes Go.ChangeAt Go.RowKit
set_option linter.unusedVariables false

namespace bufMakes
theorem lifted (os : Os) (started : os.Started) (H : Type) (enc : TypeId × Value → H) :
    ReturnsInHanded {} Try.checked os 4 .any (Rows.bufMakesSpec.pre6 enc Try.prog Try.f4 Rows.bufMakesRow.domain false) (Rows.bufMakesSpec.post enc Try.prog Try.f4 false true false false) := by
  refine Frame.lift (C := Try.checked) (B := 4) Frame.own started (by kernel_rfl) Try.func4 Frame.laidOut (by kernel_rfl) rfl Try.underlying4 ?_
    (ChangeSpec.witness6 (enc := enc) (C := Try.checked) false ⟨#[], #[.int .i64 0, .int .i64 0, .slice none 0 0, .slice none 0 0], []⟩ 8 (by kernel_rfl) (by kernel_rfl) (by kernel_rfl) (by kernel_rfl)) ?_
  · exact ⟨rfl, fun H ds h => by
      rw [Try.params4] at h
      match ds, h with
      | [_, _, _, _], _ => exact ⟨rfl, rfl, rfl⟩⟩
  · intro W base args ds p hval hA hlt hsz
    rw [Try.params4] at hA hval
    obtain ⟨v0, vs0, d0, ds0, p0, q0, hargs, rfl, rfl, h0, r0⟩ := trodAll_cons hA
    obtain ⟨v1, vs1, d1, ds1, p1, q1, rfl, rfl, rfl, h1, r1⟩ := trodAll_cons r0
    obtain ⟨v2, vs2, d2, ds2, p2, q2, rfl, rfl, rfl, h2, r2⟩ := trodAll_cons r1
    obtain ⟨v3, vs3, d3, ds3, p3, q3, rfl, rfl, rfl, h3, r3⟩ := trodAll_cons r2
    obtain ⟨rfl, rfl, rfl⟩ := trodAll_nil r3
    obtain rfl : args = #[v0, v1, v2, v3] := by cases args; simp_all
    obtain ⟨a0, rfl, rfl, rfl, w0⟩ := open_int Try.underlying3 (hval 0 _ v0 rfl rfl) h0
    obtain ⟨a1, rfl, rfl, rfl, w1⟩ := open_int Try.underlying3 (hval 1 _ v1 rfl rfl) h1
    obtain ⟨A2, n2, c2, l2, rfl, hI2, hA2, hN2⟩ := open_Cels (hval 2 _ v2 rfl rfl) h2
    obtain ⟨A3, n3, c3, l3, rfl, hI3, hA3, hN3⟩ := open_Cels (hval 3 _ v3 rfl rfl) h3
    exact bufMakes_walk a0 a1 A2 A3 n2 n3 c2 c3 l2 l3 W hI2 hI3 hN2 hN3
theorem over : Rows.bufMakesRow.holds Try.pinned (OpenSpec.ofChange Rows.bufMakesSpec) :=
  OpenClaim.holds_of_wide 4 Try.f4 rfl rfl rfl rfl rfl rfl rfl ⟨rfl, rfl, rfl, rfl, rfl⟩ rfl rfl rfl rfl rfl (by kernel_rfl) Try.func4 (by kernel_rfl)
    (of_decide_eq_true (by kernel_rfl)) (by unfold Func.isWrapper; first | (rw [if_pos (by decide +kernel)]; kernel_rfl) | (rw [if_neg (by decide +kernel)]; exact ⟨rfl, rfl⟩))
    (fun os started H enc _ => lifted os started H enc)
/-- THE STATEMENT -/
theorem proved : Rows.BufMakesSaid := over
end bufMakes
end Go.Proofs.Ytabkgdichlebmaa
