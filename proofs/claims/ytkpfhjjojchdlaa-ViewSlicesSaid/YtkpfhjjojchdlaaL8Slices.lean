/-
  ViewSlices holds for every input: a view with some places of an axis, flipped, and in another order, is as the document says. Conditions: none beside the given row's own.
-/
import Derived.Test.YtkpfhjjojchdlaaFrame
import Derived.Test.YtkpfhjjojchdlaaOpen8
import Derived.Test.YtkpfhjjojchdlaaSaid8
namespace Go.Proofs.Ytkpfhjjojchdlaa
open Go.ChangeShapes Go.WideShapes Go.ChangeAt Go.RowKit
set_option linter.unusedVariables false
set_option maxRecDepth 100000

namespace viewSlices
theorem lifted (os : Os) (started : os.Started) (H : Type) (enc : TypeId × Value → H) :
    ReturnsInHanded {} Try.checked os 4 .any (Rows.viewSlicesSpec.pre6 enc Try.prog Try.f4 Rows.viewSlicesRow.domain false) (Rows.viewSlicesSpec.post enc Try.prog Try.f4 false true false false) := by
  refine Frame.lift (C := Try.checked) (B := 4) Frame.own started (by kernel_rfl) Try.func4 Frame.laidOut (by kernel_rfl) rfl Try.underlying4 ?_
    (ChangeSpec.witness6 (enc := enc) (C := Try.checked) false ⟨#[], #[.agg #[.slice none 0 0, .slice none 0 0, .int .i64 0], .int .i64 0, .int .i64 0, .int .i64 0, .int .i64 0, .slice none 0 0], []⟩ 8 (by kernel_rfl) (by kernel_rfl) (by kernel_rfl) (by kernel_rfl)) ?_
  · exact ⟨rfl, fun H ds h => by
      rw [Try.params4] at h
      match ds, h with
      | [_, _, _, _, _, _], _ => exact ⟨rfl, rfl, rfl⟩⟩
  · intro W base args ds p hval hA hlt hsz
    rw [Try.params4] at hA hval
    obtain ⟨v0, vs0, d0, ds0, p0, q0, hargs, rfl, rfl, h0, r0⟩ := trodAll_cons hA
    obtain ⟨v1, vs1, d1, ds1, p1, q1, rfl, rfl, rfl, h1, r1⟩ := trodAll_cons r0
    obtain ⟨v2, vs2, d2, ds2, p2, q2, rfl, rfl, rfl, h2, r2⟩ := trodAll_cons r1
    obtain ⟨v3, vs3, d3, ds3, p3, q3, rfl, rfl, rfl, h3, r3⟩ := trodAll_cons r2
    obtain ⟨v4, vs4, d4, ds4, p4, q4, rfl, rfl, rfl, h4, r4⟩ := trodAll_cons r3
    obtain ⟨v5, vs5, d5, ds5, p5, q5, rfl, rfl, rfl, h5, r5⟩ := trodAll_cons r4
    obtain ⟨rfl, rfl, rfl⟩ := trodAll_nil r5
    obtain rfl : args = #[v0, v1, v2, v3, v4, v5] := by cases args; simp_all
    obtain ⟨A, n, c, B, m, d, s, t, o, rfl, hs, ht, ho⟩ := open_View (hval 0 _ v0 rfl rfl) h0
    obtain ⟨a1, rfl, rfl, rfl, w1⟩ := open_int Try.underlying3 (hval 1 _ v1 rfl rfl) h1
    obtain ⟨a2, rfl, rfl, rfl, w2⟩ := open_int Try.underlying3 (hval 2 _ v2 rfl rfl) h2
    obtain ⟨a3, rfl, rfl, rfl, w3⟩ := open_int Try.underlying3 (hval 3 _ v3 rfl rfl) h3
    obtain ⟨a4, rfl, rfl, rfl, w4⟩ := open_int Try.underlying3 (hval 4 _ v4 rfl rfl) h4
    obtain ⟨A5, n5, c5, l5, rfl, hI5, hZ5⟩ := open_Nums8 (hval 5 _ v5 rfl rfl) h5
    exact viewSlices_walk says8 A B A5 n c m d n5 c5 s t l5 o a1 a2 a3 a4 W hs ht ho hI5 (i64_of_wf w1) (i64_of_wf w2) (i64_of_wf w3) (i64_of_wf w4) hZ5
theorem over : Rows.viewSlicesRow.holds Try.pinned (OpenSpec.ofChange Rows.viewSlicesSpec) :=
  OpenClaim.holds_of_wide 4 Try.f4 rfl rfl rfl rfl rfl rfl rfl ⟨rfl, rfl, rfl, rfl, rfl⟩ rfl rfl rfl rfl rfl (by kernel_rfl) Try.func4 (by kernel_rfl)
    (of_decide_eq_true (by kernel_rfl)) (by unfold Func.isWrapper; first | (rw [if_pos (by decide +kernel)]; kernel_rfl) | (rw [if_neg (by decide +kernel)]; exact ⟨rfl, rfl⟩))
    (fun os started H enc _ => lifted os started H enc)
/-- THE STATEMENT -/
theorem proved : Rows.ViewSlicesSaid := over
end viewSlices
end Go.Proofs.Ytkpfhjjojchdlaa
