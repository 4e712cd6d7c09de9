/-
  BitsBack holds for every input: truths as bytes come back, and what bytes tell has these bytes. Conditions: the given row's own; the library's table math/bits.deBruijn64tab lies as the program's text lays it (the card ties it).
-/
import Derived.Test.YtfnnnbpceeeecaaDoorLaid
import Derived.Test.YtfnnnbpceeeecaaDoorLawBack
import Derived.Test.YtfnnnbpceeeecaaDoorCards
import Derived.Test.YtfnnnbpceeeecaaDoorTie
import Derived.SevenTiedAt
namespace Go.Proofs.YtfnnnbpceeeecaaDoor
open Go.ChangeShapes Go.WideShapes Go.ChangeAt Go.RowKit
set_option linter.unusedVariables false

namespace bitsBack
theorem lifted (os : Os) (started : os.Started) (H : Type) (enc : TypeId × Value → H) :
    ReturnsInHanded {} Tryd.checked os 5 .any (fun w args => (Rows.bitsBackSpec.pre enc Tryd.prog Tryd.f5 [] false w args ∧ laidMetH Tryd.prog laidList w) ∧ sizedMet enc Tryd.prog Tryd.f5 (OpenSpec.ofChange Rows.bitsBackSpec) false w args) (Rows.bitsBackSpec.post enc Tryd.prog Tryd.f5 false true false false) := by
  refine Frame.liftX (C := Tryd.checked) (B := 4) (X := laidMetH Tryd.prog laidList) (fun _ _ hh h => h.of_heap hh) Frame.own started (by kernel_rfl) Tryd.func5 Frame.laidOut (by kernel_rfl) rfl Tryd.underlying4 ?_
    (ChangeSpec.witness_shaped (enc := enc) (C := Tryd.checked) (os := os) (X := fun w _ => laidMetH Tryd.prog laidList w) false (World.doorLaid Tryd.prog 600 os) #[.slice none 0 0, .slice none 0 0, .int .i64 0] 8 rfl (World.shaped_of_RefB (by kernel_rfl) (by kernel_rfl)) (by kernel_rfl) (by kernel_rfl) (by kernel_rfl) (door_met os _)) ?_
  · exact ⟨rfl, fun H ds h => by
      rw [Tryd.params5] at h
      match ds, h with
      | [_, _, _], _ => exact ⟨rfl, rfl, rfl⟩⟩
  · intro W base args ds p hX hval hA hlt hsz
    have hT := tab_of_laid hX
    rw [Tryd.params5] at hA hval
    obtain ⟨v0, vs0, d0, ds0, p0, q0, hargs, rfl, rfl, h0, r0⟩ := trodAll_cons hA
    obtain ⟨v1, vs1, d1, ds1, p1, q1, rfl, rfl, rfl, h1, r1⟩ := trodAll_cons r0
    obtain ⟨v2, vs2, d2, ds2, p2, q2, rfl, rfl, rfl, h2, r2⟩ := trodAll_cons r1
    obtain ⟨rfl, rfl, rfl⟩ := trodAll_nil r2
    obtain rfl : args = #[v0, v1, v2] := by cases args; simp_all
    obtain ⟨A0, n0, c0, l0, rfl, hI0, hN0⟩ := open_Bools Tryd.underlying26 Tryd.underlying4 (by kernel_rfl) (hval 0 _ v0 rfl rfl) h0
    obtain ⟨A1, n1, c1, l1, rfl, hI1, hN1⟩ := open_Octets Tryd.underlying39 Tryd.underlying5 (by kernel_rfl) (hval 1 _ v1 rfl rfl) h1
    obtain ⟨a2, rfl, rfl, rfl, w2⟩ := open_int Tryd.underlying3 (hval 2 _ v2 rfl rfl) h2
    exact bitsBack_walk A0 A1 n0 n1 c0 c1 l0 l1 a2 (i64_of_wf w2) W hT hI0 hI1 hN0 hN1
theorem over : Rows.bitsBackRow.holds Tryd.pinned (OpenSpec.ofChange Rows.bitsBackSpec) :=
  OpenClaim.holds_of_wide 5 Tryd.f5 rfl rfl rfl rfl rfl rfl rfl ⟨rfl, rfl, rfl, rfl, rfl⟩ rfl rfl rfl rfl rfl (by kernel_rfl) Tryd.func5 (by kernel_rfl)
    (of_decide_eq_true (by kernel_rfl)) (by unfold Func.isWrapper; first | (rw [if_pos (by decide +kernel)]; kernel_rfl) | (rw [if_neg (by decide +kernel)]; exact ⟨rfl, rfl⟩))
    (fun os started H enc _ => lifted os started H enc)
/-- THE STATEMENT -/
theorem proved : Rows.BitsBackCardSaid :=
  Claim7.holds_tied_plain_at .later [] [.data] true _ false over (fun _ h => by cases h) (by kernel_rfl) (fun _ h => by cases h) bitsBack_row_tie rfl ⟨rfl, rfl⟩ (by kernel_rfl) rfl
    (fun f fn hf hfn => by
      obtain rfl : f = 5 := Option.some.inj ((show Tryd.prog.funcNamed "quincunx/quincunxlaw02.BitsBack" = some 5 by kernel_rfl).symm.trans hf) |>.symm
      obtain rfl : fn = Tryd.f5 := (Option.some.inj (Tryd.func5.symm.trans hfn)).symm
      refine ⟨by kernel_rfl, fun j t ht => ?_⟩
      rw [Tryd.params5] at ht
      have hall : ∀ t ∈ [26, 39, 3], Tryd.prog.wantsStandIn t = false := by
        intro t h
        simp only [List.mem_cons, List.not_mem_nil, or_false] at h
        rcases h with rfl | rfl | rfl <;> kernel_rfl
      exact hall t (List.mem_of_getElem? (l := [26, 39, 3]) (i := j) (by simpa using ht)))
    (by kernel_rfl)
end bitsBack

end Go.Proofs.YtfnnnbpceeeecaaDoor
