/-
  LabelTells holds for every input: whether labels are right, their parts and tuples, and whether they are unique, is as the document says. Conditions: the given row's own; the library's variables lie as the program's text lays them (the card ties them).
-/
import Derived.Test.YtblmnbaejfhagaaGreatDoorLaid5
import Derived.Test.YtblmnbaejfhagaaGreatDoorTells5
import Derived.Test.YtblmnbaejfhagaaGreatDoorCards
import Derived.Test.YtblmnbaejfhagaaGreatDoorTie
import Derived.SevenTiedAt
namespace Go.Proofs.YtblmnbaejfhagaaGreatDoor
open Go.ChangeShapes Go.WideShapes Go.ChangeAt Go.RowKit
set_option linter.unusedVariables false

namespace labelTells
set_option maxRecDepth 100000 in
theorem lifted (os : Os) (started : os.Started) (H : Type) (enc : TypeId × Value → H) :
    ReturnsInHanded {} Tryz.checked os 3 .any (fun w args => (Rows.labelTellsSpec.pre enc Tryz.prog Tryz.f3 [] false w args ∧ laidMetH Tryz.prog laid5 w) ∧ sizedMet enc Tryz.prog Tryz.f3 (OpenSpec.ofChange Rows.labelTellsSpec) false w args) (Rows.labelTellsSpec.post enc Tryz.prog Tryz.f3 false true false false) := by
  refine Frame.liftX (C := Tryz.checked) (B := 4) (X := laidMetH Tryz.prog laid5) (fun _ _ hh h => h.of_heap hh) Frame.own started (by kernel_rfl) Tryz.func3 Frame.laidOut (by kernel_rfl) rfl Tryz.underlying4 ?_
    (ChangeSpec.witness_shaped (enc := enc) (C := Tryz.checked) (os := os) (X := fun w _ => laidMetH Tryz.prog laid5 w) false (World.laidAll Tryz.prog os laid5) #[.agg #[.int .u8 0, .int .i64 0, .string ⟨#[]⟩], .slice none 0 0, .int .u8 0] 8 (World.laidAll_os _ _ _) (door_shaped os) (by kernel_rfl) (by kernel_rfl) (by kernel_rfl) (door_met os _)) ?_
  · exact ⟨rfl, fun H ds h => by
      rw [Tryz.params3] at h
      match ds, h with
      | [_, _, _], _ => exact ⟨rfl, rfl, rfl⟩⟩
  · intro W base args ds p hX hval hA hlt hsz
    have hV := vars_of_laid hX
    rw [Tryz.params3] at hA hval
    obtain ⟨v0, vs0, d0, ds0, p0, q0, hargs, rfl, rfl, h0, r0⟩ := trodAll_cons hA
    obtain ⟨v1, vs1, d1, ds1, p1, q1, rfl, rfl, rfl, h1, r1⟩ := trodAll_cons r0
    obtain ⟨v2, vs2, d2, ds2, p2, q2, rfl, rfl, rfl, h2, r2⟩ := trodAll_cons r1
    obtain ⟨rfl, rfl, rfl⟩ := trodAll_nil r2
    obtain rfl : args = #[v0, v1, v2] := by cases args; simp_all
    obtain ⟨x0, rfl, hI0⟩ := open_Lab (hval 0 _ v0 rfl rfl) h0
    obtain ⟨A1, n1, c1, l1, rfl, hI1, hL1, hN1⟩ := open_Labs (hval 1 _ v1 rfl rfl) h1
    obtain ⟨a2, rfl, rfl, rfl, w2⟩ := open_int Tryz.underlying5 (hval 2 _ v2 rfl rfl) h2
    exact labelTells_walk x0 A1 n1 c1 l1 a2 W hI0 hI1 hL1 hN1 w2 hV
theorem over : Rows.labelTellsRow.holds Tryz.pinned (OpenSpec.ofChange Rows.labelTellsSpec) :=
  OpenClaim.holds_of_wide 3 Tryz.f3 rfl rfl rfl rfl rfl rfl rfl ⟨rfl, rfl, rfl, rfl, rfl⟩ rfl rfl rfl rfl rfl (by kernel_rfl) Tryz.func3 (by kernel_rfl)
    (of_decide_eq_true (by kernel_rfl)) (by unfold Func.isWrapper; first | (rw [if_pos (by decide +kernel)]; kernel_rfl) | (rw [if_neg (by decide +kernel)]; exact ⟨rfl, rfl⟩))
    (fun os started H enc _ => lifted os started H enc)
/-- THE STATEMENT -/
theorem proved : Rows.LabelTellsCardSaid :=
  Claim7.holds_tied_plain_at .later [] [.data, .data, .data, .data, .sentinel, .sentinel, .pinned] true _ true over (fun _ h => by cases h) (by kernel_rfl) (fun _ h => by cases h) labelTells_row_tie rfl ⟨rfl, rfl⟩ (by kernel_rfl) rfl
    (fun f fn hf hfn => by
      obtain rfl : f = 3 := Option.some.inj ((show Tryz.prog.funcNamed "quincunx/quincunxlaw05.LabelTells" = some 3 by kernel_rfl).symm.trans hf) |>.symm
      obtain rfl : fn = Tryz.f3 := (Option.some.inj (Tryz.func3.symm.trans hfn)).symm
      refine ⟨by kernel_rfl, fun j t ht => ?_⟩
      rw [Tryz.params3] at ht
      have hall : ∀ t ∈ [23, 24, 5], Tryz.prog.wantsStandIn t = false := by
        intro t h
        simp only [List.mem_cons, List.not_mem_nil, or_false] at h
        rcases h with rfl | rfl | rfl <;> kernel_rfl
      exact hall t (List.mem_of_getElem? (l := [23, 24, 5]) (i := j) (by simpa using ht)))
    (by kernel_rfl)
end labelTells

end Go.Proofs.YtblmnbaejfhagaaGreatDoor
