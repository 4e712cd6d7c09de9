/-
  What must come ('knows' of layer 3).
-/
import Derived.Test.YtabkgdichlebmaaRef3c
namespace Go.Proofs.Ytabkgdichlebmaa
open Go.ChangeShapes Go.WideShapes Go.ChangeAt Go.RowKit
set_option linter.unusedVariables false

theorem num3_any (e : Int) (w : World) : Calls Try.prog 21 #[.int .i64 e] w fun en w' => en = .returned (.int .i64 e) ∧ w' = w := by
  go_enter Try.func21, Try.ntmps21
  go_wp2
  go_ret
  exact ⟨rfl, rfl⟩
theorem knows3_list : (fillC (blanks 2) 1 2 ⟨5, true⟩).length = 2 ∧ ((missN (fillC (blanks 2) 1 2 ⟨5, true⟩) : Nat) : Int) = 1 ∧ ((fillC (blanks 2) 1 2 ⟨5, true⟩).getD 1 noCel).norm = ⟨5, true⟩ := by decide
set_option maxHeartbeats 1000000 in
theorem knows3_any (w : World) : Calls Try.prog 6 #[] w (Gave (.bool true) w) := by
  have HL := Lib.hid knows3_list
  go_enter Try.func6, Try.ntmps6
  go_wp2_with fail
  refine (bufNew_any 2 9 w).mono ?_
  rintro e w1 (⟨h0, _⟩ | ⟨_, _, _, g, mp, A, c, rfl, hb, hg⟩)
  · exact absurd (by decide) h0
  have HB := Lib.hid hb
  have HG := Lib.hid hg
  clear hb hg
  go_wp2_with fail
  refine (bufPut_yes w1 w.heap.size w1.heap.size g mp A c (blanks (2 : Int).toNat) 1 ⟨5, true⟩ HB.out (by decide)).mono ?_
  rintro e w2 ⟨rfl, hb, ht⟩
  have hb' : BufG w2 w.heap.size w1.heap.size g mp A c (fillC (blanks 2) 1 2 ⟨5, true⟩) := hb
  have HB2 := Lib.hid hb'
  have HG2 := Lib.hid (Turn.after HG.out ht (Nat.le_refl _))
  clear hb hb' ht
  generalize fillC (blanks 2) 1 2 ⟨5, true⟩ = L at *
  go_wp2_with fail
  refine (bufGet_yes w2 w.heap.size w1.heap.size g mp A c L 1 HB2.out (by rw [HL.out.1]; omega)).mono ?_
  rw [HL.out.2.2]
  rintro e w3 ⟨rfl, hg3⟩
  have HB3 := Lib.hid (HB2.out.grow (hg3))
  have HG3 := Lib.hid (grown_join HG2.out hg3 (.inr (by simp)))
  clear hg3
  go_wp2_with fail
  refine (num3_any 0 _).mono ?_
  rintro e w4 ⟨rfl, hww⟩
  subst hww
  go_wp2_with fail
  refine (bufMissing_any _ L w.heap.size w1.heap.size _ ((HB3.out.grow (World.grownBy_alloc _ _ none)).p)).mono ?_
  rw [HL.out.2.1]
  rintro e w5 ⟨rfl, hg5⟩
  have HB5 := Lib.hid ((HB3.out.grow (World.grownBy_alloc _ _ none)).grow hg5)
  have HG5 := Lib.hid (grown_join (grown_alloc HG3.out _) hg5 (.inr (by simp)))
  clear hg5
  go_wp2_with fail
  refine (buflen_any _ L w.heap.size w1.heap.size _ HB5.out.p).mono ?_
  rw [HL.out.1]
  rintro e w6 ⟨rfl, hg6⟩
  have HG6 := Lib.hid (grown_join HG5.out hg6 (.inr (by simp)))
  clear hg6
  go_wp2_with fail
  go_ret
  exact ⟨rfl, HG6.out⟩
end Go.Proofs.Ytabkgdichlebmaa
