/-
  Layer 7: the walk of ShapeBack, out of what is asked of the program's own shape.
-/
import Derived.Test.YtjlgghecocpdfaaSays7
namespace Go.Proofs.Ytjlgghecocpdfaa
open Go.ChangeShapes Go.WideShapes Go.ChangeAt Go.RowKit
set_option linter.unusedVariables false

set_option maxRecDepth 100000 in
set_option maxHeartbeats 4000000 in
theorem shapeBack_any (S : ShapeSays) (A A' : Option Addr) (n c n' c' : Nat) (s t : List Int) (p : Int) (w : World) (h : NumsF w A n c s) (h' : NumsF w A' n' c' t) (hp : I64 p) :
    Calls Try.prog 5 #[.slice A n c, .int .i64 p, .slice A' n' c'] w (TellG (.bool true) w) := by
  have HK := Lib.hid (fun w' => knows7_any S w')
  have HS := Lib.hid S
  clear S
  by_cases hb0 : 40 < n
  · have d0 : decide ((40 : Int) < (n : Int)) = true := decide_eq_true (by omega)
    have e0 : decide (40 < n) = true := decide_eq_true hb0
    clear hb0
    go_enter Try.func5, Try.ntmps5
    go_wp2_with fail
    refine (HK.out _).mono ?_
    rintro e w2 ⟨rfl, hg⟩
    have HG := Lib.hid hg
    clear hg
    go_wp2_with fail
    go_ret
    exact ⟨rfl, HG.out⟩
  · have d0 : decide ((40 : Int) < (n : Int)) = false := decide_eq_false (by omega)
    have e0 : decide (40 < n) = false := decide_eq_false hb0
    by_cases hb1 : 40 < n'
    · have d1 : decide ((40 : Int) < (n' : Int)) = true := decide_eq_true (by omega)
      have e1 : decide (40 < n') = true := decide_eq_true hb1
      clear hb1
      go_enter Try.func5, Try.ntmps5
      go_wp2_with fail
      refine (HK.out _).mono ?_
      rintro e w2 ⟨rfl, hg⟩
      have HG := Lib.hid hg
      clear hg
      go_wp2_with fail
      go_ret
      exact ⟨rfl, HG.out⟩
    · have d1 : decide ((40 : Int) < (n' : Int)) = false := decide_eq_false (by omega)
      have e1 : decide (40 < n') = false := decide_eq_false hb1
      have HN := Lib.hid h
      have HT := Lib.hid h'
      have HLN := Lib.hid h.len
      have HLT := Lib.hid h'.len
      have HG1 := Lib.hid (grown_refl w none)
      have hn6 : n ≤ 40 := by omega
      have hn7 : n' ≤ 40 := by omega
      obtain ⟨w1, hw1⟩ : ∃ w1, w1 = w := ⟨_, rfl⟩
      subst hw1
      clear h h' hb0 hb1
      cases hf : full s with
      | false =>
        have VSB := Lib.hid (show sizeB s 1048576 = false from hf)
        have VSV := Lib.hid (size_no VSB.out)
        have VAB := Lib.hid (show atB s p = false by unfold atB; rw [hf]; rfl)
        have VPB := Lib.hid (show placeB s t = false by unfold placeB; rw [hf]; rfl)
        clear hf
        go_enter Try.func5, Try.ntmps5
        go_wp2_with fail
        refine (HK.out w1).mono ?_
        rintro e w2 ⟨rfl, hg⟩
        have HG2 := Lib.hid (grown_join HG1.out hg (.inr (by simp)))
        have HN := Lib.hid (HN.out.grow hg)
        have HT := Lib.hid (HT.out.grow hg)
        clear hg
        go_wp2_with fail
        refine (HS.out.size A n c s 1048576 w2 HN.out (by omega) ⟨by omega, by omega⟩).mono ?_
        rintro e w3 ⟨rfl, hg⟩
        have HG3 := Lib.hid (grown_join HG2.out hg (.inr (by simp)))
        have HN := Lib.hid (HN.out.grow hg)
        have HT := Lib.hid (HT.out.grow hg)
        clear hg
        rw [VSV.out, VSB.out]
        go_wp2_with fail
        refine (HS.out.at_ A n c s p w3 HN.out (by omega) hp).mono ?_
        rintro e w4 ⟨A4, n4, c4, rfl, hn4, hg⟩
        have HG4 := Lib.hid (grown_join HG3.out hg (.inr (by simp)))
        have HN := Lib.hid (HN.out.grow hg)
        have HT := Lib.hid (HT.out.grow hg)
        have HV4 := Lib.hid hn4
        have HL4 := Lib.hid hn4.len
        clear hg hn4
        rw [VAB.out]
        go_wp2_with fail
        refine (HS.out.place A n c A' n' c' s t w4 HN.out (by omega) HT.out (by omega)).mono ?_
        rintro e w5 ⟨rfl, hg⟩
        have HG5 := Lib.hid (grown_join HG4.out hg (.inr (by simp)))
        have HN := Lib.hid (HN.out.grow hg)
        have HT := Lib.hid (HT.out.grow hg)
        have HV4 := Lib.hid (HV4.out.grow hg)
        clear hg
        rw [VPB.out]
        go_wp2_with fail
        go_ret
        exact ⟨rfl, HG5.out⟩
      | true =>
        have VSB := Lib.hid (show sizeB s 1048576 = true from hf)
        have VSV := Lib.hid (size_yes VSB.out)
        have VFU := Lib.hid hf
        have VFA := Lib.hid (full_all hf)
        clear hf
        by_cases hp0 : p < 0
        · have d2 : decide ((0 : Int) ≤ p) = false := decide_eq_false (by omega)
          have VAB := Lib.hid (show atB s p = false by unfold atB; rw [VFU.out]; simp only [Bool.true_and, decide_eq_false_iff_not]; omega)
          clear hp0
          cases hh : hasB s t with
          | false =>
            have VHB := Lib.hid hh
            have VPB := Lib.hid (show placeB s t = false by unfold placeB; rw [VFU.out, hh]; rfl)
            clear hh
            go_enter Try.func5, Try.ntmps5
            go_wp2_with fail
            refine (HK.out w1).mono ?_
            rintro e w2 ⟨rfl, hg⟩
            have HG2 := Lib.hid (grown_join HG1.out hg (.inr (by simp)))
            have HN := Lib.hid (HN.out.grow hg)
            have HT := Lib.hid (HT.out.grow hg)
            clear hg
            go_wp2_with fail
            refine (HS.out.size A n c s 1048576 w2 HN.out (by omega) ⟨by omega, by omega⟩).mono ?_
            rintro e w3 ⟨rfl, hg⟩
            have HG3 := Lib.hid (grown_join HG2.out hg (.inr (by simp)))
            have HN := Lib.hid (HN.out.grow hg)
            have HT := Lib.hid (HT.out.grow hg)
            clear hg
            rw [VSV.out, VSB.out]
            go_wp2_with fail
            refine (HS.out.at_ A n c s p w3 HN.out (by omega) hp).mono ?_
            rintro e w4 ⟨A4, n4, c4, rfl, hn4, hg⟩
            have HG4 := Lib.hid (grown_join HG3.out hg (.inr (by simp)))
            have HN := Lib.hid (HN.out.grow hg)
            have HT := Lib.hid (HT.out.grow hg)
            have HV4 := Lib.hid hn4
            have HL4 := Lib.hid hn4.len
            clear hg hn4
            rw [VAB.out]
            go_wp2_with fail
            refine (HS.out.place A n c A' n' c' s t w4 HN.out (by omega) HT.out (by omega)).mono ?_
            rintro e w5 ⟨rfl, hg⟩
            have HG5 := Lib.hid (grown_join HG4.out hg (.inr (by simp)))
            have HN := Lib.hid (HN.out.grow hg)
            have HT := Lib.hid (HT.out.grow hg)
            have HV4 := Lib.hid (HV4.out.grow hg)
            clear hg
            rw [VPB.out]
            go_wp2_with fail
            refine (HS.out.has A n c A' n' c' s t w5 HN.out (by omega) HT.out (by omega)).mono ?_
            rintro e w6 ⟨rfl, hg⟩
            have HG6 := Lib.hid (grown_join HG5.out hg (.inr (by simp)))
            have HN := Lib.hid (HN.out.grow hg)
            have HT := Lib.hid (HT.out.grow hg)
            have HV4 := Lib.hid (HV4.out.grow hg)
            clear hg
            rw [VHB.out]
            go_wp2_with fail
            go_ret
            exact ⟨rfl, HG6.out⟩
          | true =>
            have VHB := Lib.hid hh
            have VPB := Lib.hid (show placeB s t = true by unfold placeB; rw [VFU.out, hh]; rfl)
            have VAP := Lib.hid (at_of_place VPB.out)
            have hpi := place_in VPB.out
            have VPI := Lib.hid (show I64 (placeV s t) by have := VFA.out.2; exact ⟨by omega, by omega⟩)
            have q1 : decide (placeV s t < 0) = false := decide_eq_false (by omega)
            have q2 : decide (prodL s ≤ placeV s t) = false := decide_eq_false (by omega)
            clear hpi
            clear hh
            go_enter Try.func5, Try.ntmps5
            go_wp2_with fail
            refine (HK.out w1).mono ?_
            rintro e w2 ⟨rfl, hg⟩
            have HG2 := Lib.hid (grown_join HG1.out hg (.inr (by simp)))
            have HN := Lib.hid (HN.out.grow hg)
            have HT := Lib.hid (HT.out.grow hg)
            clear hg
            go_wp2_with fail
            refine (HS.out.size A n c s 1048576 w2 HN.out (by omega) ⟨by omega, by omega⟩).mono ?_
            rintro e w3 ⟨rfl, hg⟩
            have HG3 := Lib.hid (grown_join HG2.out hg (.inr (by simp)))
            have HN := Lib.hid (HN.out.grow hg)
            have HT := Lib.hid (HT.out.grow hg)
            clear hg
            rw [VSV.out, VSB.out]
            go_wp2_with fail
            refine (HS.out.at_ A n c s p w3 HN.out (by omega) hp).mono ?_
            rintro e w4 ⟨A4, n4, c4, rfl, hn4, hg⟩
            have HG4 := Lib.hid (grown_join HG3.out hg (.inr (by simp)))
            have HN := Lib.hid (HN.out.grow hg)
            have HT := Lib.hid (HT.out.grow hg)
            have HV4 := Lib.hid hn4
            have HL4 := Lib.hid hn4.len
            clear hg hn4
            rw [VAB.out]
            go_wp2_with fail
            refine (HS.out.place A n c A' n' c' s t w4 HN.out (by omega) HT.out (by omega)).mono ?_
            rintro e w5 ⟨rfl, hg⟩
            have HG5 := Lib.hid (grown_join HG4.out hg (.inr (by simp)))
            have HN := Lib.hid (HN.out.grow hg)
            have HT := Lib.hid (HT.out.grow hg)
            have HV4 := Lib.hid (HV4.out.grow hg)
            clear hg
            rw [VPB.out]
            go_wp2_with fail
            refine (HS.out.has A n c A' n' c' s t w5 HN.out (by omega) HT.out (by omega)).mono ?_
            rintro e w6 ⟨rfl, hg⟩
            have HG6 := Lib.hid (grown_join HG5.out hg (.inr (by simp)))
            have HN := Lib.hid (HN.out.grow hg)
            have HT := Lib.hid (HT.out.grow hg)
            have HV4 := Lib.hid (HV4.out.grow hg)
            clear hg
            rw [VHB.out]
            go_wp2_with fail
            refine (HS.out.at_ A n c s (placeV s t) w6 HN.out (by omega) VPI.out).mono ?_
            rintro e w7 ⟨A7, n7, c7, rfl, hn7, hg⟩
            have HG7 := Lib.hid (grown_join HG6.out hg (.inr (by simp)))
            have HN := Lib.hid (HN.out.grow hg)
            have HT := Lib.hid (HT.out.grow hg)
            have HV4 := Lib.hid (HV4.out.grow hg)
            have HV7 := Lib.hid hn7
            have HL7 := Lib.hid hn7.len
            clear hg hn7
            rw [VAP.out.1]
            go_wp2_with fail
            refine ((ints7_any _ _ _ _ _ _ _ _ _ _ w7 HV7.out.1 HT.out.1 (by have := HL7.out; have := atL_short s (placeV s t); have := HLN.out; omega) (by omega)).mono (fun _ _ h => ToldV.tells h)).mono ?_
            rintro e w8 ⟨rfl, hg⟩
            have HG8 := Lib.hid (grown_join HG7.out hg (.inr (by simp)))
            have HN := Lib.hid (HN.out.grow hg)
            have HT := Lib.hid (HT.out.grow hg)
            have HV4 := Lib.hid (HV4.out.grow hg)
            have HV7 := Lib.hid (HV7.out.grow hg)
            clear hg
            rw [decide_eq_true VAP.out.2]
            go_wp2_with fail
            go_ret
            exact ⟨rfl, HG8.out⟩
        · have d2 : decide ((0 : Int) ≤ p) = true := decide_eq_true (by omega)
          by_cases hp1 : p < prodL s
          · have d3 : decide (p < prodL s) = true := decide_eq_true hp1
            have VAB := Lib.hid (show atB s p = true by unfold atB; rw [VFU.out]; simp only [Bool.true_and, decide_eq_true_eq]; omega)
            have VPA := Lib.hid (place_of_at VAB.out)
            have VHA := Lib.hid (show hasB s (atL s p) = true by have := VPA.out.1; unfold placeB at this; rw [VFU.out, Bool.true_and] at this; exact this)
            clear hp0 hp1
            cases hh : hasB s t with
            | false =>
              have VHB := Lib.hid hh
              have VPB := Lib.hid (show placeB s t = false by unfold placeB; rw [VFU.out, hh]; rfl)
              clear hh
              go_enter Try.func5, Try.ntmps5
              go_wp2_with fail
              refine (HK.out w1).mono ?_
              rintro e w2 ⟨rfl, hg⟩
              have HG2 := Lib.hid (grown_join HG1.out hg (.inr (by simp)))
              have HN := Lib.hid (HN.out.grow hg)
              have HT := Lib.hid (HT.out.grow hg)
              clear hg
              go_wp2_with fail
              refine (HS.out.size A n c s 1048576 w2 HN.out (by omega) ⟨by omega, by omega⟩).mono ?_
              rintro e w3 ⟨rfl, hg⟩
              have HG3 := Lib.hid (grown_join HG2.out hg (.inr (by simp)))
              have HN := Lib.hid (HN.out.grow hg)
              have HT := Lib.hid (HT.out.grow hg)
              clear hg
              rw [VSV.out, VSB.out]
              go_wp2_with fail
              refine (HS.out.at_ A n c s p w3 HN.out (by omega) hp).mono ?_
              rintro e w4 ⟨A4, n4, c4, rfl, hn4, hg⟩
              have HG4 := Lib.hid (grown_join HG3.out hg (.inr (by simp)))
              have HN := Lib.hid (HN.out.grow hg)
              have HT := Lib.hid (HT.out.grow hg)
              have HV4 := Lib.hid hn4
              have HL4 := Lib.hid hn4.len
              clear hg hn4
              rw [VAB.out]
              go_wp2_with fail
              refine (HS.out.place A n c A' n' c' s t w4 HN.out (by omega) HT.out (by omega)).mono ?_
              rintro e w5 ⟨rfl, hg⟩
              have HG5 := Lib.hid (grown_join HG4.out hg (.inr (by simp)))
              have HN := Lib.hid (HN.out.grow hg)
              have HT := Lib.hid (HT.out.grow hg)
              have HV4 := Lib.hid (HV4.out.grow hg)
              clear hg
              rw [VPB.out]
              go_wp2_with fail
              refine (HS.out.has A n c A' n' c' s t w5 HN.out (by omega) HT.out (by omega)).mono ?_
              rintro e w6 ⟨rfl, hg⟩
              have HG6 := Lib.hid (grown_join HG5.out hg (.inr (by simp)))
              have HN := Lib.hid (HN.out.grow hg)
              have HT := Lib.hid (HT.out.grow hg)
              have HV4 := Lib.hid (HV4.out.grow hg)
              clear hg
              rw [VHB.out]
              go_wp2_with fail
              refine (HS.out.place A n c _ _ _ s (atL s p) w6 HN.out (by omega) HV4.out (by have := HL4.out; have := atL_short s p; have := HLN.out; omega)).mono ?_
              rintro e w7 ⟨rfl, hg⟩
              have HG7 := Lib.hid (grown_join HG6.out hg (.inr (by simp)))
              have HN := Lib.hid (HN.out.grow hg)
              have HT := Lib.hid (HT.out.grow hg)
              have HV4 := Lib.hid (HV4.out.grow hg)
              clear hg
              rw [VPA.out.2, VPA.out.1]
              go_wp2_with fail
              refine (HS.out.has A n c _ _ _ s (atL s p) w7 HN.out (by omega) HV4.out (by have := HL4.out; have := atL_short s p; have := HLN.out; omega)).mono ?_
              rintro e w8 ⟨rfl, hg⟩
              have HG8 := Lib.hid (grown_join HG7.out hg (.inr (by simp)))
              have HN := Lib.hid (HN.out.grow hg)
              have HT := Lib.hid (HT.out.grow hg)
              have HV4 := Lib.hid (HV4.out.grow hg)
              clear hg
              rw [VHA.out]
              go_wp2_with fail
              go_ret
              exact ⟨rfl, HG8.out⟩
            | true =>
              have VHB := Lib.hid hh
              have VPB := Lib.hid (show placeB s t = true by unfold placeB; rw [VFU.out, hh]; rfl)
              have VAP := Lib.hid (at_of_place VPB.out)
              have hpi := place_in VPB.out
              have VPI := Lib.hid (show I64 (placeV s t) by have := VFA.out.2; exact ⟨by omega, by omega⟩)
              have q1 : decide (placeV s t < 0) = false := decide_eq_false (by omega)
              have q2 : decide (prodL s ≤ placeV s t) = false := decide_eq_false (by omega)
              clear hpi
              clear hh
              go_enter Try.func5, Try.ntmps5
              go_wp2_with fail
              refine (HK.out w1).mono ?_
              rintro e w2 ⟨rfl, hg⟩
              have HG2 := Lib.hid (grown_join HG1.out hg (.inr (by simp)))
              have HN := Lib.hid (HN.out.grow hg)
              have HT := Lib.hid (HT.out.grow hg)
              clear hg
              go_wp2_with fail
              refine (HS.out.size A n c s 1048576 w2 HN.out (by omega) ⟨by omega, by omega⟩).mono ?_
              rintro e w3 ⟨rfl, hg⟩
              have HG3 := Lib.hid (grown_join HG2.out hg (.inr (by simp)))
              have HN := Lib.hid (HN.out.grow hg)
              have HT := Lib.hid (HT.out.grow hg)
              clear hg
              rw [VSV.out, VSB.out]
              go_wp2_with fail
              refine (HS.out.at_ A n c s p w3 HN.out (by omega) hp).mono ?_
              rintro e w4 ⟨A4, n4, c4, rfl, hn4, hg⟩
              have HG4 := Lib.hid (grown_join HG3.out hg (.inr (by simp)))
              have HN := Lib.hid (HN.out.grow hg)
              have HT := Lib.hid (HT.out.grow hg)
              have HV4 := Lib.hid hn4
              have HL4 := Lib.hid hn4.len
              clear hg hn4
              rw [VAB.out]
              go_wp2_with fail
              refine (HS.out.place A n c A' n' c' s t w4 HN.out (by omega) HT.out (by omega)).mono ?_
              rintro e w5 ⟨rfl, hg⟩
              have HG5 := Lib.hid (grown_join HG4.out hg (.inr (by simp)))
              have HN := Lib.hid (HN.out.grow hg)
              have HT := Lib.hid (HT.out.grow hg)
              have HV4 := Lib.hid (HV4.out.grow hg)
              clear hg
              rw [VPB.out]
              go_wp2_with fail
              refine (HS.out.has A n c A' n' c' s t w5 HN.out (by omega) HT.out (by omega)).mono ?_
              rintro e w6 ⟨rfl, hg⟩
              have HG6 := Lib.hid (grown_join HG5.out hg (.inr (by simp)))
              have HN := Lib.hid (HN.out.grow hg)
              have HT := Lib.hid (HT.out.grow hg)
              have HV4 := Lib.hid (HV4.out.grow hg)
              clear hg
              rw [VHB.out]
              go_wp2_with fail
              refine (HS.out.place A n c _ _ _ s (atL s p) w6 HN.out (by omega) HV4.out (by have := HL4.out; have := atL_short s p; have := HLN.out; omega)).mono ?_
              rintro e w7 ⟨rfl, hg⟩
              have HG7 := Lib.hid (grown_join HG6.out hg (.inr (by simp)))
              have HN := Lib.hid (HN.out.grow hg)
              have HT := Lib.hid (HT.out.grow hg)
              have HV4 := Lib.hid (HV4.out.grow hg)
              clear hg
              rw [VPA.out.2, VPA.out.1]
              go_wp2_with fail
              refine (HS.out.has A n c _ _ _ s (atL s p) w7 HN.out (by omega) HV4.out (by have := HL4.out; have := atL_short s p; have := HLN.out; omega)).mono ?_
              rintro e w8 ⟨rfl, hg⟩
              have HG8 := Lib.hid (grown_join HG7.out hg (.inr (by simp)))
              have HN := Lib.hid (HN.out.grow hg)
              have HT := Lib.hid (HT.out.grow hg)
              have HV4 := Lib.hid (HV4.out.grow hg)
              clear hg
              rw [VHA.out]
              go_wp2_with fail
              refine (HS.out.at_ A n c s (placeV s t) w8 HN.out (by omega) VPI.out).mono ?_
              rintro e w9 ⟨A9, n9, c9, rfl, hn9, hg⟩
              have HG9 := Lib.hid (grown_join HG8.out hg (.inr (by simp)))
              have HN := Lib.hid (HN.out.grow hg)
              have HT := Lib.hid (HT.out.grow hg)
              have HV4 := Lib.hid (HV4.out.grow hg)
              have HV9 := Lib.hid hn9
              have HL9 := Lib.hid hn9.len
              clear hg hn9
              rw [VAP.out.1]
              go_wp2_with fail
              refine ((ints7_any _ _ _ _ _ _ _ _ _ _ w9 HV9.out.1 HT.out.1 (by have := HL9.out; have := atL_short s (placeV s t); have := HLN.out; omega) (by omega)).mono (fun _ _ h => ToldV.tells h)).mono ?_
              rintro e w10 ⟨rfl, hg⟩
              have HG10 := Lib.hid (grown_join HG9.out hg (.inr (by simp)))
              have HN := Lib.hid (HN.out.grow hg)
              have HT := Lib.hid (HT.out.grow hg)
              have HV4 := Lib.hid (HV4.out.grow hg)
              have HV9 := Lib.hid (HV9.out.grow hg)
              clear hg
              rw [decide_eq_true VAP.out.2]
              go_wp2_with fail
              go_ret
              exact ⟨rfl, HG10.out⟩
          · have d3 : decide (p < prodL s) = false := decide_eq_false hp1
            have VAB := Lib.hid (show atB s p = false by unfold atB; rw [VFU.out]; simp only [Bool.true_and, decide_eq_false_iff_not]; omega)
            clear hp0 hp1
            cases hh : hasB s t with
            | false =>
              have VHB := Lib.hid hh
              have VPB := Lib.hid (show placeB s t = false by unfold placeB; rw [VFU.out, hh]; rfl)
              clear hh
              go_enter Try.func5, Try.ntmps5
              go_wp2_with fail
              refine (HK.out w1).mono ?_
              rintro e w2 ⟨rfl, hg⟩
              have HG2 := Lib.hid (grown_join HG1.out hg (.inr (by simp)))
              have HN := Lib.hid (HN.out.grow hg)
              have HT := Lib.hid (HT.out.grow hg)
              clear hg
              go_wp2_with fail
              refine (HS.out.size A n c s 1048576 w2 HN.out (by omega) ⟨by omega, by omega⟩).mono ?_
              rintro e w3 ⟨rfl, hg⟩
              have HG3 := Lib.hid (grown_join HG2.out hg (.inr (by simp)))
              have HN := Lib.hid (HN.out.grow hg)
              have HT := Lib.hid (HT.out.grow hg)
              clear hg
              rw [VSV.out, VSB.out]
              go_wp2_with fail
              refine (HS.out.at_ A n c s p w3 HN.out (by omega) hp).mono ?_
              rintro e w4 ⟨A4, n4, c4, rfl, hn4, hg⟩
              have HG4 := Lib.hid (grown_join HG3.out hg (.inr (by simp)))
              have HN := Lib.hid (HN.out.grow hg)
              have HT := Lib.hid (HT.out.grow hg)
              have HV4 := Lib.hid hn4
              have HL4 := Lib.hid hn4.len
              clear hg hn4
              rw [VAB.out]
              go_wp2_with fail
              refine (HS.out.place A n c A' n' c' s t w4 HN.out (by omega) HT.out (by omega)).mono ?_
              rintro e w5 ⟨rfl, hg⟩
              have HG5 := Lib.hid (grown_join HG4.out hg (.inr (by simp)))
              have HN := Lib.hid (HN.out.grow hg)
              have HT := Lib.hid (HT.out.grow hg)
              have HV4 := Lib.hid (HV4.out.grow hg)
              clear hg
              rw [VPB.out]
              go_wp2_with fail
              refine (HS.out.has A n c A' n' c' s t w5 HN.out (by omega) HT.out (by omega)).mono ?_
              rintro e w6 ⟨rfl, hg⟩
              have HG6 := Lib.hid (grown_join HG5.out hg (.inr (by simp)))
              have HN := Lib.hid (HN.out.grow hg)
              have HT := Lib.hid (HT.out.grow hg)
              have HV4 := Lib.hid (HV4.out.grow hg)
              clear hg
              rw [VHB.out]
              go_wp2_with fail
              go_ret
              exact ⟨rfl, HG6.out⟩
            | true =>
              have VHB := Lib.hid hh
              have VPB := Lib.hid (show placeB s t = true by unfold placeB; rw [VFU.out, hh]; rfl)
              have VAP := Lib.hid (at_of_place VPB.out)
              have hpi := place_in VPB.out
              have VPI := Lib.hid (show I64 (placeV s t) by have := VFA.out.2; exact ⟨by omega, by omega⟩)
              have q1 : decide (placeV s t < 0) = false := decide_eq_false (by omega)
              have q2 : decide (prodL s ≤ placeV s t) = false := decide_eq_false (by omega)
              clear hpi
              clear hh
              go_enter Try.func5, Try.ntmps5
              go_wp2_with fail
              refine (HK.out w1).mono ?_
              rintro e w2 ⟨rfl, hg⟩
              have HG2 := Lib.hid (grown_join HG1.out hg (.inr (by simp)))
              have HN := Lib.hid (HN.out.grow hg)
              have HT := Lib.hid (HT.out.grow hg)
              clear hg
              go_wp2_with fail
              refine (HS.out.size A n c s 1048576 w2 HN.out (by omega) ⟨by omega, by omega⟩).mono ?_
              rintro e w3 ⟨rfl, hg⟩
              have HG3 := Lib.hid (grown_join HG2.out hg (.inr (by simp)))
              have HN := Lib.hid (HN.out.grow hg)
              have HT := Lib.hid (HT.out.grow hg)
              clear hg
              rw [VSV.out, VSB.out]
              go_wp2_with fail
              refine (HS.out.at_ A n c s p w3 HN.out (by omega) hp).mono ?_
              rintro e w4 ⟨A4, n4, c4, rfl, hn4, hg⟩
              have HG4 := Lib.hid (grown_join HG3.out hg (.inr (by simp)))
              have HN := Lib.hid (HN.out.grow hg)
              have HT := Lib.hid (HT.out.grow hg)
              have HV4 := Lib.hid hn4
              have HL4 := Lib.hid hn4.len
              clear hg hn4
              rw [VAB.out]
              go_wp2_with fail
              refine (HS.out.place A n c A' n' c' s t w4 HN.out (by omega) HT.out (by omega)).mono ?_
              rintro e w5 ⟨rfl, hg⟩
              have HG5 := Lib.hid (grown_join HG4.out hg (.inr (by simp)))
              have HN := Lib.hid (HN.out.grow hg)
              have HT := Lib.hid (HT.out.grow hg)
              have HV4 := Lib.hid (HV4.out.grow hg)
              clear hg
              rw [VPB.out]
              go_wp2_with fail
              refine (HS.out.has A n c A' n' c' s t w5 HN.out (by omega) HT.out (by omega)).mono ?_
              rintro e w6 ⟨rfl, hg⟩
              have HG6 := Lib.hid (grown_join HG5.out hg (.inr (by simp)))
              have HN := Lib.hid (HN.out.grow hg)
              have HT := Lib.hid (HT.out.grow hg)
              have HV4 := Lib.hid (HV4.out.grow hg)
              clear hg
              rw [VHB.out]
              go_wp2_with fail
              refine (HS.out.at_ A n c s (placeV s t) w6 HN.out (by omega) VPI.out).mono ?_
              rintro e w7 ⟨A7, n7, c7, rfl, hn7, hg⟩
              have HG7 := Lib.hid (grown_join HG6.out hg (.inr (by simp)))
              have HN := Lib.hid (HN.out.grow hg)
              have HT := Lib.hid (HT.out.grow hg)
              have HV4 := Lib.hid (HV4.out.grow hg)
              have HV7 := Lib.hid hn7
              have HL7 := Lib.hid hn7.len
              clear hg hn7
              rw [VAP.out.1]
              go_wp2_with fail
              refine ((ints7_any _ _ _ _ _ _ _ _ _ _ w7 HV7.out.1 HT.out.1 (by have := HL7.out; have := atL_short s (placeV s t); have := HLN.out; omega) (by omega)).mono (fun _ _ h => ToldV.tells h)).mono ?_
              rintro e w8 ⟨rfl, hg⟩
              have HG8 := Lib.hid (grown_join HG7.out hg (.inr (by simp)))
              have HN := Lib.hid (HN.out.grow hg)
              have HT := Lib.hid (HT.out.grow hg)
              have HV4 := Lib.hid (HV4.out.grow hg)
              have HV7 := Lib.hid (HV7.out.grow hg)
              clear hg
              rw [decide_eq_true VAP.out.2]
              go_wp2_with fail
              go_ret
              exact ⟨rfl, HG8.out⟩
end Go.Proofs.Ytjlgghecocpdfaa
