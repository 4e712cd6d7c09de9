/-
  Layer 7: the walk of ShapeTells, out of what is asked of the program's own shape.
-/
import Derived.Test.YtjlgghecocpdfaaSays7
namespace Go.Proofs.Ytjlgghecocpdfaa
open Go.ChangeShapes Go.WideShapes Go.ChangeAt Go.RowKit
set_option linter.unusedVariables false

set_option maxRecDepth 100000 in
set_option maxHeartbeats 4000000 in
theorem shapeTells_any (S : ShapeSays) (A A' : Option Addr) (n c n' c' : Nat) (s t : List Int) (most p : Int) (w : World) (h : NumsF w A n c s) (h' : NumsF w A' n' c' t) (hm : I64 most) (hp : I64 p) :
    Calls Try.prog 3 #[.slice A n c, .int .i64 most, .slice A' n' c', .int .i64 p] w (TellG (.bool true) w) := by
  have HK := Lib.hid (fun w' => knows7_any S w')
  have HS := Lib.hid S
  clear S
  by_cases hb0 : 40 < n
  · have d0 : decide ((40 : Int) < (n : Int)) = true := decide_eq_true (by omega)
    have e0 : decide (40 < n) = true := decide_eq_true hb0
    clear hb0
    go_enter Try.func3, Try.ntmps3
    go_wp2_with fail
    refine (HK.out _).mono ?_
    rintro e w2 ⟨rfl, hg⟩
    have HG := Lib.hid hg
    clear hg
    go_wp2_with fail
    go_ret
    exact ⟨rfl, HG.out⟩
  · have d0 : decide ((40 : Int) < (n : Int)) = false := decide_eq_false (by omega)
    have e0 : decide (40 < n) = false := decide_eq_false hb0
    by_cases hb1 : 40 < n'
    · have d1 : decide ((40 : Int) < (n' : Int)) = true := decide_eq_true (by omega)
      have e1 : decide (40 < n') = true := decide_eq_true hb1
      clear hb1
      go_enter Try.func3, Try.ntmps3
      go_wp2_with fail
      refine (HK.out _).mono ?_
      rintro e w2 ⟨rfl, hg⟩
      have HG := Lib.hid hg
      clear hg
      go_wp2_with fail
      go_ret
      exact ⟨rfl, HG.out⟩
    · have d1 : decide ((40 : Int) < (n' : Int)) = false := decide_eq_false (by omega)
      have e1 : decide (40 < n') = false := decide_eq_false hb1
      have HN := Lib.hid h
      have HT := Lib.hid h'
      have HLN := Lib.hid h.len
      have HG1 := Lib.hid (grown_refl w none)
      have hn6 : n ≤ 40 := by omega
      have hn7 : n' ≤ 40 := by omega
      obtain ⟨w1, hw1⟩ : ∃ w1, w1 = w := ⟨_, rfl⟩
      subst hw1
      clear h h' hb0 hb1
      go_enter Try.func3, Try.ntmps3
      go_wp2_with fail
      refine (HS.out.size A n c s most w1 HN.out (by omega) hm).mono ?_
      rintro e w2 ⟨rfl, hg⟩
      have HG2 := Lib.hid (grown_join HG1.out hg (.inr (by simp)))
      have HN := Lib.hid (HN.out.grow hg)
      have HT := Lib.hid (HT.out.grow hg)
      clear hg
      go_wp2_with fail
      refine ((ref7Size_any A n c _ s most w2 HN.out.1 (by omega)).mono (fun _ _ h => ToldV.tells h)).mono ?_
      rintro e w3 ⟨rfl, hg⟩
      have HG3 := Lib.hid (grown_join HG2.out hg (.inr (by simp)))
      have HN := Lib.hid (HN.out.grow hg)
      have HT := Lib.hid (HT.out.grow hg)
      clear hg
      go_wp2_with fail
      refine (HS.out.place A n c A' n' c' s t w3 HN.out (by omega) HT.out (by omega)).mono ?_
      rintro e w4 ⟨rfl, hg⟩
      have HG4 := Lib.hid (grown_join HG3.out hg (.inr (by simp)))
      have HN := Lib.hid (HN.out.grow hg)
      have HT := Lib.hid (HT.out.grow hg)
      clear hg
      go_wp2_with fail
      refine ((ref7Place_any A A' n c _ n' c' _ s t w4 HN.out.1 HT.out.1 (by omega) (by omega)).mono (fun _ _ h => ToldV.tells h)).mono ?_
      rintro e w5 ⟨rfl, hg⟩
      have HG5 := Lib.hid (grown_join HG4.out hg (.inr (by simp)))
      have HN := Lib.hid (HN.out.grow hg)
      have HT := Lib.hid (HT.out.grow hg)
      clear hg
      go_wp2_with fail
      refine (HS.out.at_ A n c s p w5 HN.out (by omega) hp).mono ?_
      rintro e w6 ⟨A6, n6, c6, rfl, hn6, hg⟩
      have HG6 := Lib.hid (grown_join HG5.out hg (.inr (by simp)))
      have HN := Lib.hid (HN.out.grow hg)
      have HT := Lib.hid (HT.out.grow hg)
      have HV6 := Lib.hid hn6
      have HL6 := Lib.hid hn6.len
      clear hg hn6
      go_wp2_with fail
      refine ((ref7At_any A n c s p w6 HN.out.1 (by omega)).mono (fun _ _ h => GaveIntsB.tells h)).mono ?_
      rintro e w7 ⟨A7, n7, c7, rfl, hn7, hg⟩
      have HG7 := Lib.hid (grown_join HG6.out hg (.inr (by simp)))
      have HN := Lib.hid (HN.out.grow hg)
      have HT := Lib.hid (HT.out.grow hg)
      have HV6 := Lib.hid (HV6.out.grow hg)
      have HV7 := Lib.hid hn7
      have HL7 := Lib.hid hn7.len
      clear hg hn7
      go_wp2_with fail
      refine (HS.out.right A n c s w7 HN.out (by omega)).mono ?_
      rintro e w8 ⟨rfl, hg⟩
      have HG8 := Lib.hid (grown_join HG7.out hg (.inr (by simp)))
      have HN := Lib.hid (HN.out.grow hg)
      have HT := Lib.hid (HT.out.grow hg)
      have HV6 := Lib.hid (HV6.out.grow hg)
      have HV7 := Lib.hid (HV7.out.grow hg)
      clear hg
      go_wp2_with fail
      refine ((ref7Right_any A n c _ s w8 HN.out.1 (by omega)).mono (fun e w' h => show TellG _ _ e w' from ⟨h.1, by rw [h.2]; exact grown_refl _ _⟩)).mono ?_
      rintro e w9 ⟨rfl, hg⟩
      have HG9 := Lib.hid (grown_join HG8.out hg (.inr (by simp)))
      have HN := Lib.hid (HN.out.grow hg)
      have HT := Lib.hid (HT.out.grow hg)
      have HV6 := Lib.hid (HV6.out.grow hg)
      have HV7 := Lib.hid (HV7.out.grow hg)
      clear hg
      go_wp2_with fail
      refine (HS.out.strides A n c s w9 HN.out (by omega)).mono ?_
      rintro e w10 ⟨A10, n10, c10, rfl, hn10, hg⟩
      have HG10 := Lib.hid (grown_join HG9.out hg (.inr (by simp)))
      have HN := Lib.hid (HN.out.grow hg)
      have HT := Lib.hid (HT.out.grow hg)
      have HV6 := Lib.hid (HV6.out.grow hg)
      have HV7 := Lib.hid (HV7.out.grow hg)
      have HV10 := Lib.hid hn10
      have HL10 := Lib.hid hn10.len
      clear hg hn10
      go_wp2_with fail
      refine ((ref7Strides_any A n c s w10 HN.out.1 (by omega)).mono (fun _ _ h => GaveInts.tells h)).mono ?_
      rintro e w11 ⟨A11, n11, c11, rfl, hn11, hg⟩
      have HG11 := Lib.hid (grown_join HG10.out hg (.inr (by simp)))
      have HN := Lib.hid (HN.out.grow hg)
      have HT := Lib.hid (HT.out.grow hg)
      have HV6 := Lib.hid (HV6.out.grow hg)
      have HV7 := Lib.hid (HV7.out.grow hg)
      have HV10 := Lib.hid (HV10.out.grow hg)
      have HV11 := Lib.hid hn11
      have HL11 := Lib.hid hn11.len
      clear hg hn11
      go_wp2_with fail
      refine ((ints7_any _ _ _ _ _ _ _ _ _ _ w11 HV10.out.1 HV11.out.1 (by have := HL10.out; have := str_short s; have := HLN.out; omega) (by have := HL11.out; have := str_short s; have := HLN.out; omega)).mono (fun _ _ h => ToldV.tells h)).mono ?_
      rintro e w12 ⟨rfl, hg⟩
      have HG12 := Lib.hid (grown_join HG11.out hg (.inr (by simp)))
      have HN := Lib.hid (HN.out.grow hg)
      have HT := Lib.hid (HT.out.grow hg)
      have HV6 := Lib.hid (HV6.out.grow hg)
      have HV7 := Lib.hid (HV7.out.grow hg)
      have HV10 := Lib.hid (HV10.out.grow hg)
      have HV11 := Lib.hid (HV11.out.grow hg)
      clear hg
      rw [decide_eq_true rfl]
      go_wp2_with fail
      refine (HS.out.has A n c A' n' c' s t w12 HN.out (by omega) HT.out (by omega)).mono ?_
      rintro e w13 ⟨rfl, hg⟩
      have HG13 := Lib.hid (grown_join HG12.out hg (.inr (by simp)))
      have HN := Lib.hid (HN.out.grow hg)
      have HT := Lib.hid (HT.out.grow hg)
      have HV6 := Lib.hid (HV6.out.grow hg)
      have HV7 := Lib.hid (HV7.out.grow hg)
      have HV10 := Lib.hid (HV10.out.grow hg)
      have HV11 := Lib.hid (HV11.out.grow hg)
      clear hg
      go_wp2_with fail
      refine ((ref7Has_any A A' n c _ n' c' _ s t w13 HN.out.1 HT.out.1 (by omega) (by omega)).mono (fun _ _ h => ToldV.tells h)).mono ?_
      rintro e w14 ⟨rfl, hg⟩
      have HG14 := Lib.hid (grown_join HG13.out hg (.inr (by simp)))
      have HN := Lib.hid (HN.out.grow hg)
      have HT := Lib.hid (HT.out.grow hg)
      have HV6 := Lib.hid (HV6.out.grow hg)
      have HV7 := Lib.hid (HV7.out.grow hg)
      have HV10 := Lib.hid (HV10.out.grow hg)
      have HV11 := Lib.hid (HV11.out.grow hg)
      clear hg
      go_wp2_with fail
      refine ((ints7_any _ _ _ _ _ _ _ _ _ _ w14 HV6.out.1 HV7.out.1 (by have := HL6.out; have := atL_short s p; have := HLN.out; omega) (by have := HL7.out; have := atL_short s p; have := HLN.out; omega)).mono (fun _ _ h => ToldV.tells h)).mono ?_
      rintro e w15 ⟨rfl, hg⟩
      have HG15 := Lib.hid (grown_join HG14.out hg (.inr (by simp)))
      have HN := Lib.hid (HN.out.grow hg)
      have HT := Lib.hid (HT.out.grow hg)
      have HV6 := Lib.hid (HV6.out.grow hg)
      have HV7 := Lib.hid (HV7.out.grow hg)
      have HV10 := Lib.hid (HV10.out.grow hg)
      have HV11 := Lib.hid (HV11.out.grow hg)
      clear hg
      rw [decide_eq_true rfl]
      go_wp2_with fail
      refine (HK.out w15).mono ?_
      rintro e w16 ⟨rfl, hg⟩
      have HG16 := Lib.hid (grown_join HG15.out hg (.inr (by simp)))
      have HN := Lib.hid (HN.out.grow hg)
      have HT := Lib.hid (HT.out.grow hg)
      have HV6 := Lib.hid (HV6.out.grow hg)
      have HV7 := Lib.hid (HV7.out.grow hg)
      have HV10 := Lib.hid (HV10.out.grow hg)
      have HV11 := Lib.hid (HV11.out.grow hg)
      clear hg
      go_wp2_with fail
      go_ret
      exact ⟨rfl, HG16.out⟩
end Go.Proofs.Ytjlgghecocpdfaa
