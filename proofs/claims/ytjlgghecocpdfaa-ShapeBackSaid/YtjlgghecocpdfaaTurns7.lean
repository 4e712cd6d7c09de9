/-
  Layer 7: the walk of ShapeTurns, out of what is asked of the program's own shape.
-/
import Derived.Test.YtjlgghecocpdfaaSays7
namespace Go.Proofs.Ytjlgghecocpdfaa
open Go.ChangeShapes Go.WideShapes Go.ChangeAt Go.RowKit
set_option linter.unusedVariables false

set_option maxRecDepth 100000 in
set_option maxHeartbeats 4000000 in
theorem shapeTurns_any (S : ShapeSays) (A A' Q : Option Addr) (n c n' c' m k : Nat) (s t q : List Int) (x y : Int) (w : World) (h : NumsF w A n c s) (h' : NumsF w A' n' c' t) (hq : NumsF w Q m k q) (hx : I64 x) (hy : I64 y) (hz : ∀ z ∈ q, I64 z) :
    Calls Try.prog 4 #[.slice A n c, .slice A' n' c', .int .i64 x, .int .i64 y, .slice Q m k] w (TellG (.bool true) w) := by
  have HK := Lib.hid (fun w' => knows7_any S w')
  have HS := Lib.hid S
  clear S
  by_cases hb0 : 40 < n
  · have d0 : decide ((40 : Int) < (n : Int)) = true := decide_eq_true (by omega)
    have e0 : decide (40 < n) = true := decide_eq_true hb0
    clear hb0
    go_enter Try.func4, Try.ntmps4
    go_wp2_with fail
    refine (HK.out _).mono ?_
    rintro e w2 ⟨rfl, hg⟩
    have HG := Lib.hid hg
    clear hg
    go_wp2_with fail
    go_ret
    exact ⟨rfl, HG.out⟩
  · have d0 : decide ((40 : Int) < (n : Int)) = false := decide_eq_false (by omega)
    have e0 : decide (40 < n) = false := decide_eq_false hb0
    by_cases hb1 : 40 < n'
    · have d1 : decide ((40 : Int) < (n' : Int)) = true := decide_eq_true (by omega)
      have e1 : decide (40 < n') = true := decide_eq_true hb1
      clear hb1
      go_enter Try.func4, Try.ntmps4
      go_wp2_with fail
      refine (HK.out _).mono ?_
      rintro e w2 ⟨rfl, hg⟩
      have HG := Lib.hid hg
      clear hg
      go_wp2_with fail
      go_ret
      exact ⟨rfl, HG.out⟩
    · have d1 : decide ((40 : Int) < (n' : Int)) = false := decide_eq_false (by omega)
      have e1 : decide (40 < n') = false := decide_eq_false hb1
      by_cases hb2 : 40 < m
      · have d2 : decide ((40 : Int) < (m : Int)) = true := decide_eq_true (by omega)
        have e2 : decide (40 < m) = true := decide_eq_true hb2
        clear hb2
        go_enter Try.func4, Try.ntmps4
        go_wp2_with fail
        refine (HK.out _).mono ?_
        rintro e w2 ⟨rfl, hg⟩
        have HG := Lib.hid hg
        clear hg
        go_wp2_with fail
        go_ret
        exact ⟨rfl, HG.out⟩
      · have d2 : decide ((40 : Int) < (m : Int)) = false := decide_eq_false (by omega)
        have e2 : decide (40 < m) = false := decide_eq_false hb2
        have HN := Lib.hid h
        have HT := Lib.hid h'
        have HM := Lib.hid hq
        have HLN := Lib.hid h.len
        have HLM := Lib.hid hq.len
        have HG1 := Lib.hid (grown_refl w none)
        have hn6 : n ≤ 40 := by omega
        have hn7 : n' ≤ 40 := by omega
        have hn8 : m ≤ 40 := by omega
        obtain ⟨w1, hw1⟩ : ∃ w1, w1 = w := ⟨_, rfl⟩
        subst hw1
        clear h h' hq hb0 hb1 hb2
        go_enter Try.func4, Try.ntmps4
        go_wp2_with fail
        refine (HS.out.without A n c s x w1 HN.out (by omega) hx).mono ?_
        rintro e w2 ⟨A2, n2, c2, rfl, hn2, hg⟩
        have HG2 := Lib.hid (grown_join HG1.out hg (.inr (by simp)))
        have HN := Lib.hid (HN.out.grow hg)
        have HT := Lib.hid (HT.out.grow hg)
        have HM := Lib.hid (HM.out.grow hg)
        have HV2 := Lib.hid hn2
        have HL2 := Lib.hid hn2.len
        clear hg hn2
        go_wp2_with fail
        refine ((ref7Without_any A n c s x w2 HN.out.1 (by omega) HN.out.2).mono (fun _ _ h => GaveIntsB.tells h)).mono ?_
        rintro e w3 ⟨A3, n3, c3, rfl, hn3, hg⟩
        have HG3 := Lib.hid (grown_join HG2.out hg (.inr (by simp)))
        have HN := Lib.hid (HN.out.grow hg)
        have HT := Lib.hid (HT.out.grow hg)
        have HM := Lib.hid (HM.out.grow hg)
        have HV2 := Lib.hid (HV2.out.grow hg)
        have HV3 := Lib.hid hn3
        have HL3 := Lib.hid hn3.len
        clear hg hn3
        go_wp2_with fail
        refine (HS.out.with_ A n c s x y w3 HN.out (by omega) hx hy).mono ?_
        rintro e w4 ⟨A4, n4, c4, rfl, hn4, hg⟩
        have HG4 := Lib.hid (grown_join HG3.out hg (.inr (by simp)))
        have HN := Lib.hid (HN.out.grow hg)
        have HT := Lib.hid (HT.out.grow hg)
        have HM := Lib.hid (HM.out.grow hg)
        have HV2 := Lib.hid (HV2.out.grow hg)
        have HV3 := Lib.hid (HV3.out.grow hg)
        have HV4 := Lib.hid hn4
        have HL4 := Lib.hid hn4.len
        clear hg hn4
        go_wp2_with fail
        refine ((ref7With_any A n c s x y w4 HN.out.1 (by omega) HN.out.2).mono (fun _ _ h => GaveIntsB.tells h)).mono ?_
        rintro e w5 ⟨A5, n5, c5, rfl, hn5, hg⟩
        have HG5 := Lib.hid (grown_join HG4.out hg (.inr (by simp)))
        have HN := Lib.hid (HN.out.grow hg)
        have HT := Lib.hid (HT.out.grow hg)
        have HM := Lib.hid (HM.out.grow hg)
        have HV2 := Lib.hid (HV2.out.grow hg)
        have HV3 := Lib.hid (HV3.out.grow hg)
        have HV4 := Lib.hid (HV4.out.grow hg)
        have HV5 := Lib.hid hn5
        have HL5 := Lib.hid hn5.len
        clear hg hn5
        go_wp2_with fail
        refine (HS.out.permute A n c Q m k s q w5 HN.out (by omega) HM.out (by omega) hz).mono ?_
        rintro e w6 ⟨A6, n6, c6, rfl, hn6, hg⟩
        have HG6 := Lib.hid (grown_join HG5.out hg (.inr (by simp)))
        have HN := Lib.hid (HN.out.grow hg)
        have HT := Lib.hid (HT.out.grow hg)
        have HM := Lib.hid (HM.out.grow hg)
        have HV2 := Lib.hid (HV2.out.grow hg)
        have HV3 := Lib.hid (HV3.out.grow hg)
        have HV4 := Lib.hid (HV4.out.grow hg)
        have HV5 := Lib.hid (HV5.out.grow hg)
        have HV6 := Lib.hid hn6
        have HL6 := Lib.hid hn6.len
        clear hg hn6
        go_wp2_with fail
        refine ((ref7Permute_any A Q n c m k s q w6 HN.out.1 HM.out.1 (by omega) (by omega)).mono (fun _ _ h => GaveIntsB.tells h)).mono ?_
        rintro e w7 ⟨A7, n7, c7, rfl, hn7, hg⟩
        have HG7 := Lib.hid (grown_join HG6.out hg (.inr (by simp)))
        have HN := Lib.hid (HN.out.grow hg)
        have HT := Lib.hid (HT.out.grow hg)
        have HM := Lib.hid (HM.out.grow hg)
        have HV2 := Lib.hid (HV2.out.grow hg)
        have HV3 := Lib.hid (HV3.out.grow hg)
        have HV4 := Lib.hid (HV4.out.grow hg)
        have HV5 := Lib.hid (HV5.out.grow hg)
        have HV6 := Lib.hid (HV6.out.grow hg)
        have HV7 := Lib.hid hn7
        have HL7 := Lib.hid hn7.len
        clear hg hn7
        go_wp2_with fail
        refine (HS.out.join A n c A' n' c' s t w7 HN.out (by omega) HT.out (by omega)).mono ?_
        rintro e w8 ⟨A8, n8, c8, rfl, hn8, hg⟩
        have HG8 := Lib.hid (grown_join HG7.out hg (.inr (by simp)))
        have HN := Lib.hid (HN.out.grow hg)
        have HT := Lib.hid (HT.out.grow hg)
        have HM := Lib.hid (HM.out.grow hg)
        have HV2 := Lib.hid (HV2.out.grow hg)
        have HV3 := Lib.hid (HV3.out.grow hg)
        have HV4 := Lib.hid (HV4.out.grow hg)
        have HV5 := Lib.hid (HV5.out.grow hg)
        have HV6 := Lib.hid (HV6.out.grow hg)
        have HV7 := Lib.hid (HV7.out.grow hg)
        have HV8 := Lib.hid hn8
        have HL8 := Lib.hid hn8.len
        clear hg hn8
        go_wp2_with fail
        refine ((ref7Join_any A A' n c n' c' s t w8 HN.out.1 HT.out.1 (by omega) (by omega)).mono (fun _ _ h => GaveIntsB.tells h)).mono ?_
        rintro e w9 ⟨A9, n9, c9, rfl, hn9, hg⟩
        have HG9 := Lib.hid (grown_join HG8.out hg (.inr (by simp)))
        have HN := Lib.hid (HN.out.grow hg)
        have HT := Lib.hid (HT.out.grow hg)
        have HM := Lib.hid (HM.out.grow hg)
        have HV2 := Lib.hid (HV2.out.grow hg)
        have HV3 := Lib.hid (HV3.out.grow hg)
        have HV4 := Lib.hid (HV4.out.grow hg)
        have HV5 := Lib.hid (HV5.out.grow hg)
        have HV6 := Lib.hid (HV6.out.grow hg)
        have HV7 := Lib.hid (HV7.out.grow hg)
        have HV8 := Lib.hid (HV8.out.grow hg)
        have HV9 := Lib.hid hn9
        have HL9 := Lib.hid hn9.len
        clear hg hn9
        go_wp2_with fail
        refine ((ints7_any _ _ _ _ _ _ _ _ _ _ w9 HV2.out.1 HV3.out.1 (by have := HL2.out; have := without_short s x; have := HLN.out; omega) (by have := HL3.out; have := without_short s x; have := HLN.out; omega)).mono (fun _ _ h => ToldV.tells h)).mono ?_
        rintro e w10 ⟨rfl, hg⟩
        have HG10 := Lib.hid (grown_join HG9.out hg (.inr (by simp)))
        have HN := Lib.hid (HN.out.grow hg)
        have HT := Lib.hid (HT.out.grow hg)
        have HM := Lib.hid (HM.out.grow hg)
        have HV2 := Lib.hid (HV2.out.grow hg)
        have HV3 := Lib.hid (HV3.out.grow hg)
        have HV4 := Lib.hid (HV4.out.grow hg)
        have HV5 := Lib.hid (HV5.out.grow hg)
        have HV6 := Lib.hid (HV6.out.grow hg)
        have HV7 := Lib.hid (HV7.out.grow hg)
        have HV8 := Lib.hid (HV8.out.grow hg)
        have HV9 := Lib.hid (HV9.out.grow hg)
        clear hg
        rw [decide_eq_true rfl]
        go_wp2_with fail
        refine ((ints7_any _ _ _ _ _ _ _ _ _ _ w10 HV4.out.1 HV5.out.1 (by have := HL4.out; have := with_short s x y; have := HLN.out; omega) (by have := HL5.out; have := with_short s x y; have := HLN.out; omega)).mono (fun _ _ h => ToldV.tells h)).mono ?_
        rintro e w11 ⟨rfl, hg⟩
        have HG11 := Lib.hid (grown_join HG10.out hg (.inr (by simp)))
        have HN := Lib.hid (HN.out.grow hg)
        have HT := Lib.hid (HT.out.grow hg)
        have HM := Lib.hid (HM.out.grow hg)
        have HV2 := Lib.hid (HV2.out.grow hg)
        have HV3 := Lib.hid (HV3.out.grow hg)
        have HV4 := Lib.hid (HV4.out.grow hg)
        have HV5 := Lib.hid (HV5.out.grow hg)
        have HV6 := Lib.hid (HV6.out.grow hg)
        have HV7 := Lib.hid (HV7.out.grow hg)
        have HV8 := Lib.hid (HV8.out.grow hg)
        have HV9 := Lib.hid (HV9.out.grow hg)
        clear hg
        rw [decide_eq_true rfl]
        go_wp2_with fail
        refine ((ints7_any _ _ _ _ _ _ _ _ _ _ w11 HV6.out.1 HV7.out.1 (by have := HL6.out; have := perm_short s q; have := HLM.out; omega) (by have := HL7.out; have := perm_short s q; have := HLM.out; omega)).mono (fun _ _ h => ToldV.tells h)).mono ?_
        rintro e w12 ⟨rfl, hg⟩
        have HG12 := Lib.hid (grown_join HG11.out hg (.inr (by simp)))
        have HN := Lib.hid (HN.out.grow hg)
        have HT := Lib.hid (HT.out.grow hg)
        have HM := Lib.hid (HM.out.grow hg)
        have HV2 := Lib.hid (HV2.out.grow hg)
        have HV3 := Lib.hid (HV3.out.grow hg)
        have HV4 := Lib.hid (HV4.out.grow hg)
        have HV5 := Lib.hid (HV5.out.grow hg)
        have HV6 := Lib.hid (HV6.out.grow hg)
        have HV7 := Lib.hid (HV7.out.grow hg)
        have HV8 := Lib.hid (HV8.out.grow hg)
        have HV9 := Lib.hid (HV9.out.grow hg)
        clear hg
        rw [decide_eq_true rfl]
        go_wp2_with fail
        refine ((ints7_any _ _ _ _ _ _ _ _ _ _ w12 HV8.out.1 HV9.out.1 (by have := HL8.out; have := join_short s t; have := HLN.out; omega) (by have := HL9.out; have := join_short s t; have := HLN.out; omega)).mono (fun _ _ h => ToldV.tells h)).mono ?_
        rintro e w13 ⟨rfl, hg⟩
        have HG13 := Lib.hid (grown_join HG12.out hg (.inr (by simp)))
        have HN := Lib.hid (HN.out.grow hg)
        have HT := Lib.hid (HT.out.grow hg)
        have HM := Lib.hid (HM.out.grow hg)
        have HV2 := Lib.hid (HV2.out.grow hg)
        have HV3 := Lib.hid (HV3.out.grow hg)
        have HV4 := Lib.hid (HV4.out.grow hg)
        have HV5 := Lib.hid (HV5.out.grow hg)
        have HV6 := Lib.hid (HV6.out.grow hg)
        have HV7 := Lib.hid (HV7.out.grow hg)
        have HV8 := Lib.hid (HV8.out.grow hg)
        have HV9 := Lib.hid (HV9.out.grow hg)
        clear hg
        rw [decide_eq_true rfl]
        go_wp2_with fail
        refine (HK.out w13).mono ?_
        rintro e w14 ⟨rfl, hg⟩
        have HG14 := Lib.hid (grown_join HG13.out hg (.inr (by simp)))
        have HN := Lib.hid (HN.out.grow hg)
        have HT := Lib.hid (HT.out.grow hg)
        have HM := Lib.hid (HM.out.grow hg)
        have HV2 := Lib.hid (HV2.out.grow hg)
        have HV3 := Lib.hid (HV3.out.grow hg)
        have HV4 := Lib.hid (HV4.out.grow hg)
        have HV5 := Lib.hid (HV5.out.grow hg)
        have HV6 := Lib.hid (HV6.out.grow hg)
        have HV7 := Lib.hid (HV7.out.grow hg)
        have HV8 := Lib.hid (HV8.out.grow hg)
        have HV9 := Lib.hid (HV9.out.grow hg)
        clear hg
        go_wp2_with fail
        go_ret
        exact ⟨rfl, HG14.out⟩
end Go.Proofs.Ytjlgghecocpdfaa
