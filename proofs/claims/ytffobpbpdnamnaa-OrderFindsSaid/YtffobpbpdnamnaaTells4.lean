/-
  Layer 4: the law OrderTells, walked.
-/
import Derived.Test.YtffobpbpdnamnaaKnows4
namespace Go.Proofs.Ytffobpbpdnamnaa
open Go.ChangeShapes Go.WideShapes Go.ChangeAt Go.RowKit
set_option linter.unusedVariables false

theorem takeE_le (l ps : List Int) : (takeE l ps).length ≤ ps.length := by
  unfold takeE
  split
  · rw [takeL_length]; exact Nat.le_refl _
  · exact Nat.zero_le _
theorem backE_le (ps : List Int) : (backE ps).length ≤ ps.length := by
  unfold backE
  split
  · rw [tabI_length]; exact Nat.le_refl _
  · exact Nat.zero_le _
set_option maxRecDepth 100000 in
set_option maxHeartbeats 2000000 in
theorem orderTells_walk (A A' : Option Addr) (n k c c' : Nat) (l ps : List Int) (w : World) (h : Nums w w.heap.size A n l) (h' : Nums w w.heap.size A' k ps) (hn : n ≤ 9223372036854775807) (hk : k ≤ 9223372036854775807) :
    Calls Try.prog 3 #[.slice A n c, .slice A' k c'] w fun e w' => e = .returned (.bool true) ∧ Below w.heap.size w w' := by
  have NL := Lib.hid h
  have NP := Lib.hid h'
  have HL := Lib.hid h.1
  have HLP := Lib.hid h'.1
  have HG := Lib.hid (grown_refl w none)
  clear h h'
  by_cases hb : n ≤ 150 ∧ k ≤ 150
  · obtain ⟨h1, h2⟩ := hb
    have HT1 := Lib.hid (show (takeE l ps).length ≤ 150 from Nat.le_trans (takeE_le l ps) (by rw [HLP.out]; exact h2))
    have HB1 := Lib.hid (show (backE ps).length ≤ 150 from Nat.le_trans (backE_le ps) (by rw [HLP.out]; exact h2))
    go_enter Try.func3, Try.ntmps3
    go_wp2_with fail
    refine (ord4Take_any A A' n k c c' l ps _ NL.out NP.out (by omega) (by omega)).mono ?_
    rintro e w1 ⟨A1, c1, rfl, ho, hg⟩
    have N1 := Lib.hid ho.nums
    have NL := Lib.hid (NL.out.grow hg)
    have NP := Lib.hid (NP.out.grow hg)
    have HG := Lib.hid (grown_join HG.out hg (.inr (by simp)))
    clear ho hg
    generalize htk : takeE l ps = tk at *
    go_wp2_with fail
    refine (ref4Take_any A A' n k c c' l ps _ NL.out NP.out (by omega) (by omega)).mono ?_
    rintro e w2 ⟨A2, c2, rfl, ho, hg⟩
    rw [htk] at ho ⊢
    have N2 := Lib.hid ho.nums
    have NL := Lib.hid (NL.out.grow hg)
    have NP := Lib.hid (NP.out.grow hg)
    have N1 := Lib.hid (N1.out.grow hg)
    have HG := Lib.hid (grown_join HG.out hg (.inr (by simp)))
    clear ho hg htk
    go_wp2_with fail
    refine (ord4Back_any A' k c' ps _ NP.out (by omega)).mono ?_
    rintro e w3 ⟨A3, c3, rfl, ho, hg⟩
    have N3 := Lib.hid ho.nums
    have NL := Lib.hid (NL.out.grow hg)
    have NP := Lib.hid (NP.out.grow hg)
    have N1 := Lib.hid (N1.out.grow hg)
    have N2 := Lib.hid (N2.out.grow hg)
    have HG := Lib.hid (grown_join HG.out hg (.inr (by simp)))
    clear ho hg
    generalize hbk : backE ps = bk at *
    go_wp2_with fail
    refine (ref4Back_any A' k c' ps _ NP.out (by omega)).mono ?_
    rintro e w4 ⟨A4, c4, rfl, ho, hg⟩
    rw [hbk] at ho ⊢
    have N4 := Lib.hid ho.nums
    have NL := Lib.hid (NL.out.grow hg)
    have NP := Lib.hid (NP.out.grow hg)
    have N1 := Lib.hid (N1.out.grow hg)
    have N2 := Lib.hid (N2.out.grow hg)
    have N3 := Lib.hid (N3.out.grow hg)
    have HG := Lib.hid (grown_join HG.out hg (.inr (by simp)))
    clear ho hg hbk
    go_wp2_with fail
    refine (sort4_told (c := c) NL.out (by omega) _ (grown_refl _ _)).mono ?_
    rintro e w5 ⟨p, A5, c5, rfl, hp, ho, hg⟩
    have N5 := Lib.hid ho.nums
    have HP := Lib.hid hp
    have NL := Lib.hid (NL.out.grow hg)
    have N1 := Lib.hid (N1.out.grow hg)
    have N2 := Lib.hid (N2.out.grow hg)
    have N3 := Lib.hid (N3.out.grow hg)
    have N4 := Lib.hid (N4.out.grow hg)
    have HG := Lib.hid (grown_join HG.out hg (.inr (by simp)))
    clear ho hg hp
    go_wp2_with fail
    refine (ref4Sort_any A n c l _ NL.out (by omega)).mono ?_
    rintro e w6 ⟨p2, hp2, A6, c6, rfl, ho, hg⟩
    obtain rfl : p = p2 := HP.out.one (by rw [HL.out] at hp2; exact hp2)
    have hpl : (placesI p).length = n := by rw [placesI_length, HP.out.length]
    rw [hpl] at ho ⊢
    have N6 := Lib.hid ho.nums
    have NL := Lib.hid (NL.out.grow hg)
    have N1 := Lib.hid (N1.out.grow hg)
    have N2 := Lib.hid (N2.out.grow hg)
    have N3 := Lib.hid (N3.out.grow hg)
    have N4 := Lib.hid (N4.out.grow hg)
    have N5 := Lib.hid (N5.out.grow hg)
    have HG := Lib.hid (grown_join HG.out hg (.inr (by simp)))
    clear ho hg hp2 hpl
    go_wp2_with fail
    refine (ints4_yes _ _ n _ _ _ _ N5.out N6.out (by omega)).mono ?_
    rintro e w7 ⟨rfl, hg⟩
    have NL := Lib.hid (NL.out.grow hg)
    have N1 := Lib.hid (N1.out.grow hg)
    have N2 := Lib.hid (N2.out.grow hg)
    have N3 := Lib.hid (N3.out.grow hg)
    have N4 := Lib.hid (N4.out.grow hg)
    have HG := Lib.hid (grown_join HG.out hg (.inr (by simp)))
    clear hg N5 N6 HP
    go_wp2_with fail
    refine (ord4Ranks_any A n c l _ NL.out (by omega)).mono ?_
    have HRL := Lib.hid (show (ranksE l).length = n by unfold ranksE; rw [tabI_length, HL.out])
    unfold GaveInts
    rw [HRL.out]
    rintro e w8 ⟨A8, c8, rfl, ho, hg⟩
    have N8 := Lib.hid ho.nums
    have NL := Lib.hid (NL.out.grow hg)
    have N1 := Lib.hid (N1.out.grow hg)
    have N2 := Lib.hid (N2.out.grow hg)
    have N3 := Lib.hid (N3.out.grow hg)
    have N4 := Lib.hid (N4.out.grow hg)
    have HG := Lib.hid (grown_join HG.out hg (.inr (by simp)))
    clear ho hg
    go_wp2_with fail
    refine (ref4Ranks_any A n c l _ NL.out (by omega)).mono ?_
    unfold GaveInts
    rw [HRL.out]
    rintro e w9 ⟨A9, c9, rfl, ho, hg⟩
    have N9 := Lib.hid ho.nums
    have NL := Lib.hid (NL.out.grow hg)
    have N1 := Lib.hid (N1.out.grow hg)
    have N2 := Lib.hid (N2.out.grow hg)
    have N3 := Lib.hid (N3.out.grow hg)
    have N4 := Lib.hid (N4.out.grow hg)
    have N8 := Lib.hid (N8.out.grow hg)
    have HG := Lib.hid (grown_join HG.out hg (.inr (by simp)))
    clear ho hg
    go_wp2_with fail
    refine (ints4_yes _ _ n _ _ _ _ N8.out N9.out (by omega)).mono ?_
    rintro e w10 ⟨rfl, hg⟩
    have N1 := Lib.hid (N1.out.grow hg)
    have N2 := Lib.hid (N2.out.grow hg)
    have N3 := Lib.hid (N3.out.grow hg)
    have N4 := Lib.hid (N4.out.grow hg)
    have HG := Lib.hid (grown_join HG.out hg (.inr (by simp)))
    clear hg N8 N9 HRL NL NP
    go_wp2_with fail
    refine (ints4_yes _ _ _ _ _ _ _ N1.out N2.out (by have := HT1.out; omega)).mono ?_
    rintro e w11 ⟨rfl, hg⟩
    have N3 := Lib.hid (N3.out.grow hg)
    have N4 := Lib.hid (N4.out.grow hg)
    have HG := Lib.hid (grown_join HG.out hg (.inr (by simp)))
    clear hg N1 N2
    go_wp2_with fail
    refine (ints4_yes _ _ _ _ _ _ _ N3.out N4.out (by have := HB1.out; omega)).mono ?_
    rintro e w12 ⟨rfl, hg⟩
    have HG := Lib.hid (grown_join HG.out hg (.inr (by simp)))
    clear hg N3 N4
    go_wp2_with fail
    refine (knows4_any _).mono ?_
    rintro e w13 ⟨rfl, hg⟩
    have HG := Lib.hid (grown_join HG.out hg (.inr (by simp)))
    clear hg
    go_wp2_with fail
    go_ret
    exact ⟨rfl, below_of_grown HG.out⟩
  · have hx : (150 : Int) < (n : Int) ∨ (150 : Int) < (k : Int) := by omega
    by_cases h1 : (150 : Int) < (n : Int)
    all_goals
      clear hb
      go_enter Try.func3, Try.ntmps3
      go_wp2_with (go_at_call 6; refine (knows4_any _).mono ?_; rintro e w1 ⟨rfl, hg⟩; have HG1 := Lib.hid hg; clear hg)
      go_ret
      exact ⟨rfl, below_of_grown HG1.out⟩
end Go.Proofs.Ytffobpbpdnamnaa
