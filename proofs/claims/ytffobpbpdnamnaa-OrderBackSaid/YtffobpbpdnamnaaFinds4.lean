/-
  Layer 4: the law OrderFinds, walked.
-/
import Derived.Test.YtffobpbpdnamnaaTells4
namespace Go.Proofs.Ytffobpbpdnamnaa
open Go.ChangeShapes Go.WideShapes Go.ChangeAt Go.RowKit
set_option linter.unusedVariables false

theorem own_cap {w : World} {base n c : Nat} {A : Option Addr} {zs : List Int} (h : OwnI w base A n c zs) : n ≤ c := by
  cases A with
  | none => have := own_none h; omega
  | some A => obtain ⟨_, _, _, h1⟩ := own_some h; exact h1
set_option maxRecDepth 100000 in
set_option maxHeartbeats 4000000 in
theorem orderFinds_walk (A A' : Option Addr) (n k c c' : Nat) (l m : List Int) (x : Int) (w : World) (h : Nums w w.heap.size A n l) (h' : Nums w w.heap.size A' k m) (hn : n ≤ 9223372036854775807) (hk : k ≤ 9223372036854775807) :
    Calls Try.prog 4 #[.slice A n c, .slice A' k c', .int .i64 x] w fun e w' => e = .returned (.bool true) ∧ Below w.heap.size w w' := by
  have NL := Lib.hid h
  have NM := Lib.hid h'
  have HL := Lib.hid h.1
  have HM := Lib.hid h'.1
  have HG := Lib.hid (grown_refl w none)
  clear h h'
  by_cases hb : n ≤ 150 ∧ k ≤ 150
  · obtain ⟨h1, h2⟩ := hb
    go_enter Try.func4, Try.ntmps4
    go_wp2_with fail
    refine (sorted4_any A n c l _ NL.out (by omega)).mono ?_
    rintro e w1 ⟨xs, A1, c1, rfl, hu, ho, hg⟩
    rw [HL.out] at ho ⊢
    have HU := Lib.hid hu
    have N1 := Lib.hid ho.nums
    have C1 := own_cap ho
    have NL := Lib.hid (NL.out.grow hg)
    have NM := Lib.hid (NM.out.grow hg)
    have HG := Lib.hid (grown_join HG.out hg (.inr (by simp)))
    clear ho hg hu
    go_wp2_with fail
    refine (sorted4_any A' k c' m _ NM.out (by omega)).mono ?_
    rintro e w2 ⟨ys, A2, c2, rfl, hu, ho, hg⟩
    rw [HM.out] at ho ⊢
    have N2 := Lib.hid ho.nums
    have C2 := own_cap ho
    have NL := Lib.hid (NL.out.grow hg)
    have N1 := Lib.hid (N1.out.grow hg)
    have HG := Lib.hid (grown_join HG.out hg (.inr (by simp)))
    clear ho hg hu NM
    go_wp2_with fail
    refine (ord4Find_any _ _ _ A1 n c1 xs x _ _ givenCmp_cmp N1.out HU.out (by omega)).mono ?_
    rintro e w3 ⟨t, bb, hat, hbb, rfl, rfl⟩
    have HAT := Lib.hid hat
    have HBB := Lib.hid hbb
    have HX := Lib.hid N1.out.1
    clear hat hbb
    go_upto_block 0 with (fail)
    go_cut [11] (fun v wc => v = .int .i64 (t : Int) ∧ wc = w3)
    case first =>
      go_wp2
      go_loop [11] (fun i => ∃ s : Nat, s ≤ t ∧ i = .int .i64 (s : Int)) (fun i => t - (intOf i).toNat)
      case atStart => exact ⟨0, Nat.zero_le _, rfl⟩
      case round =>
        obtain ⟨s, hs, rfl⟩ := hrel
        have htn : t ≤ n := by rw [← HX.out]; exact HAT.out.1
        by_cases hst : s < t
        · obtain ⟨b, o, rfl, _, hc⟩ := N1.out.2.at_ (k := s) (by omega)
          have hlt : xs.getD s 0 < x := HAT.out.2.1 s hst
          generalize xs.getD s 0 = v at *
          go_wp2
          go_round
          case rel => exact ⟨s + 1, by omega, by go_num⟩
          case measure => simp [intOf]; omega
        · obtain rfl : t = s := by omega
          by_cases htl : t < n
          · obtain ⟨b, o, rfl, _, hc⟩ := N1.out.2.at_ (k := t) htl
            have hge : x ≤ xs.getD t 0 := HAT.out.2.2 t (Nat.le_refl _) (by rw [HX.out]; exact htl)
            generalize xs.getD t 0 = v at *
            go_wp2
            go_meet
            exact ⟨rfl, rfl⟩
          · go_wp2
            go_meet
            exact ⟨rfl, rfl⟩
    case rest =>
      obtain ⟨rfl, rfl⟩ := hcut
      have htn : t ≤ n := by rw [← HX.out]; exact HAT.out.1
      have HCA := Lib.hid (ord4Rising_any _ _ _ A n c l wc.heap.size wc givenCmp_cmp NL.out (by omega))
      by_cases htl : t < n
      · obtain ⟨b, o, hA1, _, hc⟩ := N1.out.2.at_ (k := t) htl
        by_cases he : xs.getD t 0 = x
        · obtain rfl : bb = true := HBB.out.2 ⟨by rw [HX.out]; exact htl, he⟩
          generalize xs.getD t 0 = v at *
          subst he
          have d1 : decide ((t : Int) < (n : Int)) = true := by simp; omega
          have d2 : (v == v) = true := by simp
          subst hA1
          go_wp2_with fail
          refine HCA.out.mono ?_
          rintro e w4 ⟨r, hr, rfl, q4, rfl⟩
          have HR := Lib.hid hr
          have N1 := Lib.hid (N1.out.grow (grown_drewN (grown_refl _ none) q4))
          have N2 := Lib.hid (N2.out.grow (grown_drewN (grown_refl _ none) q4))
          have HG := Lib.hid (grown_drewN HG.out q4)
          have NL := Lib.hid (NL.out.grow (grown_drewN (grown_refl _ none) q4))
          clear hr
          generalize hw4 : World.drewN _ q4 = w4 at *
          clear hw4
          go_wp2_with fail
          refine (ref4Rising_any A _ c l _ _ NL.out (by omega)).mono ?_
          rintro e w5 ⟨r2, hr2, rfl, q5, rfl⟩
          obtain rfl : r = r2 := IsRise.one (by have := HR.out; unfold IsRiseK at this; rw [List.map_id] at this; exact this) hr2
          have N1 := Lib.hid (N1.out.grow (grown_drewN (grown_refl _ none) q5))
          have N2 := Lib.hid (N2.out.grow (grown_drewN (grown_refl _ none) q5))
          have HG := Lib.hid (grown_drewN HG.out q5)
          clear hr2
          generalize hw5 : World.drewN _ q5 = w5 at *
          clear hw5
          go_wp2_with fail
          have HML : Hid ((mrg xs ys).length ≤ 300) := Lib.hid (by rw [mrg_length, HX.out, N2.out.1]; omega)
          refine (ord4Merge_any _ _ id _ A2 _ k c1 c2 xs ys _ givenCmp_cmp N1.out N2.out (by omega) C1 C2).mono ?_
          rw [mrgK_id]
          rintro e w6 ⟨A6, c6, rfl, ho, hg⟩
          have N6 := Lib.hid ho.nums
          have N1 := Lib.hid (N1.out.grow hg)
          have N2 := Lib.hid (N2.out.grow hg)
          have HG := Lib.hid (grown_join HG.out hg (.inr (by simp)))
          clear ho hg
          go_wp2_with fail
          refine (ref4Merge_any _ A2 _ k c1 c2 xs ys _ N1.out N2.out (by omega) (by omega)).mono ?_
          rintro e w7 ⟨A7, c7, rfl, ho, hg⟩
          have N7 := Lib.hid ho.nums
          have N6 := Lib.hid (N6.out.grow hg)
          have HG := Lib.hid (grown_join HG.out hg (.inr (by simp)))
          clear ho hg
          go_wp2_with fail
          refine (ints4_yes _ _ _ _ _ _ _ N6.out N7.out (by have := HML.out; omega)).mono ?_
          rintro e w8 ⟨rfl, hg⟩
          have HG := Lib.hid (grown_join HG.out hg (.inr (by simp)))
          clear hg N6 N7
          go_wp2_with fail
          refine (knows4_any _).mono ?_
          rintro e w9 ⟨rfl, hg⟩
          have HG := Lib.hid (grown_join HG.out hg (.inr (by simp)))
          clear hg
          go_wp2_with fail
          go_ret
          exact ⟨rfl, below_of_grown HG.out⟩
        · obtain rfl : bb = false := by
            cases bb
            · rfl
            · exact absurd (HBB.out.1 rfl).2 he
          have d2 : (xs.getD t 0 == x) = false := by simpa using he
          generalize xs.getD t 0 = v at *
          have d1 : decide ((t : Int) < (n : Int)) = true := by simp; omega
          clear he
          subst hA1
          go_wp2_with fail
          refine HCA.out.mono ?_
          rintro e w4 ⟨r, hr, rfl, q4, rfl⟩
          have HR := Lib.hid hr
          have N1 := Lib.hid (N1.out.grow (grown_drewN (grown_refl _ none) q4))
          have N2 := Lib.hid (N2.out.grow (grown_drewN (grown_refl _ none) q4))
          have HG := Lib.hid (grown_drewN HG.out q4)
          have NL := Lib.hid (NL.out.grow (grown_drewN (grown_refl _ none) q4))
          clear hr
          generalize hw4 : World.drewN _ q4 = w4 at *
          clear hw4
          go_wp2_with fail
          refine (ref4Rising_any A _ c l _ _ NL.out (by omega)).mono ?_
          rintro e w5 ⟨r2, hr2, rfl, q5, rfl⟩
          obtain rfl : r = r2 := IsRise.one (by have := HR.out; unfold IsRiseK at this; rw [List.map_id] at this; exact this) hr2
          have N1 := Lib.hid (N1.out.grow (grown_drewN (grown_refl _ none) q5))
          have N2 := Lib.hid (N2.out.grow (grown_drewN (grown_refl _ none) q5))
          have HG := Lib.hid (grown_drewN HG.out q5)
          clear hr2
          generalize hw5 : World.drewN _ q5 = w5 at *
          clear hw5
          go_wp2_with fail
          have HML : Hid ((mrg xs ys).length ≤ 300) := Lib.hid (by rw [mrg_length, HX.out, N2.out.1]; omega)
          refine (ord4Merge_any _ _ id _ A2 _ k c1 c2 xs ys _ givenCmp_cmp N1.out N2.out (by omega) C1 C2).mono ?_
          rw [mrgK_id]
          rintro e w6 ⟨A6, c6, rfl, ho, hg⟩
          have N6 := Lib.hid ho.nums
          have N1 := Lib.hid (N1.out.grow hg)
          have N2 := Lib.hid (N2.out.grow hg)
          have HG := Lib.hid (grown_join HG.out hg (.inr (by simp)))
          clear ho hg
          go_wp2_with fail
          refine (ref4Merge_any _ A2 _ k c1 c2 xs ys _ N1.out N2.out (by omega) (by omega)).mono ?_
          rintro e w7 ⟨A7, c7, rfl, ho, hg⟩
          have N7 := Lib.hid ho.nums
          have N6 := Lib.hid (N6.out.grow hg)
          have HG := Lib.hid (grown_join HG.out hg (.inr (by simp)))
          clear ho hg
          go_wp2_with fail
          refine (ints4_yes _ _ _ _ _ _ _ N6.out N7.out (by have := HML.out; omega)).mono ?_
          rintro e w8 ⟨rfl, hg⟩
          have HG := Lib.hid (grown_join HG.out hg (.inr (by simp)))
          clear hg N6 N7
          go_wp2_with fail
          refine (knows4_any _).mono ?_
          rintro e w9 ⟨rfl, hg⟩
          have HG := Lib.hid (grown_join HG.out hg (.inr (by simp)))
          clear hg
          go_wp2_with fail
          go_ret
          exact ⟨rfl, below_of_grown HG.out⟩
      · obtain rfl : bb = false := by
          cases bb
          · rfl
          · have := (HBB.out.1 rfl).1
            rw [HX.out] at this
            exact absurd this htl
        obtain rfl : n = t := by omega
        have d1 : decide ((n : Int) < (n : Int)) = false := by simp
        go_wp2_with fail
        refine HCA.out.mono ?_
        rintro e w4 ⟨r, hr, rfl, q4, rfl⟩
        have HR := Lib.hid hr
        have N1 := Lib.hid (N1.out.grow (grown_drewN (grown_refl _ none) q4))
        have N2 := Lib.hid (N2.out.grow (grown_drewN (grown_refl _ none) q4))
        have HG := Lib.hid (grown_drewN HG.out q4)
        have NL := Lib.hid (NL.out.grow (grown_drewN (grown_refl _ none) q4))
        clear hr
        generalize hw4 : World.drewN _ q4 = w4 at *
        clear hw4
        go_wp2_with fail
        refine (ref4Rising_any A _ c l _ _ NL.out (by omega)).mono ?_
        rintro e w5 ⟨r2, hr2, rfl, q5, rfl⟩
        obtain rfl : r = r2 := IsRise.one (by have := HR.out; unfold IsRiseK at this; rw [List.map_id] at this; exact this) hr2
        have N1 := Lib.hid (N1.out.grow (grown_drewN (grown_refl _ none) q5))
        have N2 := Lib.hid (N2.out.grow (grown_drewN (grown_refl _ none) q5))
        have HG := Lib.hid (grown_drewN HG.out q5)
        clear hr2
        generalize hw5 : World.drewN _ q5 = w5 at *
        clear hw5
        go_wp2_with fail
        have HML : Hid ((mrg xs ys).length ≤ 300) := Lib.hid (by rw [mrg_length, HX.out, N2.out.1]; omega)
        refine (ord4Merge_any _ _ id _ A2 _ k c1 c2 xs ys _ givenCmp_cmp N1.out N2.out (by omega) C1 C2).mono ?_
        rw [mrgK_id]
        rintro e w6 ⟨A6, c6, rfl, ho, hg⟩
        have N6 := Lib.hid ho.nums
        have N1 := Lib.hid (N1.out.grow hg)
        have N2 := Lib.hid (N2.out.grow hg)
        have HG := Lib.hid (grown_join HG.out hg (.inr (by simp)))
        clear ho hg
        go_wp2_with fail
        refine (ref4Merge_any _ A2 _ k c1 c2 xs ys _ N1.out N2.out (by omega) (by omega)).mono ?_
        rintro e w7 ⟨A7, c7, rfl, ho, hg⟩
        have N7 := Lib.hid ho.nums
        have N6 := Lib.hid (N6.out.grow hg)
        have HG := Lib.hid (grown_join HG.out hg (.inr (by simp)))
        clear ho hg
        go_wp2_with fail
        refine (ints4_yes _ _ _ _ _ _ _ N6.out N7.out (by have := HML.out; omega)).mono ?_
        rintro e w8 ⟨rfl, hg⟩
        have HG := Lib.hid (grown_join HG.out hg (.inr (by simp)))
        clear hg N6 N7
        go_wp2_with fail
        refine (knows4_any _).mono ?_
        rintro e w9 ⟨rfl, hg⟩
        have HG := Lib.hid (grown_join HG.out hg (.inr (by simp)))
        clear hg
        go_wp2_with fail
        go_ret
        exact ⟨rfl, below_of_grown HG.out⟩
  · have hx : (150 : Int) < (n : Int) ∨ (150 : Int) < (k : Int) := by omega
    by_cases h1 : (150 : Int) < (n : Int)
    all_goals
      clear hb
      go_enter Try.func4, Try.ntmps4
      go_wp2_with (go_at_call 6; refine (knows4_any _).mono ?_; rintro e w1 ⟨rfl, hg⟩; have HG1 := Lib.hid hg; clear hg)
      go_ret
      exact ⟨rfl, below_of_grown HG1.out⟩
end Go.Proofs.Ytffobpbpdnamnaa
