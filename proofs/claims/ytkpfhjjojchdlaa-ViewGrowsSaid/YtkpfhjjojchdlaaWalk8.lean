/-
  Layer 8: the walk of ViewCells, out of what is asked of the program's own view.
-/
import Derived.Test.YtkpfhjjojchdlaaCells8
namespace Go.Proofs.Ytkpfhjjojchdlaa
open Go.ChangeShapes Go.WideShapes Go.ChangeAt Go.RowKit
set_option linter.unusedVariables false
set_option maxRecDepth 100000

set_option maxRecDepth 100000 in
set_option maxHeartbeats 16000000 in
theorem viewCells_any (S : ViewSays) (A A' : Option Addr) (n c n' c' : Nat) (s t : List Int) (o i x : Int) (w : World) (h : NumsF w A n c s) (h' : NumsF w A' n' c' t) (ho : I64 o) (hi : I64 i) (hx : I64 x) :
    Calls Try.prog 6 #[.agg #[.slice A n c, .slice A' n' c', .int .i64 o], .int .i64 i, .int .i64 x] w (TellG (.bool true) w) := by
  have HK := Lib.hid (fun w' => knows8_any S w')
  have HS := Lib.hid S
  clear S
  have HLI := Lib.hid (fun w' (hg : w.grownBy w' none) => light8_any A A' n c n' c' s t o 300 w' (h.grow hg) (h'.grow hg))
  obtain ⟨w1, hw1⟩ : ∃ w1, w1 = w.alloc (.cells #[.slice A n c, .slice A' n' c', .int .i64 o] 24) := ⟨_, rfl⟩
  have HBV : Hid (Box w1 w.heap.size 24 #[.slice A n c, .slice A' n' c', .int .i64 o]) := Lib.hid (by rw [hw1]; exact Box.fresh w _ _)
  have HG1 : Hid (w.grownBy w1 none) := Lib.hid (by rw [hw1]; exact World.grownBy_alloc w _ none)
  have HW1 := Lib.hid hw1
  clear hw1
  cases hlb : lightB ⟨s, t, o⟩ 300 with
  | false =>
    have HLB := Lib.hid hlb
    clear hlb
    go_enter Try.func6, Try.ntmps6
    go_upto_region 1 with fail
    rw [← HW1.out]
    have x0 := HBV.out.get 0
    have x1 := HBV.out.get 1
    have x2 := HBV.out.get 2
    go_wp2_with fail
    refine (HLI.out _ HG1.out).mono ?_
    rintro e w2 ⟨rfl, hg⟩
    rw [HLB.out]
    have HG2 := Lib.hid (grown_join HG1.out hg (.inr (by simp)))
    have HBV := Lib.hid (HBV.out.grown hg (by simp))
    clear hg x0 x1 x2
    go_wp2_with fail
    refine (HK.out _).mono ?_
    rintro e w9 ⟨rfl, hg⟩
    have HGK := Lib.hid (grown_join HG2.out hg (.inr (by simp)))
    clear hg
    go_wp2_with fail
    go_ret
    exact ⟨rfl, HGK.out⟩
  | true =>
    have HLB := Lib.hid hlb
    have hsm := light_small hlb
    have hn : n ≤ 1048576 := by have := h.len; omega
    have hn' : n' ≤ 1048576 := by have := h'.len; omega
    have HCE := Lib.hid (light_cells hlb)
    have HLN := Lib.hid h.len
    clear hlb hsm
    have HV : Hid (∀ w', w.grownBy w' none → ViewF w' A n c A' n' c' ⟨s, t, o⟩) := Lib.hid fun w' hg => ⟨h.grow hg, h'.grow hg, hn, hn'⟩
    have HOW : Hid (∀ w', w.grownBy w' none → Calls Try.prog 9 #[.agg #[.slice A n c, .slice A' n' c', .int .i64 o]] w' (TellG (.agg #[.slice A n c, .slice A' n' c', .int .i64 o]) w')) := Lib.hid fun w' hg => own8_any A A' n c n' c' o w'
    have HRR : Hid (∀ w', w.grownBy w' none → Calls Try.prog 16 #[.agg #[.slice A n c, .slice A' n' c', .int .i64 o]] w' (TellG (.bool (rightV ⟨s, t, o⟩)) w')) := Lib.hid fun w' hg => ref8Right_any A A' n c n' c' s t o w' (h.grow hg).1 (h'.grow hg).1 hn hn'
    have HKN : Hid (∀ w', w.grownBy w' none → Calls Try.prog 8 #[] w' (TellG (.bool true) w')) := Lib.hid fun w' hg => HK.out w'
    have HC1 : Hid (∀ w', w.grownBy w' none → Calls Try.prog 22 #[.agg #[.slice A n c, .slice A' n' c', .int .i64 o], .int .i64 i] w' (GaveVP (flipV ⟨s, t, o⟩ i) w')) := Lib.hid fun w' hg => HS.out.flip A n c A' n' c' ⟨s, t, o⟩ i w' (HV.out w' hg) ho hi
    cases hrv : rightV ⟨s, t, o⟩ with
    | false =>
      rw [hrv] at HRR
      clear hrv h h'
      go_enter Try.func6, Try.ntmps6
      go_upto_region 1 with fail
      rw [← HW1.out]
      have x0 := HBV.out.get 0
      have x1 := HBV.out.get 1
      have x2 := HBV.out.get 2
      go_wp2_with fail
      refine (HLI.out _ HG1.out).mono ?_
      rintro e w2 ⟨rfl, hg⟩
      rw [HLB.out]
      have HG2 := Lib.hid (grown_join HG1.out hg (.inr (by simp)))
      have HBV := Lib.hid (HBV.out.grown hg (by simp))
      clear hg x0 x1 x2
      have x0 := HBV.out.get 0
      have x1 := HBV.out.get 1
      have x2 := HBV.out.get 2
      go_wp2_with fail
      refine (HRR.out _ HG2.out).mono ?_
      rintro e w3 ⟨rfl, hg⟩
      have HG3 := Lib.hid (grown_join HG2.out hg (.inr (by simp)))
      have HBV := Lib.hid (HBV.out.grown hg (by simp))
      clear hg x0 x1 x2
      go_wp2_with fail
      refine (HKN.out _ HG3.out).mono ?_
      rintro e w4 ⟨rfl, hg⟩
      have HG4 := Lib.hid (grown_join HG3.out hg (.inr (by simp)))
      have HBV := Lib.hid (HBV.out.grown hg (by simp))
      clear hg
      go_wp2_with fail
      go_ret
      exact ⟨rfl, HG4.out⟩
    | true =>
      rw [hrv] at HRR
      have HRV := Lib.hid hrv
      clear hrv
      by_cases hax : 0 ≤ i ∧ i < n
      rotate_left
      · have HNA := Lib.hid (show axisB ⟨s, t, o⟩ i = false by unfold axisB; rw [HRV.out]; simp only [Bool.true_and, decide_eq_false_iff_not]; have := HLN.out; omega)
        rw [flip_no HNA.out] at HC1
        obtain ⟨⟨⟨s1, t1, o1⟩, b1⟩, hp1⟩ : ∃ vp : Vw × Bool, vp = (zeroV, false) := ⟨_, rfl⟩
        rw [← hp1] at HC1
        obtain rfl : b1 = false := congrArg Prod.snd hp1
        clear hp1
        clear h h'
        have hca : decide (i < 0) = true ∨ (decide (i < 0) = false ∧ decide ((n : Int) ≤ i) = true) := by
          by_cases h0 : i < 0
          · exact .inl (decide_eq_true h0)
          · exact .inr ⟨decide_eq_false h0, decide_eq_true (by omega)⟩
        clear hax
        rcases hca with z0 | ⟨z0, z1⟩
        all_goals
          go_enter Try.func6, Try.ntmps6
          go_upto_region 1 with fail
          rw [← HW1.out]
          have x0 := HBV.out.get 0
          have x1 := HBV.out.get 1
          have x2 := HBV.out.get 2
          go_wp2_with fail
          refine (HLI.out _ HG1.out).mono ?_
          rintro e w2 ⟨rfl, hg⟩
          rw [HLB.out]
          have HG2 := Lib.hid (grown_join HG1.out hg (.inr (by simp)))
          have HBV := Lib.hid (HBV.out.grown hg (by simp))
          clear hg x0 x1 x2
          have x0 := HBV.out.get 0
          have x1 := HBV.out.get 1
          have x2 := HBV.out.get 2
          go_wp2_with fail
          refine (HRR.out _ HG2.out).mono ?_
          rintro e w3 ⟨rfl, hg⟩
          have HG3 := Lib.hid (grown_join HG2.out hg (.inr (by simp)))
          have HBV := Lib.hid (HBV.out.grown hg (by simp))
          clear hg x0 x1 x2
          go_wp2_with fail
          refine (HKN.out _ HG3.out).mono ?_
          rintro e w4 ⟨rfl, hg⟩
          have HG4 := Lib.hid (grown_join HG3.out hg (.inr (by simp)))
          have HBV := Lib.hid (HBV.out.grown hg (by simp))
          clear hg
          have x0 := HBV.out.get 0
          have x1 := HBV.out.get 1
          have x2 := HBV.out.get 2
          go_wp2_with fail
          refine (HOW.out _ HG4.out).mono ?_
          rintro e w5 ⟨rfl, hg⟩
          have HG5 := Lib.hid (grown_join HG4.out hg (.inr (by simp)))
          have HBV := Lib.hid (HBV.out.grown hg (by simp))
          clear hg x0 x1 x2
          go_upto_region 4 with fail
          obtain ⟨w6, hw⟩ : ∃ w6, w6 = w5.alloc (.cells #[.slice A n c, .slice A' n' c', .int .i64 o] 29) := ⟨_, rfl⟩
          rw [← hw]
          have HBX : Hid (Box w6 w5.heap.size 29 #[.slice A n c, .slice A' n' c', .int .i64 o]) := Lib.hid (by rw [hw]; exact Box.fresh w5 _ _)
          have hg : w5.grownBy w6 none := by rw [hw]; exact World.grownBy_alloc w5 _ none
          have HG6 := Lib.hid (grown_join HG5.out hg (.inr (by simp)))
          have HBV := Lib.hid (HBV.out.grown hg (by simp))
          clear hw hg
          have x0 := HBV.out.get 0
          have x1 := HBV.out.get 1
          have x2 := HBV.out.get 2
          go_upto_region 5 with fail
          clear x0 x1 x2
          have x0 := HBX.out.get 0
          have x1 := HBX.out.get 1
          have x2 := HBX.out.get 2
          go_wp2_with fail
          refine (HC1.out _ HG6.out).mono ?_
          rintro e w7 ⟨A1, n1, c1, B1, m1, d1, rfl, h, h', hg⟩
          have HG7 := Lib.hid (grown_join HG6.out hg (.inr (by simp)))
          have HBV := Lib.hid (HBV.out.grown hg (by simp))
          have HBX := Lib.hid (HBX.out.grown hg (by simp))
          clear h h'
          clear hg x0 x1 x2
          go_upto_region 6 with fail
          obtain ⟨w8, hw⟩ : ∃ w8, w8 = w7.alloc (.cells #[.slice A1 n1 c1, .slice B1 m1 d1, .int .i64 o1] 29) := ⟨_, rfl⟩
          rw [← hw]
          have HX1 : Hid (Box w8 w7.heap.size 29 #[.slice A1 n1 c1, .slice B1 m1 d1, .int .i64 o1]) := Lib.hid (by rw [hw]; exact Box.fresh w7 _ _)
          have hg : w7.grownBy w8 none := by rw [hw]; exact World.grownBy_alloc w7 _ none
          have HG8 := Lib.hid (grown_join HG7.out hg (.inr (by simp)))
          have HBV := Lib.hid (HBV.out.grown hg (by simp))
          have HBX := Lib.hid (HBX.out.grown hg (by simp))
          clear hw hg
          go_wp2_with fail
          go_ret
          exact ⟨rfl, HG8.out⟩
      · obtain ⟨k, rfl⟩ : ∃ k : Nat, i = (k : Int) := ⟨i.toNat, by omega⟩
        have hk : k < n := by omega
        have HKS := Lib.hid (show k < (⟨s, t, o⟩ : Vw).sh.length by show k < s.length; rw [HLN.out]; exact hk)
        have z0 : decide ((k : Int) < 0) = false := decide_eq_false (by omega)
        have z1 : decide ((n : Int) ≤ (k : Int)) = false := decide_eq_false (by omega)
        have z2 : decide (n ≤ k) = false := decide_eq_false (by omega)
        obtain ⟨ab, af, rfl, _, _⟩ := h.1.2.at_ hk
        have HCK : Hid (∀ w', w.grownBy w' none → w'.cell? ⟨ab, af + k, none⟩ = some (.int .i64 (s.getD k 0))) := Lib.hid fun w' hg => by
          obtain ⟨b', off', e, _, hc⟩ := (h.grow hg).1.2.at_ hk
          injection e with e; injection e with e1 e2; subst e1; subst e2; exact hc
        have HC3 : Hid (∀ w', w.grownBy w' none → Calls Try.prog 30 #[.agg #[.slice (some ⟨ab, af, none⟩) n c, .slice A' n' c', .int .i64 o], .int .i64 (k : Int), .int .i64 x] w' (GaveVP (windowV ⟨s, t, o⟩ (k : Int) x) w')) := Lib.hid fun w' hg => HS.out.window _ n c A' n' c' ⟨s, t, o⟩ (k : Int) x w' (HV.out w' hg) ho hi hx
        have HOF : Hid (∀ w', w.grownBy w' none → Calls Try.prog 37 #[.agg #[.slice (some ⟨ab, af, none⟩) n c, .slice A' n' c', .int .i64 o]] w' (GaveInts (offsL ⟨s, t, o⟩) w')) := Lib.hid fun w' hg => offsets8_any _ A' n c n' c' s t o w' (h.grow hg) (h'.grow hg) hn hn' HRV.out
        have hcell := HCE.out (rightV_all HRV.out).1
        obtain ⟨⟨⟨s1, t1, o1⟩, b1⟩, hp1⟩ : ∃ vp, vp = flipV ⟨s, t, o⟩ (k : Int) := ⟨_, rfl⟩
        rw [← hp1] at HC1
        have HP1 := Lib.hid hp1.symm
        clear hp1
        obtain ⟨⟨⟨s3, t3, o3⟩, b3⟩, hp3⟩ : ∃ vp, vp = windowV ⟨s, t, o⟩ (k : Int) x := ⟨_, rfl⟩
        rw [← hp3] at HC3
        have HP3 := Lib.hid hp3.symm
        clear hp3
        have HWF := Lib.hid (fun (hb : b3 = false) => window_false (u := ⟨s3, t3, o3⟩) HKS.out HRV.out hcell (by rw [HP3.out, hb]))
        have HLO := Lib.hid (show (offsL ⟨s, t, o⟩).length ≤ 1048576 by rw [offs_length]; omega)
        clear h h' hcell hax
        go_enter Try.func6, Try.ntmps6
        go_upto_region 1 with fail
        rw [← HW1.out]
        have x0 := HBV.out.get 0
        have x1 := HBV.out.get 1
        have x2 := HBV.out.get 2
        go_wp2_with fail
        refine (HLI.out _ HG1.out).mono ?_
        rintro e w2 ⟨rfl, hg⟩
        rw [HLB.out]
        have HG2 := Lib.hid (grown_join HG1.out hg (.inr (by simp)))
        have HBV := Lib.hid (HBV.out.grown hg (by simp))
        clear hg x0 x1 x2
        have x0 := HBV.out.get 0
        have x1 := HBV.out.get 1
        have x2 := HBV.out.get 2
        go_wp2_with fail
        refine (HRR.out _ HG2.out).mono ?_
        rintro e w3 ⟨rfl, hg⟩
        have HG3 := Lib.hid (grown_join HG2.out hg (.inr (by simp)))
        have HBV := Lib.hid (HBV.out.grown hg (by simp))
        clear hg x0 x1 x2
        go_wp2_with fail
        refine (HKN.out _ HG3.out).mono ?_
        rintro e w4 ⟨rfl, hg⟩
        have HG4 := Lib.hid (grown_join HG3.out hg (.inr (by simp)))
        have HBV := Lib.hid (HBV.out.grown hg (by simp))
        clear hg
        have x0 := HBV.out.get 0
        have x1 := HBV.out.get 1
        have x2 := HBV.out.get 2
        go_wp2_with fail
        refine (HOW.out _ HG4.out).mono ?_
        rintro e w5 ⟨rfl, hg⟩
        have HG5 := Lib.hid (grown_join HG4.out hg (.inr (by simp)))
        have HBV := Lib.hid (HBV.out.grown hg (by simp))
        clear hg x0 x1 x2
        go_upto_region 4 with fail
        obtain ⟨w6, hw⟩ : ∃ w6, w6 = w5.alloc (.cells #[.slice (some ⟨ab, af, none⟩) n c, .slice A' n' c', .int .i64 o] 29) := ⟨_, rfl⟩
        rw [← hw]
        have HBX : Hid (Box w6 w5.heap.size 29 #[.slice (some ⟨ab, af, none⟩) n c, .slice A' n' c', .int .i64 o]) := Lib.hid (by rw [hw]; exact Box.fresh w5 _ _)
        have hg : w5.grownBy w6 none := by rw [hw]; exact World.grownBy_alloc w5 _ none
        have HG6 := Lib.hid (grown_join HG5.out hg (.inr (by simp)))
        have HBV := Lib.hid (HBV.out.grown hg (by simp))
        clear hw hg
        have x0 := HBV.out.get 0
        have x1 := HBV.out.get 1
        have x2 := HBV.out.get 2
        go_upto_region 7 with fail
        clear x0 x1 x2
        have x0 := HBX.out.get 0
        have x1 := HBX.out.get 1
        have x2 := HBX.out.get 2
        go_wp2_with fail
        refine (HC1.out _ HG6.out).mono ?_
        rintro e w7 ⟨A1, n1, c1, B1, m1, d1, rfl, h, h', hg⟩
        have HG7 := Lib.hid (grown_join HG6.out hg (.inr (by simp)))
        have HBV := Lib.hid (HBV.out.grown hg (by simp))
        have HBX := Lib.hid (HBX.out.grown hg (by simp))
        have HA1 := Lib.hid h
        have HB1 := Lib.hid h'
        clear hg h h' x0 x1 x2
        go_upto_region 8 with fail
        obtain ⟨w8, hw⟩ : ∃ w8, w8 = w7.alloc (.cells #[.slice A1 n1 c1, .slice B1 m1 d1, .int .i64 o1] 29) := ⟨_, rfl⟩
        rw [← hw]
        have HX1 : Hid (Box w8 w7.heap.size 29 #[.slice A1 n1 c1, .slice B1 m1 d1, .int .i64 o1]) := Lib.hid (by rw [hw]; exact Box.fresh w7 _ _)
        have hg : w7.grownBy w8 none := by rw [hw]; exact World.grownBy_alloc w7 _ none
        have HG8 := Lib.hid (grown_join HG7.out hg (.inr (by simp)))
        have HA1 := Lib.hid (HA1.out.grow hg)
        have HB1 := Lib.hid (HB1.out.grow hg)
        have HBV := Lib.hid (HBV.out.grown hg (by simp))
        have HBX := Lib.hid (HBX.out.grown hg (by simp))
        clear hw hg
        cases b1 with
        | false =>
          have x0 := HBX.out.get 0
          have x1 := HBX.out.get 1
          have x2 := HBX.out.get 2
          go_wp2_with fail
          refine (HC3.out _ HG8.out).mono ?_
          rintro e w9 ⟨A3, n3, c3, B3, m3, d3, rfl, h, h', hg⟩
          have HG9 := Lib.hid (grown_join HG8.out hg (.inr (by simp)))
          have HA1 := Lib.hid (HA1.out.grow hg)
          have HB1 := Lib.hid (HB1.out.grow hg)
          have HBV := Lib.hid (HBV.out.grown hg (by simp))
          have HBX := Lib.hid (HBX.out.grown hg (by simp))
          have HX1 := Lib.hid (HX1.out.grown hg (by simp))
          have HA3 := Lib.hid h
          have HB3 := Lib.hid h'
          clear hg h h' x0 x1 x2
          go_upto_region 13 with fail
          obtain ⟨w10, hw⟩ : ∃ w10, w10 = w9.alloc (.cells #[.slice A3 n3 c3, .slice B3 m3 d3, .int .i64 o3] 29) := ⟨_, rfl⟩
          rw [← hw]
          have HX3 : Hid (Box w10 w9.heap.size 29 #[.slice A3 n3 c3, .slice B3 m3 d3, .int .i64 o3]) := Lib.hid (by rw [hw]; exact Box.fresh w9 _ _)
          have hg : w9.grownBy w10 none := by rw [hw]; exact World.grownBy_alloc w9 _ none
          have HG10 := Lib.hid (grown_join HG9.out hg (.inr (by simp)))
          have HA1 := Lib.hid (HA1.out.grow hg)
          have HB1 := Lib.hid (HB1.out.grow hg)
          have HA3 := Lib.hid (HA3.out.grow hg)
          have HB3 := Lib.hid (HB3.out.grow hg)
          have HBV := Lib.hid (HBV.out.grown hg (by simp))
          have HBX := Lib.hid (HBX.out.grown hg (by simp))
          have HX1 := Lib.hid (HX1.out.grown hg (by simp))
          clear hw hg
          cases b3 with
          | false =>
            have hwf := HWF.out rfl
            have ck := HCK.out _ HG10.out
            generalize s.getD k 0 = sk at *
            have x0 := HBV.out.get 0
            have x1 := HBV.out.get 1
            have x2 := HBV.out.get 2
            have hca : decide (x < 1) = true ∨ (decide (x < 1) = false ∧ (decide (sk < x) = true ∨ (decide (sk < x) = false ∧ decide ((6 : Int) ≤ (n : Int)) = true ∧ decide (6 ≤ n) = true))) := by
              by_cases h0 : x < 1
              · exact .inl (decide_eq_true h0)
              · by_cases h1 : sk < x
                · exact .inr ⟨decide_eq_false h0, .inl (decide_eq_true h1)⟩
                · have h6 : 6 ≤ n := by have := HLN.out; rcases hwf with h | h | h; exact absurd h h0; exact absurd h h1; exact this ▸ h
                  exact .inr ⟨decide_eq_false h0, .inr ⟨decide_eq_false h1, decide_eq_true (by omega), decide_eq_true h6⟩⟩
            clear hwf
            rcases hca with e0 | ⟨e0, e1 | ⟨e1, e2, e3⟩⟩
            all_goals
              go_wp2_with fail
              go_ret
              exact ⟨rfl, HG10.out⟩
          | true =>
            obtain ⟨hwu, hru, hx1, hx2⟩ := window_true HKS.out HRV.out HP3.out
            have hdw := fun (j : Int) (h0 : 0 ≤ j) (hj : j < s.getD k 0 - x + 1) => drop_window HKS.out HRV.out HP3.out h0 hj
            have hgk : s3.getD k 0 = s.getD k 0 - x + 1 := by have := win_get ⟨s, t, o⟩ k x HKS.out; rw [← hwu] at this; exact this
            obtain ⟨J, hJ⟩ : ∃ J : Nat, (J : Int) = s3.getD k 0 := ⟨(s3.getD k 0).toNat, by rw [hgk]; dsimp only at hx2; omega⟩
            have HDW := Lib.hid (show ∀ j : Nat, j < J → dropV ⟨s3, t3, o3⟩ (k : Int) (j : Int) = sliceV ⟨s, t, o⟩ (k : Int) (j : Int) x 1 from fun j hj => hdw j (by omega) (by omega))
            have hsk := (rightV_len HRV.out HKS.out).2
            have hJb : J ≤ 1048576 := by dsimp only at hsk; omega
            have ho3 : I64 o3 := by have := (rightV_all hru).2.2; dsimp only at this; unfold I64; omega
            have h3l := window8_short ⟨s, t, o⟩ (k : Int) x
            rw [HP3.out] at h3l
            have f3l : s3.length = s.length + 1 := (congrArg (fun v : Vw => v.sh.length) hwu).trans (win_length _ _ _ HKS.out)
            have h3k : k < n3 := by have e : s3.length = n3 := HA3.out.len; have f := HLN.out; omega
            have h3a : n3 ≤ 1048576 := by have e : s3.length = n3 := HA3.out.len; have g : s3.length ≤ 6 := h3l.1; omega
            have h3b : m3 ≤ 1048576 := by have e : t3.length = m3 := HB3.out.len; have g : t3.length ≤ 6 := h3l.2; omega
            have HJ := Lib.hid hJ
            clear hwu hru hx1 hx2 hdw f3l hgk hJ hsk h3l
            go_wp2_with fail
            go_loopw [16] (fun i wr => ∃ j : Nat, j ≤ J ∧ i = .int .i64 j ∧ Hid (w.grownBy wr none) ∧ Hid (Box wr w5.heap.size 29 #[.slice (some ⟨ab, af, none⟩) n c, .slice A' n' c', .int .i64 o]) ∧ Hid (Box wr w9.heap.size 29 #[.slice A3 n3 c3, .slice B3 m3 d3, .int .i64 o3]) ∧ Hid (NumsF wr A3 n3 c3 s3) ∧ Hid (NumsF wr B3 m3 d3 t3)) (fun i _ => J - (intOf i).toNat)
            case atStart => exact ⟨0, Nat.zero_le _, rfl, HG10, HBX, HX3, HA3, HB3⟩
            case round =>
              obtain ⟨j, hj, rfl, HG50, HBX, HX3, HA3, HB3⟩ := hrel
              obtain ⟨w50, rfl⟩ : ∃ w50, w50 = wr := ⟨_, rfl⟩
              obtain ⟨bb, bf, rfl, _, c3k⟩ := HA3.out.1.2.at_ h3k
              rw [← HJ.out] at c3k
              have y0 := HX3.out.get 0
              by_cases hlt : j < J
              · have g0 : decide ((j : Int) < (J : Int)) = true := decide_eq_true (by omega)
                have hij : I64 (j : Int) := by unfold I64; omega
                have HCD : Hid (∀ w', w50 = w' → Calls Try.prog 26 #[.agg #[.slice (some ⟨bb, bf, none⟩) n3 c3, .slice B3 m3 d3, .int .i64 o3], .int .i64 (k : Int), .int .i64 (j : Int)] w' (GaveVP (sliceV ⟨s, t, o⟩ (k : Int) (j : Int) x 1) w')) := Lib.hid fun w' e => by subst e; rw [← HDW.out j hlt]; exact HS.out.drop _ n3 c3 B3 m3 d3 ⟨s3, t3, o3⟩ (k : Int) (j : Int) w50 ⟨HA3.out, HB3.out, h3a, h3b⟩ ho3 hi hij
                have HCS : Hid (∀ w', w.grownBy w' none → Calls Try.prog 20 #[.agg #[.slice (some ⟨ab, af, none⟩) n c, .slice A' n' c', .int .i64 o], .int .i64 (k : Int), .int .i64 (j : Int), .int .i64 x, .int .i64 1] w' (GaveVP (sliceV ⟨s, t, o⟩ (k : Int) (j : Int) x 1) w')) := Lib.hid fun w' hg => HS.out.slice _ n c A' n' c' ⟨s, t, o⟩ (k : Int) (j : Int) x 1 w' (HV.out w' hg) ho hi hij hx ⟨by decide, by decide⟩
                obtain ⟨⟨⟨s4, t4, o4⟩, b4⟩, hp4⟩ : ∃ vp, vp = sliceV ⟨s, t, o⟩ (k : Int) (j : Int) x 1 := ⟨_, rfl⟩
                have HP4 := Lib.hid hp4.symm
                clear hp4
                have hs4 := slice8_short ⟨s, t, o⟩ (k : Int) (j : Int) x 1
                rw [HP4.out] at HCD HCS hs4
                have HSH4 := Lib.hid hs4
                clear hs4
                go_upto_region 18 with fail
                clear c3k y0 g0
                have x0 := HX3.out.get 0
                have x1 := HX3.out.get 1
                have x2 := HX3.out.get 2
                go_wp2_with fail
                refine (HCD.out w50 rfl).mono ?_
                rintro e w51 ⟨A4, n4, c4, B4, m4, d4, rfl, h, h', hg⟩
                have HG51 := Lib.hid (grown_join HG50.out hg (.inr (by simp)))
                have HA3 := Lib.hid (HA3.out.grow hg)
                have HB3 := Lib.hid (HB3.out.grow hg)
                have HBX := Lib.hid (HBX.out.grown hg (by simp))
                have HX3 := Lib.hid (HX3.out.grown hg (by simp))
                have HA4 := Lib.hid h
                have HB4 := Lib.hid h'
                clear hg h h' x0 x1 x2
                go_upto_region 19 with fail
                obtain ⟨w52, hw⟩ : ∃ w52, w52 = w51.alloc (.cells #[.slice A4 n4 c4, .slice B4 m4 d4, .int .i64 o4] 29) := ⟨_, rfl⟩
                rw [← hw]
                have HX4 : Hid (Box w52 w51.heap.size 29 #[.slice A4 n4 c4, .slice B4 m4 d4, .int .i64 o4]) := Lib.hid (by rw [hw]; exact Box.fresh w51 _ _)
                have hg : w51.grownBy w52 none := by rw [hw]; exact World.grownBy_alloc w51 _ none
                have HG52 := Lib.hid (grown_join HG51.out hg (.inr (by simp)))
                have HA3 := Lib.hid (HA3.out.grow hg)
                have HB3 := Lib.hid (HB3.out.grow hg)
                have HA4 := Lib.hid (HA4.out.grow hg)
                have HB4 := Lib.hid (HB4.out.grow hg)
                have HBX := Lib.hid (HBX.out.grown hg (by simp))
                have HX3 := Lib.hid (HX3.out.grown hg (by simp))
                clear hw hg
                have x0 := HBX.out.get 0
                have x1 := HBX.out.get 1
                have x2 := HBX.out.get 2
                go_wp2_with fail
                refine (HCS.out _ HG52.out).mono ?_
                rintro e w53 ⟨A5, n5, c5, B5, m5, d5, rfl, h, h', hg⟩
                have HG53 := Lib.hid (grown_join HG52.out hg (.inr (by simp)))
                have HA3 := Lib.hid (HA3.out.grow hg)
                have HB3 := Lib.hid (HB3.out.grow hg)
                have HA4 := Lib.hid (HA4.out.grow hg)
                have HB4 := Lib.hid (HB4.out.grow hg)
                have HBX := Lib.hid (HBX.out.grown hg (by simp))
                have HX3 := Lib.hid (HX3.out.grown hg (by simp))
                have HX4 := Lib.hid (HX4.out.grown hg (by simp))
                have HA5 := Lib.hid h
                have HB5 := Lib.hid h'
                clear hg h h' x0 x1 x2
                go_upto_region 20 with fail
                obtain ⟨w54, hw⟩ : ∃ w54, w54 = w53.alloc (.cells #[.slice A5 n5 c5, .slice B5 m5 d5, .int .i64 o4] 29) := ⟨_, rfl⟩
                rw [← hw]
                have HX5 : Hid (Box w54 w53.heap.size 29 #[.slice A5 n5 c5, .slice B5 m5 d5, .int .i64 o4]) := Lib.hid (by rw [hw]; exact Box.fresh w53 _ _)
                have hg : w53.grownBy w54 none := by rw [hw]; exact World.grownBy_alloc w53 _ none
                have HG54 := Lib.hid (grown_join HG53.out hg (.inr (by simp)))
                have HA3 := Lib.hid (HA3.out.grow hg)
                have HB3 := Lib.hid (HB3.out.grow hg)
                have HA4 := Lib.hid (HA4.out.grow hg)
                have HB4 := Lib.hid (HB4.out.grow hg)
                have HA5 := Lib.hid (HA5.out.grow hg)
                have HB5 := Lib.hid (HB5.out.grow hg)
                have HBX := Lib.hid (HBX.out.grown hg (by simp))
                have HX3 := Lib.hid (HX3.out.grown hg (by simp))
                have HX4 := Lib.hid (HX4.out.grown hg (by simp))
                clear hw hg
                cases b4 with
                | false =>
                  go_quiet (fail)
                  go_wp2_with fail
                  go_roundw
                  case rel => exact ⟨j + 1, by omega, by go_num, Lib.hid (grown_drewN HG54.out _), HBX, HX3, HA3, HB3⟩
                  case measure => simp [intOf]; omega
                | true =>
                  have hrr := slice_right HP4.out
                  have hll : (offsL ⟨s4, t4, o4⟩).length ≤ 1048576 := offs_small hrr
                  have HO4 := Lib.hid (fun w' (hg : w54.grownBy w' none) => offsets8_any A4 B4 n4 c4 m4 d4 s4 t4 o4 w' (HA4.out.grow hg) (HB4.out.grow hg) (by have e : s4.length = n4 := HA4.out.len; have g : s4.length ≤ 6 := HSH4.out.1; omega) (by have e : t4.length = m4 := HB4.out.len; have g : t4.length ≤ 6 := HSH4.out.2; omega) hrr)
                  have HO5 := Lib.hid (fun w' (hg : w54.grownBy w' none) => offsets8_any A5 B5 n5 c5 m5 d5 s4 t4 o4 w' (HA5.out.grow hg) (HB5.out.grow hg) (by have e : s4.length = n5 := HA5.out.len; have g : s4.length ≤ 6 := HSH4.out.1; omega) (by have e : t4.length = m5 := HB5.out.len; have g : t4.length ≤ 6 := HSH4.out.2; omega) hrr)
                  generalize offsL ⟨s4, t4, o4⟩ = L at *
                  have HLL := Lib.hid hll
                  clear hrr hll
                  have HGC := Lib.hid (grown_refl w54 none)
                  have KEEP0 := Lib.hid (boxes8_2 HX4.out HX5.out)
                  have KEEPD := Lib.hid (boxes8_2 (box8_drew HX4.out) (box8_drew HX5.out))
                  go_region_held3 (fun w' => w'.cell? ⟨w51.heap.size, 0, none⟩ = some (.slice A4 n4 c4) ∧ w'.cell? ⟨w51.heap.size, 1, none⟩ = some (.slice B4 m4 d4) ∧ w'.cell? ⟨w51.heap.size, 2, none⟩ = some (.int .i64 o4) ∧ w'.cell? ⟨w53.heap.size, 0, none⟩ = some (.slice A5 n5 c5) ∧ w'.cell? ⟨w53.heap.size, 1, none⟩ = some (.slice B5 m5 d5) ∧ w'.cell? ⟨w53.heap.size, 2, none⟩ = some (.int .i64 o4)) (first | (with_reducible exact KEEP.out) | (with_reducible exact KEEPD.out) | (with_reducible exact KEEP0.out) | exact KEEP.out | exact KEEPD.out) (first
                    | (go_at_call 37; (with_reducible refine (HO4.out _ (grown_drew HGC.out)).mono ?_); rintro e w199 ⟨A71, c71, rfl, ho7, hg⟩; have HGC := Lib.hid (grown_join (grown_drew HGC.out) hg (.inr (by simp))); have HI71 := Lib.hid ho7.numsF; clear ho7 hg; have KEEP := Lib.hid (boxes8_2 (HX4.out.grown HGC.out (by simp)) (HX5.out.grown HGC.out (by simp))))
                    | (go_at_call 37; (with_reducible refine (HO5.out _ HGC.out).mono ?_); rintro e w199 ⟨A72, c72, rfl, ho7, hg⟩; have HGC := Lib.hid (grown_join HGC.out hg (.inr (by simp))); have HI71 := Lib.hid (HI71.out.grow hg); have HI72 := Lib.hid ho7.numsF; clear ho7 hg; have KEEP := Lib.hid (boxes8_2 (HX4.out.grown HGC.out (by simp)) (HX5.out.grown HGC.out (by simp))))
                    | (go_at_call 36; refine ((ints8_any _ _ _ _ _ _ _ _ _ _ _ HI71.out.1 HI72.out.1 HLL.out HLL.out).mono fun _ _ h => ToldV.tells h).mono ?_; rintro e w199 ⟨rfl, hg⟩; rw [decide_eq_true rfl]; have HGC := Lib.hid (grown_join HGC.out hg (.inr (by simp))); clear hg; have KEEP := Lib.hid (boxes8_2 (HX4.out.grown HGC.out (by simp)) (HX5.out.grown HGC.out (by simp))))
                    )
                  all_goals
                    have HGE := Lib.hid (grown_join HG54.out HGC.out (.inr (by simp)))
                    have HBX := Lib.hid (HBX.out.grown HGC.out (by simp))
                    have HX3 := Lib.hid (HX3.out.grown HGC.out (by simp))
                    have HA3 := Lib.hid (HA3.out.grow HGC.out)
                    have HB3 := Lib.hid (HB3.out.grow HGC.out)
                    go_wp2_with fail
                    go_roundw
                    case rel => exact ⟨j + 1, by omega, by go_num, HGE, HBX, HX3, HA3, HB3⟩
                    case measure => simp [intOf]; omega
              · have g0 : decide ((j : Int) < (J : Int)) = false := decide_eq_false (by omega)
                go_wp2_with fail
                go_ret
                exact ⟨rfl, HG50.out⟩
        | true =>
          obtain ⟨hft, hry⟩ := flip_twice HP1.out
          have ho1 : I64 o1 := by have := (rightV_all hry).2.2; dsimp only at this; unfold I64; omega
          have h1s := flip8_short ⟨s, t, o⟩ (k : Int)
          rw [HP1.out] at h1s
          have h1a : n1 ≤ 1048576 := by have e : s1.length = n1 := HA1.out.len; have g : s1.length ≤ 6 := h1s.1; omega
          have h1b : m1 ≤ 1048576 := by have e : t1.length = m1 := HB1.out.len; have g : t1.length ≤ 6 := h1s.2; omega
          have HC2 : Hid (∀ w', w8 = w' → Calls Try.prog 22 #[.agg #[.slice A1 n1 c1, .slice B1 m1 d1, .int .i64 o1], .int .i64 (k : Int)] w' (GaveVP (⟨s, t, o⟩, true) w')) := Lib.hid fun w' e => by subst e; rw [← hft]; exact HS.out.flip A1 n1 c1 B1 m1 d1 ⟨s1, t1, o1⟩ (k : Int) w8 ⟨HA1.out, HB1.out, h1a, h1b⟩ ho1 hi
          clear hft hry h1s
          go_upto_region 9 with fail
          have x0 := HX1.out.get 0
          have x1 := HX1.out.get 1
          have x2 := HX1.out.get 2
          go_wp2_with fail
          refine (HC2.out w8 rfl).mono ?_
          rintro e w9 ⟨A2, n2, c2, B2, m2, d2, rfl, h, h', hg⟩
          have HG9 := Lib.hid (grown_join HG8.out hg (.inr (by simp)))
          have HA1 := Lib.hid (HA1.out.grow hg)
          have HB1 := Lib.hid (HB1.out.grow hg)
          have HBV := Lib.hid (HBV.out.grown hg (by simp))
          have HBX := Lib.hid (HBX.out.grown hg (by simp))
          have HX1 := Lib.hid (HX1.out.grown hg (by simp))
          have HA2 := Lib.hid h
          have HB2 := Lib.hid h'
          clear hg h h' x0 x1 x2
          go_upto_region 10 with fail
          obtain ⟨w10, hw⟩ : ∃ w10, w10 = w9.alloc (.cells #[.slice A2 n2 c2, .slice B2 m2 d2, .int .i64 o] 29) := ⟨_, rfl⟩
          rw [← hw]
          have HX2 : Hid (Box w10 w9.heap.size 29 #[.slice A2 n2 c2, .slice B2 m2 d2, .int .i64 o]) := Lib.hid (by rw [hw]; exact Box.fresh w9 _ _)
          have hg : w9.grownBy w10 none := by rw [hw]; exact World.grownBy_alloc w9 _ none
          have HG10 := Lib.hid (grown_join HG9.out hg (.inr (by simp)))
          have HA1 := Lib.hid (HA1.out.grow hg)
          have HB1 := Lib.hid (HB1.out.grow hg)
          have HA2 := Lib.hid (HA2.out.grow hg)
          have HB2 := Lib.hid (HB2.out.grow hg)
          have HBV := Lib.hid (HBV.out.grown hg (by simp))
          have HBX := Lib.hid (HBX.out.grown hg (by simp))
          have HX1 := Lib.hid (HX1.out.grown hg (by simp))
          clear hw hg
          have HO2 := Lib.hid (fun w' (hg : w10.grownBy w' none) => offsets8_any A2 B2 n2 c2 m2 d2 s t o w' (HA2.out.grow hg) (HB2.out.grow hg) (by have e : s.length = n2 := HA2.out.len; have g := HLN.out; omega) (by have e : t.length = m2 := HB2.out.len; have g : t.length = s.length := (rightV_all HRV.out).2.1; have g2 := HLN.out; omega) HRV.out)
          have HO1 := Lib.hid (fun w' (hg : w10.grownBy w' none) => HOF.out w' (grown_join HG10.out hg (.inr (by simp))))
          have HLL := HLO
          generalize offsL ⟨s, t, o⟩ = L at *
          have HGC := Lib.hid (grown_refl w10 none)
          have KEEP0 := Lib.hid (boxes8_2 HX2.out HBX.out)
          have KEEPD := Lib.hid (boxes8_2 (box8_drew HX2.out) (box8_drew HBX.out))
          go_region_held3 (fun w' => w'.cell? ⟨w9.heap.size, 0, none⟩ = some (.slice A2 n2 c2) ∧ w'.cell? ⟨w9.heap.size, 1, none⟩ = some (.slice B2 m2 d2) ∧ w'.cell? ⟨w9.heap.size, 2, none⟩ = some (.int .i64 o) ∧ w'.cell? ⟨w5.heap.size, 0, none⟩ = some (.slice (some ⟨ab, af, none⟩) n c) ∧ w'.cell? ⟨w5.heap.size, 1, none⟩ = some (.slice A' n' c') ∧ w'.cell? ⟨w5.heap.size, 2, none⟩ = some (.int .i64 o)) (first | (with_reducible exact KEEP.out) | (with_reducible exact KEEPD.out) | (with_reducible exact KEEP0.out) | exact KEEP.out | exact KEEPD.out) (first
            | (go_at_call 37; (with_reducible refine (HO2.out _ (grown_drew HGC.out)).mono ?_); rintro e w199 ⟨A71, c71, rfl, ho7, hg⟩; have HGC := Lib.hid (grown_join (grown_drew HGC.out) hg (.inr (by simp))); have HI71 := Lib.hid ho7.numsF; clear ho7 hg; have KEEP := Lib.hid (boxes8_2 (HX2.out.grown HGC.out (by simp)) (HBX.out.grown HGC.out (by simp))))
            | (go_at_call 37; (with_reducible refine (HO1.out _ HGC.out).mono ?_); rintro e w199 ⟨A72, c72, rfl, ho7, hg⟩; have HGC := Lib.hid (grown_join HGC.out hg (.inr (by simp))); have HI71 := Lib.hid (HI71.out.grow hg); have HI72 := Lib.hid ho7.numsF; clear ho7 hg; have KEEP := Lib.hid (boxes8_2 (HX2.out.grown HGC.out (by simp)) (HBX.out.grown HGC.out (by simp))))
            | (go_at_call 36; refine ((ints8_any _ _ _ _ _ _ _ _ _ _ _ HI71.out.1 HI72.out.1 HLL.out HLL.out).mono fun _ _ h => ToldV.tells h).mono ?_; rintro e w199 ⟨rfl, hg⟩; rw [decide_eq_true rfl]; have HGC := Lib.hid (grown_join HGC.out hg (.inr (by simp))); clear hg; have KEEP := Lib.hid (boxes8_2 (HX2.out.grown HGC.out (by simp)) (HBX.out.grown HGC.out (by simp))))
            )
          all_goals
            have HG199 := Lib.hid (grown_join HG10.out HGC.out (.inr (by simp)))
            have HA1 := Lib.hid (HA1.out.grow HGC.out)
            have HB1 := Lib.hid (HB1.out.grow HGC.out)
            have HA2 := Lib.hid (HA2.out.grow HGC.out)
            have HB2 := Lib.hid (HB2.out.grow HGC.out)
            have HBV := Lib.hid (HBV.out.grown HGC.out (by simp))
            have HBX := Lib.hid (HBX.out.grown HGC.out (by simp))
            have HX1 := Lib.hid (HX1.out.grown HGC.out (by simp))
            have HX2 := Lib.hid (HX2.out.grown HGC.out (by simp))
            clear HLL
            have x0 := HBX.out.get 0
            have x1 := HBX.out.get 1
            have x2 := HBX.out.get 2
            go_wp2_with fail
            refine (HC3.out _ HG199.out).mono ?_
            rintro e w200 ⟨A3, n3, c3, B3, m3, d3, rfl, h, h', hg⟩
            have HG200 := Lib.hid (grown_join HG199.out hg (.inr (by simp)))
            have HA1 := Lib.hid (HA1.out.grow hg)
            have HB1 := Lib.hid (HB1.out.grow hg)
            have HA2 := Lib.hid (HA2.out.grow hg)
            have HB2 := Lib.hid (HB2.out.grow hg)
            have HBV := Lib.hid (HBV.out.grown hg (by simp))
            have HBX := Lib.hid (HBX.out.grown hg (by simp))
            have HX1 := Lib.hid (HX1.out.grown hg (by simp))
            have HX2 := Lib.hid (HX2.out.grown hg (by simp))
            have HA3 := Lib.hid h
            have HB3 := Lib.hid h'
            clear hg h h' x0 x1 x2
            go_upto_region 13 with fail
            obtain ⟨w201, hw⟩ : ∃ w201, w201 = w200.alloc (.cells #[.slice A3 n3 c3, .slice B3 m3 d3, .int .i64 o3] 29) := ⟨_, rfl⟩
            rw [← hw]
            have HX3 : Hid (Box w201 w200.heap.size 29 #[.slice A3 n3 c3, .slice B3 m3 d3, .int .i64 o3]) := Lib.hid (by rw [hw]; exact Box.fresh w200 _ _)
            have hg : w200.grownBy w201 none := by rw [hw]; exact World.grownBy_alloc w200 _ none
            have HG201 := Lib.hid (grown_join HG200.out hg (.inr (by simp)))
            have HA1 := Lib.hid (HA1.out.grow hg)
            have HB1 := Lib.hid (HB1.out.grow hg)
            have HA2 := Lib.hid (HA2.out.grow hg)
            have HB2 := Lib.hid (HB2.out.grow hg)
            have HA3 := Lib.hid (HA3.out.grow hg)
            have HB3 := Lib.hid (HB3.out.grow hg)
            have HBV := Lib.hid (HBV.out.grown hg (by simp))
            have HBX := Lib.hid (HBX.out.grown hg (by simp))
            have HX1 := Lib.hid (HX1.out.grown hg (by simp))
            have HX2 := Lib.hid (HX2.out.grown hg (by simp))
            clear hw hg
            cases b3 with
            | false =>
              have hwf := HWF.out rfl
              have ck := HCK.out _ HG201.out
              generalize s.getD k 0 = sk at *
              have x0 := HBV.out.get 0
              have x1 := HBV.out.get 1
              have x2 := HBV.out.get 2
              have hca : decide (x < 1) = true ∨ (decide (x < 1) = false ∧ (decide (sk < x) = true ∨ (decide (sk < x) = false ∧ decide ((6 : Int) ≤ (n : Int)) = true ∧ decide (6 ≤ n) = true))) := by
                by_cases h0 : x < 1
                · exact .inl (decide_eq_true h0)
                · by_cases h1 : sk < x
                  · exact .inr ⟨decide_eq_false h0, .inl (decide_eq_true h1)⟩
                  · have h6 : 6 ≤ n := by have := HLN.out; rcases hwf with h | h | h; exact absurd h h0; exact absurd h h1; exact this ▸ h
                    exact .inr ⟨decide_eq_false h0, .inr ⟨decide_eq_false h1, decide_eq_true (by omega), decide_eq_true h6⟩⟩
              clear hwf
              rcases hca with e0 | ⟨e0, e1 | ⟨e1, e2, e3⟩⟩
              all_goals
                go_wp2_with fail
                go_ret
                exact ⟨rfl, HG201.out⟩
            | true =>
              obtain ⟨hwu, hru, hx1, hx2⟩ := window_true HKS.out HRV.out HP3.out
              have hdw := fun (j : Int) (h0 : 0 ≤ j) (hj : j < s.getD k 0 - x + 1) => drop_window HKS.out HRV.out HP3.out h0 hj
              have hgk : s3.getD k 0 = s.getD k 0 - x + 1 := by have := win_get ⟨s, t, o⟩ k x HKS.out; rw [← hwu] at this; exact this
              obtain ⟨J, hJ⟩ : ∃ J : Nat, (J : Int) = s3.getD k 0 := ⟨(s3.getD k 0).toNat, by rw [hgk]; dsimp only at hx2; omega⟩
              have HDW := Lib.hid (show ∀ j : Nat, j < J → dropV ⟨s3, t3, o3⟩ (k : Int) (j : Int) = sliceV ⟨s, t, o⟩ (k : Int) (j : Int) x 1 from fun j hj => hdw j (by omega) (by omega))
              have hsk := (rightV_len HRV.out HKS.out).2
              have hJb : J ≤ 1048576 := by dsimp only at hsk; omega
              have ho3 : I64 o3 := by have := (rightV_all hru).2.2; dsimp only at this; unfold I64; omega
              have h3l := window8_short ⟨s, t, o⟩ (k : Int) x
              rw [HP3.out] at h3l
              have f3l : s3.length = s.length + 1 := (congrArg (fun v : Vw => v.sh.length) hwu).trans (win_length _ _ _ HKS.out)
              have h3k : k < n3 := by have e : s3.length = n3 := HA3.out.len; have f := HLN.out; omega
              have h3a : n3 ≤ 1048576 := by have e : s3.length = n3 := HA3.out.len; have g : s3.length ≤ 6 := h3l.1; omega
              have h3b : m3 ≤ 1048576 := by have e : t3.length = m3 := HB3.out.len; have g : t3.length ≤ 6 := h3l.2; omega
              have HJ := Lib.hid hJ
              clear hwu hru hx1 hx2 hdw f3l hgk hJ hsk h3l
              go_wp2_with fail
              go_loopw [16] (fun i wr => ∃ j : Nat, j ≤ J ∧ i = .int .i64 j ∧ Hid (w.grownBy wr none) ∧ Hid (Box wr w5.heap.size 29 #[.slice (some ⟨ab, af, none⟩) n c, .slice A' n' c', .int .i64 o]) ∧ Hid (Box wr w200.heap.size 29 #[.slice A3 n3 c3, .slice B3 m3 d3, .int .i64 o3]) ∧ Hid (NumsF wr A3 n3 c3 s3) ∧ Hid (NumsF wr B3 m3 d3 t3)) (fun i _ => J - (intOf i).toNat)
              case atStart => exact ⟨0, Nat.zero_le _, rfl, HG201, HBX, HX3, HA3, HB3⟩
              case round =>
                obtain ⟨j, hj, rfl, HG50, HBX, HX3, HA3, HB3⟩ := hrel
                obtain ⟨w50, rfl⟩ : ∃ w50, w50 = wr := ⟨_, rfl⟩
                obtain ⟨bb, bf, rfl, _, c3k⟩ := HA3.out.1.2.at_ h3k
                rw [← HJ.out] at c3k
                have y0 := HX3.out.get 0
                by_cases hlt : j < J
                · have g0 : decide ((j : Int) < (J : Int)) = true := decide_eq_true (by omega)
                  have hij : I64 (j : Int) := by unfold I64; omega
                  have HCD : Hid (∀ w', w50 = w' → Calls Try.prog 26 #[.agg #[.slice (some ⟨bb, bf, none⟩) n3 c3, .slice B3 m3 d3, .int .i64 o3], .int .i64 (k : Int), .int .i64 (j : Int)] w' (GaveVP (sliceV ⟨s, t, o⟩ (k : Int) (j : Int) x 1) w')) := Lib.hid fun w' e => by subst e; rw [← HDW.out j hlt]; exact HS.out.drop _ n3 c3 B3 m3 d3 ⟨s3, t3, o3⟩ (k : Int) (j : Int) w50 ⟨HA3.out, HB3.out, h3a, h3b⟩ ho3 hi hij
                  have HCS : Hid (∀ w', w.grownBy w' none → Calls Try.prog 20 #[.agg #[.slice (some ⟨ab, af, none⟩) n c, .slice A' n' c', .int .i64 o], .int .i64 (k : Int), .int .i64 (j : Int), .int .i64 x, .int .i64 1] w' (GaveVP (sliceV ⟨s, t, o⟩ (k : Int) (j : Int) x 1) w')) := Lib.hid fun w' hg => HS.out.slice _ n c A' n' c' ⟨s, t, o⟩ (k : Int) (j : Int) x 1 w' (HV.out w' hg) ho hi hij hx ⟨by decide, by decide⟩
                  obtain ⟨⟨⟨s4, t4, o4⟩, b4⟩, hp4⟩ : ∃ vp, vp = sliceV ⟨s, t, o⟩ (k : Int) (j : Int) x 1 := ⟨_, rfl⟩
                  have HP4 := Lib.hid hp4.symm
                  clear hp4
                  have hs4 := slice8_short ⟨s, t, o⟩ (k : Int) (j : Int) x 1
                  rw [HP4.out] at HCD HCS hs4
                  have HSH4 := Lib.hid hs4
                  clear hs4
                  go_upto_region 18 with fail
                  clear c3k y0 g0
                  have x0 := HX3.out.get 0
                  have x1 := HX3.out.get 1
                  have x2 := HX3.out.get 2
                  go_wp2_with fail
                  refine (HCD.out w50 rfl).mono ?_
                  rintro e w51 ⟨A4, n4, c4, B4, m4, d4, rfl, h, h', hg⟩
                  have HG51 := Lib.hid (grown_join HG50.out hg (.inr (by simp)))
                  have HA3 := Lib.hid (HA3.out.grow hg)
                  have HB3 := Lib.hid (HB3.out.grow hg)
                  have HBX := Lib.hid (HBX.out.grown hg (by simp))
                  have HX3 := Lib.hid (HX3.out.grown hg (by simp))
                  have HA4 := Lib.hid h
                  have HB4 := Lib.hid h'
                  clear hg h h' x0 x1 x2
                  go_upto_region 19 with fail
                  obtain ⟨w52, hw⟩ : ∃ w52, w52 = w51.alloc (.cells #[.slice A4 n4 c4, .slice B4 m4 d4, .int .i64 o4] 29) := ⟨_, rfl⟩
                  rw [← hw]
                  have HX4 : Hid (Box w52 w51.heap.size 29 #[.slice A4 n4 c4, .slice B4 m4 d4, .int .i64 o4]) := Lib.hid (by rw [hw]; exact Box.fresh w51 _ _)
                  have hg : w51.grownBy w52 none := by rw [hw]; exact World.grownBy_alloc w51 _ none
                  have HG52 := Lib.hid (grown_join HG51.out hg (.inr (by simp)))
                  have HA3 := Lib.hid (HA3.out.grow hg)
                  have HB3 := Lib.hid (HB3.out.grow hg)
                  have HA4 := Lib.hid (HA4.out.grow hg)
                  have HB4 := Lib.hid (HB4.out.grow hg)
                  have HBX := Lib.hid (HBX.out.grown hg (by simp))
                  have HX3 := Lib.hid (HX3.out.grown hg (by simp))
                  clear hw hg
                  have x0 := HBX.out.get 0
                  have x1 := HBX.out.get 1
                  have x2 := HBX.out.get 2
                  go_wp2_with fail
                  refine (HCS.out _ HG52.out).mono ?_
                  rintro e w53 ⟨A5, n5, c5, B5, m5, d5, rfl, h, h', hg⟩
                  have HG53 := Lib.hid (grown_join HG52.out hg (.inr (by simp)))
                  have HA3 := Lib.hid (HA3.out.grow hg)
                  have HB3 := Lib.hid (HB3.out.grow hg)
                  have HA4 := Lib.hid (HA4.out.grow hg)
                  have HB4 := Lib.hid (HB4.out.grow hg)
                  have HBX := Lib.hid (HBX.out.grown hg (by simp))
                  have HX3 := Lib.hid (HX3.out.grown hg (by simp))
                  have HX4 := Lib.hid (HX4.out.grown hg (by simp))
                  have HA5 := Lib.hid h
                  have HB5 := Lib.hid h'
                  clear hg h h' x0 x1 x2
                  go_upto_region 20 with fail
                  obtain ⟨w54, hw⟩ : ∃ w54, w54 = w53.alloc (.cells #[.slice A5 n5 c5, .slice B5 m5 d5, .int .i64 o4] 29) := ⟨_, rfl⟩
                  rw [← hw]
                  have HX5 : Hid (Box w54 w53.heap.size 29 #[.slice A5 n5 c5, .slice B5 m5 d5, .int .i64 o4]) := Lib.hid (by rw [hw]; exact Box.fresh w53 _ _)
                  have hg : w53.grownBy w54 none := by rw [hw]; exact World.grownBy_alloc w53 _ none
                  have HG54 := Lib.hid (grown_join HG53.out hg (.inr (by simp)))
                  have HA3 := Lib.hid (HA3.out.grow hg)
                  have HB3 := Lib.hid (HB3.out.grow hg)
                  have HA4 := Lib.hid (HA4.out.grow hg)
                  have HB4 := Lib.hid (HB4.out.grow hg)
                  have HA5 := Lib.hid (HA5.out.grow hg)
                  have HB5 := Lib.hid (HB5.out.grow hg)
                  have HBX := Lib.hid (HBX.out.grown hg (by simp))
                  have HX3 := Lib.hid (HX3.out.grown hg (by simp))
                  have HX4 := Lib.hid (HX4.out.grown hg (by simp))
                  clear hw hg
                  cases b4 with
                  | false =>
                    go_quiet (fail)
                    go_wp2_with fail
                    go_roundw
                    case rel => exact ⟨j + 1, by omega, by go_num, Lib.hid (grown_drewN HG54.out _), HBX, HX3, HA3, HB3⟩
                    case measure => simp [intOf]; omega
                  | true =>
                    have hrr := slice_right HP4.out
                    have hll : (offsL ⟨s4, t4, o4⟩).length ≤ 1048576 := offs_small hrr
                    have HO4 := Lib.hid (fun w' (hg : w54.grownBy w' none) => offsets8_any A4 B4 n4 c4 m4 d4 s4 t4 o4 w' (HA4.out.grow hg) (HB4.out.grow hg) (by have e : s4.length = n4 := HA4.out.len; have g : s4.length ≤ 6 := HSH4.out.1; omega) (by have e : t4.length = m4 := HB4.out.len; have g : t4.length ≤ 6 := HSH4.out.2; omega) hrr)
                    have HO5 := Lib.hid (fun w' (hg : w54.grownBy w' none) => offsets8_any A5 B5 n5 c5 m5 d5 s4 t4 o4 w' (HA5.out.grow hg) (HB5.out.grow hg) (by have e : s4.length = n5 := HA5.out.len; have g : s4.length ≤ 6 := HSH4.out.1; omega) (by have e : t4.length = m5 := HB5.out.len; have g : t4.length ≤ 6 := HSH4.out.2; omega) hrr)
                    generalize offsL ⟨s4, t4, o4⟩ = L at *
                    have HLL := Lib.hid hll
                    clear hrr hll
                    have HGC := Lib.hid (grown_refl w54 none)
                    have KEEP0 := Lib.hid (boxes8_2 HX4.out HX5.out)
                    have KEEPD := Lib.hid (boxes8_2 (box8_drew HX4.out) (box8_drew HX5.out))
                    go_region_held3 (fun w' => w'.cell? ⟨w51.heap.size, 0, none⟩ = some (.slice A4 n4 c4) ∧ w'.cell? ⟨w51.heap.size, 1, none⟩ = some (.slice B4 m4 d4) ∧ w'.cell? ⟨w51.heap.size, 2, none⟩ = some (.int .i64 o4) ∧ w'.cell? ⟨w53.heap.size, 0, none⟩ = some (.slice A5 n5 c5) ∧ w'.cell? ⟨w53.heap.size, 1, none⟩ = some (.slice B5 m5 d5) ∧ w'.cell? ⟨w53.heap.size, 2, none⟩ = some (.int .i64 o4)) (first | (with_reducible exact KEEP.out) | (with_reducible exact KEEPD.out) | (with_reducible exact KEEP0.out) | exact KEEP.out | exact KEEPD.out) (first
                      | (go_at_call 37; (with_reducible refine (HO4.out _ (grown_drew HGC.out)).mono ?_); rintro e w199 ⟨A71, c71, rfl, ho7, hg⟩; have HGC := Lib.hid (grown_join (grown_drew HGC.out) hg (.inr (by simp))); have HI71 := Lib.hid ho7.numsF; clear ho7 hg; have KEEP := Lib.hid (boxes8_2 (HX4.out.grown HGC.out (by simp)) (HX5.out.grown HGC.out (by simp))))
                      | (go_at_call 37; (with_reducible refine (HO5.out _ HGC.out).mono ?_); rintro e w199 ⟨A72, c72, rfl, ho7, hg⟩; have HGC := Lib.hid (grown_join HGC.out hg (.inr (by simp))); have HI71 := Lib.hid (HI71.out.grow hg); have HI72 := Lib.hid ho7.numsF; clear ho7 hg; have KEEP := Lib.hid (boxes8_2 (HX4.out.grown HGC.out (by simp)) (HX5.out.grown HGC.out (by simp))))
                      | (go_at_call 36; refine ((ints8_any _ _ _ _ _ _ _ _ _ _ _ HI71.out.1 HI72.out.1 HLL.out HLL.out).mono fun _ _ h => ToldV.tells h).mono ?_; rintro e w199 ⟨rfl, hg⟩; rw [decide_eq_true rfl]; have HGC := Lib.hid (grown_join HGC.out hg (.inr (by simp))); clear hg; have KEEP := Lib.hid (boxes8_2 (HX4.out.grown HGC.out (by simp)) (HX5.out.grown HGC.out (by simp))))
                      )
                    all_goals
                      have HGE := Lib.hid (grown_join HG54.out HGC.out (.inr (by simp)))
                      have HBX := Lib.hid (HBX.out.grown HGC.out (by simp))
                      have HX3 := Lib.hid (HX3.out.grown HGC.out (by simp))
                      have HA3 := Lib.hid (HA3.out.grow HGC.out)
                      have HB3 := Lib.hid (HB3.out.grow HGC.out)
                      go_wp2_with fail
                      go_roundw
                      case rel => exact ⟨j + 1, by omega, by go_num, HGE, HBX, HX3, HA3, HB3⟩
                      case measure => simp [intOf]; omega
                · have g0 : decide ((j : Int) < (J : Int)) = false := decide_eq_false (by omega)
                  go_wp2_with fail
                  go_ret
                  exact ⟨rfl, HG50.out⟩
end Go.Proofs.Ytkpfhjjojchdlaa
