/-
  Layer 8: the reference's Slice (printed by wip/tools/mkslice8.py out of XRef8e and tail8.py).
-/
import Derived.Test.YtkpfhjjojchdlaaRef8e
namespace Go.Proofs.Ytkpfhjjojchdlaa
open Go.ChangeShapes Go.WideShapes Go.ChangeAt Go.RowKit
set_option linter.unusedVariables false
set_option maxRecDepth 100000

theorem times_in2 {a z : Int} (h1 : -1048576 ≤ a) (h2 : a ≤ 1048576) (h3 : -1048576 ≤ z) (h4 : z ≤ 1048576) : -1099511627776 ≤ a * z ∧ a * z ≤ 1099511627776 := by
  by_cases h : 0 ≤ a
  · exact times_in h h2 h3 h4
  · have := times_in (a := -a) (z := z) (by omega) (by omega) h3 h4
    rw [Int.neg_mul] at this
    omega
set_option maxHeartbeats 8000000 in
theorem ref8Slice_any (A A' : Option Addr) (n c n' c' : Nat) (s t : List Int) (o i f N p : Int) (w : World) (h : NumsF w A n c s) (h' : NumsF w A' n' c' t) (hn : n ≤ 1048576) (hn' : n' ≤ 1048576) :
    Calls Try.prog 21 #[.agg #[.slice A n c, .slice A' n' c', .int .i64 o], .int .i64 i, .int .i64 f, .int .i64 N, .int .i64 p] w (GaveVP (sliceV ⟨s, t, o⟩ i f N p) w) := by
  have HA := Lib.hid (fun w' (hg : w.grownBy w' none) => ref8axis_any A A' n c n' c' s t o i w' (h.grow hg) (h'.grow hg) hn hn')
  have H := Lib.hid h
  have H' := Lib.hid h'
  obtain ⟨w1, hw1⟩ : ∃ w1, w1 = (w.alloc (.cells #[.slice A n c, .slice A' n' c', .int .i64 o] 24)).alloc (.cells #[.slice none 0 0, .slice none 0 0, .int .i64 0] 24) := ⟨_, rfl⟩
  have hb := boxes8 w 24 #[.slice A n c, .slice A' n' c', .int .i64 o] #[.slice none 0 0, .slice none 0 0, .int .i64 0]
  rw [← hw1] at hb
  obtain ⟨hx, hy, hg1⟩ := hb
  have HX := Lib.hid hx
  have HY := Lib.hid hy
  have HG1 := Lib.hid hg1
  have HW1 := Lib.hid hw1
  have HFL := Lib.hid (show ∀ b, axisB ⟨s, t, o⟩ i = b → sliceV ⟨s, t, o⟩ i f N p = if (b && decide (0 ≤ N ∧ N ≤ 1048576) && (decide (N = 0) || decide (0 ≤ f ∧ f < s.getD i.toNat 0 ∧ -1048576 ≤ p ∧ p ≤ 1048576 ∧ 0 ≤ f + (N - 1) * p ∧ f + (N - 1) * p < s.getD i.toNat 0)) && decide (-1048576 ≤ p ∧ p ≤ 1048576 ∧ -1048576 ≤ p * t.getD i.toNat 0 ∧ p * t.getD i.toNat 0 ≤ 1048576)) = true then fineV (setV ⟨s, t, o⟩ i.toNat N (p * t.getD i.toNat 0) (if N = 0 then o else o + f * t.getD i.toNat 0)) else (zeroV, false) from fun b hb => by unfold sliceV sliceB; rw [hb])
  clear h h' hw1 hx hy hg1
  cases hr : axisB ⟨s, t, o⟩ i with
  | false =>
    rw [hr] at HA
    have HF := Lib.hid (show sliceV ⟨s, t, o⟩ i f N p = (zeroV, false) by rw [HFL.out _ hr]; rfl)
    clear hr
    go_enter Try.func21, Try.ntmps21
    go_upto_region 1 with fail
    rw [← HW1.out]
    have x0 := HX.out.get 0
    have x1 := HX.out.get 1
    have x2 := HX.out.get 2
    go_wp2_with fail
    refine (HA.out _ HG1.out).mono ?_
    rintro e w2 ⟨rfl, hg⟩
    have HG2 := Lib.hid (grown_join HG1.out hg (.inr (by simp)))
    obtain ⟨q0, q1, q2, f0, f1, f2, d0, d1, d2⟩ := (HY.out.grown hg (by simp)).three8 (.slice none 0 0) (.slice none 0 0) (.int .i64 0)
    clear x0 x1 x2 hg
    go_wp2_with fail
    exact bodyPost_ret (v := .tuple #[.agg #[.slice none 0 0, .slice none 0 0, .int .i64 0], .bool false]) (by simp [results, Try.results21, go_sem, d0, d1, d2]) rfl (gaveVP_no HF.out (grown_three HG2.out (by omega) _ _ _))
  | true =>
    rw [hr] at HA
    have HAX := Lib.hid (axis_all hr)
    obtain ⟨k, rfl⟩ : ∃ k : Nat, i = k := ⟨i.toNat, by have := HAX.out.2; omega⟩
    have hkn : k < n := by have := HAX.out.2.2; rw [show (⟨s, t, o⟩ : Vw).sh.length = n from H.out.len] at this; omega
    have hkn' : k < n' := by rw [← H'.out.len, (rightV_all HAX.out.1).2.1, show (⟨s, t, o⟩ : Vw).sh.length = n from H.out.len]; exact hkn
    have HF : Hid (∀ b1 b2 b3, decide (0 ≤ N ∧ N ≤ 1048576) = b1 → (decide (N = 0) || decide (0 ≤ f ∧ f < s.getD k 0 ∧ -1048576 ≤ p ∧ p ≤ 1048576 ∧ 0 ≤ f + (N - 1) * p ∧ f + (N - 1) * p < s.getD k 0)) = b2 → decide (-1048576 ≤ p ∧ p ≤ 1048576 ∧ -1048576 ≤ p * t.getD k 0 ∧ p * t.getD k 0 ≤ 1048576) = b3 → sliceV ⟨s, t, o⟩ (k : Int) f N p = if (b1 && b2 && b3) = true then fineV (setV ⟨s, t, o⟩ k N (p * t.getD k 0) (if N = 0 then o else o + f * t.getD k 0)) else (zeroV, false)) := Lib.hid fun b1 b2 b3 h1 h2 h3 => by rw [HFL.out _ hr, ← h1, ← h2, ← h3]; rfl
    have HO := Lib.hid (show 0 ≤ o ∧ o ≤ 16777216 from ⟨(rightV_all HAX.out.1).2.2.1, (rightV_all HAX.out.1).2.2.2.1⟩)
    have HLN := Lib.hid (show 0 ≤ s.getD k 0 ∧ s.getD k 0 ≤ 1048576 from rightV_len HAX.out.1 (i := k) (by show k < s.length; rw [H.out.len]; exact hkn))
    have HST := Lib.hid (show -1048576 ≤ t.getD k 0 ∧ t.getD k 0 ≤ 1048576 from rightV_str HAX.out.1 (i := k) (by show k < s.length; rw [H.out.len]; exact hkn))
    clear hr
    go_enter Try.func21, Try.ntmps21
    go_upto_region 1 with fail
    rw [← HW1.out]
    have x0 := HX.out.get 0
    have x1 := HX.out.get 1
    have x2 := HX.out.get 2
    go_wp2_with fail
    refine (HA.out _ HG1.out).mono ?_
    rintro e w2 ⟨rfl, hg⟩
    have HG2 := Lib.hid (grown_join HG1.out hg (.inr (by simp)))
    have HX2 := Lib.hid (HX.out.grown hg (by simp))
    have HY2 := Lib.hid (HY.out.grown hg (by simp))
    clear x0 x1 x2 hg
    have x0 := HX2.out.get 0
    have x1 := HX2.out.get 1
    have x2 := HX2.out.get 2
    obtain ⟨b, off, rfl, _, hc⟩ := (H.out.grow HG2.out).1.2.at_ hkn
    obtain ⟨b', off', rfl, _, hc'⟩ := (H'.out.grow HG2.out).1.2.at_ hkn'
    generalize hu : s.getD k 0 = uu at *
    generalize hz : t.getD k 0 = zz at *
    have HU := Lib.hid hu
    have HZZ := Lib.hid hz
    clear hu hz
    by_cases hA : N < 0
    · have thA : decide (N < 0) = true := decide_eq_true hA
      have HX0 := Lib.hid (show sliceV ⟨s, t, o⟩ (k : Int) f N p = (zeroV, false) by rw [HF.out false _ _ (decide_eq_false (by omega)) rfl rfl]; simp)
      obtain ⟨q0, q1, q2, g0, g1, g2, p0, p1, p2⟩ := HY2.out.three8 (.slice none 0 0) (.slice none 0 0) (.int .i64 0)
      go_wp2_with fail
      exact bodyPost_ret (v := .tuple #[.agg #[.slice none 0 0, .slice none 0 0, .int .i64 0], .bool false]) (by simp [results, Try.results21, go_sem, p0, p1, p2]) rfl (gaveVP_no HX0.out (grown_three HG2.out (by omega) _ _ _))
    · have thA : decide (N < 0) = false := decide_eq_false hA
      by_cases hB : 1048576 < N
      · have thB : decide (1048576 < N) = true := decide_eq_true hB
        have HX0 := Lib.hid (show sliceV ⟨s, t, o⟩ (k : Int) f N p = (zeroV, false) by rw [HF.out false _ _ (decide_eq_false (by omega)) rfl rfl]; simp)
        obtain ⟨q0, q1, q2, g0, g1, g2, p0, p1, p2⟩ := HY2.out.three8 (.slice none 0 0) (.slice none 0 0) (.int .i64 0)
        go_wp2_with fail
        exact bodyPost_ret (v := .tuple #[.agg #[.slice none 0 0, .slice none 0 0, .int .i64 0], .bool false]) (by simp [results, Try.results21, go_sem, p0, p1, p2]) rfl (gaveVP_no HX0.out (grown_three HG2.out (by omega) _ _ _))
      · have thB : decide (1048576 < N) = false := decide_eq_false hB
        have hst := HST.out
        have hoo := HO.out
        have hlu := HLN.out
        by_cases hC : 0 < N
        · have tC : decide (0 < N) = true := decide_eq_true hC
          by_cases hD : f < 0
          · have thD : decide (f < 0) = true := decide_eq_true hD
            have HX0 := Lib.hid (show sliceV ⟨s, t, o⟩ (k : Int) f N p = (zeroV, false) by rw [HF.out _ false _ rfl (by rw [decide_eq_false (show ¬ N = 0 by omega), decide_eq_false (by omega)]; rfl) rfl]; simp)
            obtain ⟨q0, q1, q2, g0, g1, g2, p0, p1, p2⟩ := HY2.out.three8 (.slice none 0 0) (.slice none 0 0) (.int .i64 0)
            go_wp2_with fail
            exact bodyPost_ret (v := .tuple #[.agg #[.slice none 0 0, .slice none 0 0, .int .i64 0], .bool false]) (by simp [results, Try.results21, go_sem, p0, p1, p2]) rfl (gaveVP_no HX0.out (grown_three HG2.out (by omega) _ _ _))
          · have thD : decide (f < 0) = false := decide_eq_false hD
            by_cases hE : uu ≤ f
            · have thE : decide (uu ≤ f) = true := decide_eq_true hE
              have HX0 := Lib.hid (show sliceV ⟨s, t, o⟩ (k : Int) f N p = (zeroV, false) by rw [HF.out _ false _ rfl (by rw [decide_eq_false (show ¬ N = 0 by omega), decide_eq_false (by omega)]; rfl) rfl]; simp)
              obtain ⟨q0, q1, q2, g0, g1, g2, p0, p1, p2⟩ := HY2.out.three8 (.slice none 0 0) (.slice none 0 0) (.int .i64 0)
              go_wp2_with fail
              exact bodyPost_ret (v := .tuple #[.agg #[.slice none 0 0, .slice none 0 0, .int .i64 0], .bool false]) (by simp [results, Try.results21, go_sem, p0, p1, p2]) rfl (gaveVP_no HX0.out (grown_three HG2.out (by omega) _ _ _))
            · have thE : decide (uu ≤ f) = false := decide_eq_false hE
              by_cases hF : p < -1048576
              · have thF : decide (p < -1048576) = true := decide_eq_true hF
                have HX0 := Lib.hid (show sliceV ⟨s, t, o⟩ (k : Int) f N p = (zeroV, false) by rw [HF.out _ false _ rfl (by rw [decide_eq_false (show ¬ N = 0 by omega), decide_eq_false (by omega)]; rfl) rfl]; simp)
                obtain ⟨q0, q1, q2, g0, g1, g2, p0, p1, p2⟩ := HY2.out.three8 (.slice none 0 0) (.slice none 0 0) (.int .i64 0)
                go_wp2_with fail
                exact bodyPost_ret (v := .tuple #[.agg #[.slice none 0 0, .slice none 0 0, .int .i64 0], .bool false]) (by simp [results, Try.results21, go_sem, p0, p1, p2]) rfl (gaveVP_no HX0.out (grown_three HG2.out (by omega) _ _ _))
              · have thF : decide (p < -1048576) = false := decide_eq_false hF
                by_cases hG : 1048576 < p
                · have thG : decide (1048576 < p) = true := decide_eq_true hG
                  have HX0 := Lib.hid (show sliceV ⟨s, t, o⟩ (k : Int) f N p = (zeroV, false) by rw [HF.out _ false _ rfl (by rw [decide_eq_false (show ¬ N = 0 by omega), decide_eq_false (by omega)]; rfl) rfl]; simp)
                  obtain ⟨q0, q1, q2, g0, g1, g2, p0, p1, p2⟩ := HY2.out.three8 (.slice none 0 0) (.slice none 0 0) (.int .i64 0)
                  go_wp2_with fail
                  exact bodyPost_ret (v := .tuple #[.agg #[.slice none 0 0, .slice none 0 0, .int .i64 0], .bool false]) (by simp [results, Try.results21, go_sem, p0, p1, p2]) rfl (gaveVP_no HX0.out (grown_three HG2.out (by omega) _ _ _))
                · have thG : decide (1048576 < p) = false := decide_eq_false hG
                  have hm1 := times_in (a := N - 1) (z := p) (by omega) (by omega) (by omega) (by omega)
                  have hm2 := times_in (a := f) (z := zz) (by omega) (by omega) hst.1 hst.2
                  have hm3 := times_in2 (a := p) (z := zz) (by omega) (by omega) hst.1 hst.2
                  have ua : IntKind.i64.wrap (N - 1) = N - 1 := IntWalk.i64_in _ (by omega)
                  have va : wrap64 (N - 1) = N - 1 := IntWalk.wrap64_in _ (by omega)
                  have ub : IntKind.i64.wrap ((N - 1) * p) = (N - 1) * p := IntWalk.i64_in _ (by omega)
                  have vb : wrap64 ((N - 1) * p) = (N - 1) * p := IntWalk.wrap64_in _ (by omega)
                  have uc : IntKind.i64.wrap (f + (N - 1) * p) = f + (N - 1) * p := IntWalk.i64_in _ (by omega)
                  have vc : wrap64 (f + (N - 1) * p) = f + (N - 1) * p := IntWalk.wrap64_in _ (by omega)
                  have ud : IntKind.i64.wrap (f * zz) = f * zz := IntWalk.i64_in _ (by omega)
                  have vd : wrap64 (f * zz) = f * zz := IntWalk.wrap64_in _ (by omega)
                  have ue : IntKind.i64.wrap (o + f * zz) = o + f * zz := IntWalk.i64_in _ (by omega)
                  have ve : wrap64 (o + f * zz) = o + f * zz := IntWalk.wrap64_in _ (by omega)
                  have uf : IntKind.i64.wrap (p * zz) = p * zz := IntWalk.i64_in _ (by omega)
                  have vf : wrap64 (p * zz) = p * zz := IntWalk.wrap64_in _ (by omega)
                  by_cases hK : f + (N - 1) * p < 0
                  · have thK : decide (f + (N - 1) * p < 0) = true := decide_eq_true hK
                    have HX0 := Lib.hid (show sliceV ⟨s, t, o⟩ (k : Int) f N p = (zeroV, false) by rw [HF.out _ false _ rfl (by rw [decide_eq_false (show ¬ N = 0 by omega), decide_eq_false (by omega)]; rfl) rfl]; simp)
                    obtain ⟨q0, q1, q2, g0, g1, g2, p0, p1, p2⟩ := HY2.out.three8 (.slice none 0 0) (.slice none 0 0) (.int .i64 0)
                    go_wp2_with fail
                    exact bodyPost_ret (v := .tuple #[.agg #[.slice none 0 0, .slice none 0 0, .int .i64 0], .bool false]) (by simp [results, Try.results21, go_sem, p0, p1, p2]) rfl (gaveVP_no HX0.out (grown_three HG2.out (by omega) _ _ _))
                  · have thK : decide (f + (N - 1) * p < 0) = false := decide_eq_false hK
                    by_cases hL : uu ≤ f + (N - 1) * p
                    · have thL : decide (uu ≤ f + (N - 1) * p) = true := decide_eq_true hL
                      have HX0 := Lib.hid (show sliceV ⟨s, t, o⟩ (k : Int) f N p = (zeroV, false) by rw [HF.out _ false _ rfl (by rw [decide_eq_false (show ¬ N = 0 by omega), decide_eq_false (by omega)]; rfl) rfl]; simp)
                      obtain ⟨q0, q1, q2, g0, g1, g2, p0, p1, p2⟩ := HY2.out.three8 (.slice none 0 0) (.slice none 0 0) (.int .i64 0)
                      go_wp2_with fail
                      exact bodyPost_ret (v := .tuple #[.agg #[.slice none 0 0, .slice none 0 0, .int .i64 0], .bool false]) (by simp [results, Try.results21, go_sem, p0, p1, p2]) rfl (gaveVP_no HX0.out (grown_three HG2.out (by omega) _ _ _))
                    · have thL : decide (uu ≤ f + (N - 1) * p) = false := decide_eq_false hL
                      by_cases hI : p * zz < -1048576
                      · have thI : decide (p * zz < -1048576) = true := decide_eq_true hI
                        have HX0 := Lib.hid (show sliceV ⟨s, t, o⟩ (k : Int) f N p = (zeroV, false) by rw [HF.out _ _ false rfl rfl (decide_eq_false (by omega))]; simp)
                        obtain ⟨q0, q1, q2, g0, g1, g2, p0, p1, p2⟩ := HY2.out.three8 (.slice none 0 0) (.slice none 0 0) (.int .i64 0)
                        go_wp2_with fail
                        exact bodyPost_ret (v := .tuple #[.agg #[.slice none 0 0, .slice none 0 0, .int .i64 0], .bool false]) (by simp [results, Try.results21, go_sem, p0, p1, p2]) rfl (gaveVP_no HX0.out (grown_three HG2.out (by omega) _ _ _))
                      · have thI : decide (p * zz < -1048576) = false := decide_eq_false hI
                        by_cases hJ : 1048576 < p * zz
                        · have thJ : decide (1048576 < p * zz) = true := decide_eq_true hJ
                          have HX0 := Lib.hid (show sliceV ⟨s, t, o⟩ (k : Int) f N p = (zeroV, false) by rw [HF.out _ _ false rfl rfl (decide_eq_false (by omega))]; simp)
                          obtain ⟨q0, q1, q2, g0, g1, g2, p0, p1, p2⟩ := HY2.out.three8 (.slice none 0 0) (.slice none 0 0) (.int .i64 0)
                          go_wp2_with fail
                          exact bodyPost_ret (v := .tuple #[.agg #[.slice none 0 0, .slice none 0 0, .int .i64 0], .bool false]) (by simp [results, Try.results21, go_sem, p0, p1, p2]) rfl (gaveVP_no HX0.out (grown_three HG2.out (by omega) _ _ _))
                        · have thJ : decide (1048576 < p * zz) = false := decide_eq_false hJ
                          have HFX := Lib.hid (show sliceV ⟨s, t, o⟩ (k : Int) f N p = fineV (setV ⟨s, t, o⟩ k N (p * zz) (o + f * zz)) by rw [HF.out true true true (decide_eq_true (by omega)) (by rw [decide_eq_true (show 0 ≤ f ∧ f < uu ∧ -1048576 ≤ p ∧ p ≤ 1048576 ∧ 0 ≤ f + (N - 1) * p ∧ f + (N - 1) * p < uu from by omega), Bool.or_true]) (decide_eq_true (by omega))]; show fineV (setV _ k N (p * zz) (if N = 0 then o else o + f * zz)) = _; rw [if_neg (show ¬ N = 0 by omega)])
                          go_wp2_with fail
                          clear x0 x1 x2 hc hc'
                          obtain ⟨rb, hrb⟩ : ∃ rb, rightV ⟨s.set k (N), t.set k (p * zz), o + f * zz⟩ = rb := ⟨_, rfl⟩
                          have HFN : Hid (∀ A3 n3 c3 A4 n4 c4 w', NumsF w' A3 n3 c3 (s.set k (N)) → NumsF w' A4 n4 c4 (t.set k (p * zz)) → n3 ≤ 1048576 → n4 ≤ 1048576 → Calls Try.prog 42 #[.agg #[.slice A3 n3 c3, .slice A4 n4 c4, .int .i64 (o + f * zz)]] w' (TellG (.tuple #[.agg #[.slice (fineA rb A3) (fineN rb n3) (fineN rb c3), .slice (fineA rb A4) (fineN rb n4) (fineN rb c4), .int .i64 (fineI rb (o + f * zz))], .bool rb]) w')) := Lib.hid fun A3 n3 c3 A4 n4 c4 w' h3 h4 hn3 hn4 => by rw [← hrb]; exact ref8fine_any A3 A4 n3 c3 n4 c4 _ _ _ w' h3 h4 hn3 hn4
                          have HWT := Lib.hid (fun w' (hg : w.grownBy w' none) => ref8with_any (some ⟨b, off, none⟩) (some ⟨b', off', none⟩) n c n' c' s t o (N) (p * zz) (o + f * zz) k w' (H.out.grow hg) (H'.out.grow hg) hn hn' hkn hkn')
                          have HRB := Lib.hid hrb
                          have hsz : w.heap.size + 1 < w2.heap.size := HY2.out.small
                          have hln : s.length ≤ 1048576 ∧ t.length ≤ 1048576 := ⟨by rw [H.out.len]; exact hn, by rw [H'.out.len]; exact hn'⟩
                          have HC0 := Lib.hid (cells8 HX2.out (H.out.grow HG2.out) (H'.out.grow HG2.out) hkn hkn' HU.out HZZ.out)
                          clear hrb
                          obtain ⟨y0, y1, y2, y3, y4⟩ := HC0.out
                          go_region_held3 (fun w' => w'.cell? ⟨w.heap.size, 0, none⟩ = some (.slice (some ⟨b, off, none⟩) n c) ∧ w'.cell? ⟨w.heap.size, 1, none⟩ = some (.slice (some ⟨b', off', none⟩) n' c') ∧ w'.cell? ⟨w.heap.size, 2, none⟩ = some (.int .i64 o) ∧ w'.cell? ⟨b, off + k, none⟩ = some (.int .i64 uu) ∧ w'.cell? ⟨b', off' + k, none⟩ = some (.int .i64 zz)) (first | exact KEEP3.out | exact KEEP2.out | exact KEEP.out | go_keep) (first
                            | (go_at_call 42; refine (HFN.out A3 n3 c3 A4 n4 c4 _ H3.out.numsF H4.out.numsF HN3.out HN4.out).mono ?_; rintro e w4 ⟨rfl, hg4⟩; have HG4 := Lib.hid (grown_join HG3.out hg4 (.inr (by simp))); have HX4 := Lib.hid (HX3.out.grown hg4 (by simp)); have HY4 := HY3.out.grown hg4 (by simp); have KEEP2 := Lib.hid (cells8 HX4.out (H.out.grow HG4.out) (H'.out.grow HG4.out) hkn hkn' HU.out HZZ.out); have HG5 := Lib.hid (grown_three HG4.out (b := w.heap.size + 1) (by omega) (.slice (fineA rb A3) (fineN rb n3) (fineN rb c3)) (.slice (fineA rb A4) (fineN rb n4) (fineN rb c4)) (.int .i64 (fineI rb (o + f * zz)))); have KEEP3 := Lib.hid (cells8 (box_three HX4.out (g := w.heap.size + 1) (by omega) (.slice (fineA rb A3) (fineN rb n3) (fineN rb c3)) (.slice (fineA rb A4) (fineN rb n4) (fineN rb c4)) (.int .i64 (fineI rb (o + f * zz)))) (H.out.grow HG5.out) (H'.out.grow HG5.out) hkn hkn' HU.out HZZ.out); obtain ⟨p0, p1, p2, f0, f1, f2, d0, d1, d2⟩ := HY4.three8 (.slice (fineA rb A3) (fineN rb n3) (fineN rb c3)) (.slice (fineA rb A4) (fineN rb n4) (fineN rb c4)) (.int .i64 (fineI rb (o + f * zz))); have HFIN := Lib.hid (fine_gave HRB.out (own_three (H3.out.grow hg4) HSZ.out (.slice (fineA rb A3) (fineN rb n3) (fineN rb c3)) (.slice (fineA rb A4) (fineN rb n4) (fineN rb c4)) (.int .i64 (fineI rb (o + f * zz)))).numsF (own_three (H4.out.grow hg4) HSZ.out (.slice (fineA rb A3) (fineN rb n3) (fineN rb c3)) (.slice (fineA rb A4) (fineN rb n4) (fineN rb c4)) (.int .i64 (fineI rb (o + f * zz)))).numsF HG5.out); clear hg4 HY4)
                            | (go_at_call 55; refine (HWT.out _ (grown_drewN HG2.out _)).mono ?_; rintro e w3 ⟨A3, n3, c3, A4, n4, c4, rfl, h3, h4, hg3⟩; have HG3 := Lib.hid (grown_join (grown_drewN HG2.out _) hg3 (.inr (by simp))); have HX3 := Lib.hid ((HX2.out.drewN _).grown hg3 (by simp)); have HY3 := Lib.hid ((HY2.out.drewN _).grown hg3 (by simp)); have HN3 := Lib.hid (show n3 ≤ 1048576 by have h := h3.1; simp [setV] at h; omega); have HN4 := Lib.hid (show n4 ≤ 1048576 by have h := h4.1; simp [setV] at h; omega); have H3 : Hid (OwnI w3 w2.heap.size A3 n3 c3 (s.set k (N))) := Lib.hid h3; have H4 : Hid (OwnI w3 w2.heap.size A4 n4 c4 (t.set k (p * zz))) := Lib.hid h4; have HSZ := Lib.hid hsz; have KEEP := Lib.hid (cells8 HX3.out (H.out.grow HG3.out) (H'.out.grow HG3.out) hkn hkn' HU.out HZZ.out); clear h3 h4 hg3))
                          all_goals
                            go_wp2_with fail
                            exact bodyPost_ret (v := .tuple #[.agg #[.slice (fineA rb A3) (fineN rb n3) (fineN rb c3), .slice (fineA rb A4) (fineN rb n4) (fineN rb c4), .int .i64 (fineI rb (o + f * zz))], .bool rb]) (by simp [results, Try.results21, go_sem, d0, d1, d2]) rfl (by rw [HFX.out]; exact HFIN.out)
        · have tC : decide (0 < N) = false := decide_eq_false hC
          have HN0 := Lib.hid (show N = 0 by omega)
          by_cases hF : p < -1048576
          · have thF : decide (p < -1048576) = true := decide_eq_true hF
            have HX0 := Lib.hid (show sliceV ⟨s, t, o⟩ (k : Int) f N p = (zeroV, false) by rw [HF.out _ _ false rfl rfl (decide_eq_false (by omega))]; simp)
            obtain ⟨q0, q1, q2, g0, g1, g2, p0, p1, p2⟩ := HY2.out.three8 (.slice none 0 0) (.slice none 0 0) (.int .i64 0)
            go_wp2_with fail
            exact bodyPost_ret (v := .tuple #[.agg #[.slice none 0 0, .slice none 0 0, .int .i64 0], .bool false]) (by simp [results, Try.results21, go_sem, p0, p1, p2]) rfl (gaveVP_no HX0.out (grown_three HG2.out (by omega) _ _ _))
          · have thF : decide (p < -1048576) = false := decide_eq_false hF
            by_cases hG : 1048576 < p
            · have thG : decide (1048576 < p) = true := decide_eq_true hG
              have HX0 := Lib.hid (show sliceV ⟨s, t, o⟩ (k : Int) f N p = (zeroV, false) by rw [HF.out _ _ false rfl rfl (decide_eq_false (by omega))]; simp)
              obtain ⟨q0, q1, q2, g0, g1, g2, p0, p1, p2⟩ := HY2.out.three8 (.slice none 0 0) (.slice none 0 0) (.int .i64 0)
              go_wp2_with fail
              exact bodyPost_ret (v := .tuple #[.agg #[.slice none 0 0, .slice none 0 0, .int .i64 0], .bool false]) (by simp [results, Try.results21, go_sem, p0, p1, p2]) rfl (gaveVP_no HX0.out (grown_three HG2.out (by omega) _ _ _))
            · have thG : decide (1048576 < p) = false := decide_eq_false hG
              have hm3 := times_in2 (a := p) (z := zz) (by omega) (by omega) hst.1 hst.2
              have uf : IntKind.i64.wrap (p * zz) = p * zz := IntWalk.i64_in _ (by omega)
              have vf : wrap64 (p * zz) = p * zz := IntWalk.wrap64_in _ (by omega)
              by_cases hI : p * zz < -1048576
              · have thI : decide (p * zz < -1048576) = true := decide_eq_true hI
                have HX0 := Lib.hid (show sliceV ⟨s, t, o⟩ (k : Int) f N p = (zeroV, false) by rw [HF.out _ _ false rfl rfl (decide_eq_false (by omega))]; simp)
                obtain ⟨q0, q1, q2, g0, g1, g2, p0, p1, p2⟩ := HY2.out.three8 (.slice none 0 0) (.slice none 0 0) (.int .i64 0)
                go_wp2_with fail
                exact bodyPost_ret (v := .tuple #[.agg #[.slice none 0 0, .slice none 0 0, .int .i64 0], .bool false]) (by simp [results, Try.results21, go_sem, p0, p1, p2]) rfl (gaveVP_no HX0.out (grown_three HG2.out (by omega) _ _ _))
              · have thI : decide (p * zz < -1048576) = false := decide_eq_false hI
                by_cases hJ : 1048576 < p * zz
                · have thJ : decide (1048576 < p * zz) = true := decide_eq_true hJ
                  have HX0 := Lib.hid (show sliceV ⟨s, t, o⟩ (k : Int) f N p = (zeroV, false) by rw [HF.out _ _ false rfl rfl (decide_eq_false (by omega))]; simp)
                  obtain ⟨q0, q1, q2, g0, g1, g2, p0, p1, p2⟩ := HY2.out.three8 (.slice none 0 0) (.slice none 0 0) (.int .i64 0)
                  go_wp2_with fail
                  exact bodyPost_ret (v := .tuple #[.agg #[.slice none 0 0, .slice none 0 0, .int .i64 0], .bool false]) (by simp [results, Try.results21, go_sem, p0, p1, p2]) rfl (gaveVP_no HX0.out (grown_three HG2.out (by omega) _ _ _))
                · have thJ : decide (1048576 < p * zz) = false := decide_eq_false hJ
                  have HFX := Lib.hid (show sliceV ⟨s, t, o⟩ (k : Int) f N p = fineV (setV ⟨s, t, o⟩ k N (p * zz) (o)) by rw [HF.out true true true (decide_eq_true (by omega)) (by rw [decide_eq_true HN0.out]; rfl) (decide_eq_true (by omega))]; show fineV (setV _ k N (p * zz) (if N = 0 then o else o + f * zz)) = _; rw [if_pos HN0.out])
                  go_wp2_with fail
                  clear x0 x1 x2 hc hc'
                  obtain ⟨rb, hrb⟩ : ∃ rb, rightV ⟨s.set k (N), t.set k (p * zz), o⟩ = rb := ⟨_, rfl⟩
                  have HFN : Hid (∀ A3 n3 c3 A4 n4 c4 w', NumsF w' A3 n3 c3 (s.set k (N)) → NumsF w' A4 n4 c4 (t.set k (p * zz)) → n3 ≤ 1048576 → n4 ≤ 1048576 → Calls Try.prog 42 #[.agg #[.slice A3 n3 c3, .slice A4 n4 c4, .int .i64 (o)]] w' (TellG (.tuple #[.agg #[.slice (fineA rb A3) (fineN rb n3) (fineN rb c3), .slice (fineA rb A4) (fineN rb n4) (fineN rb c4), .int .i64 (fineI rb (o))], .bool rb]) w')) := Lib.hid fun A3 n3 c3 A4 n4 c4 w' h3 h4 hn3 hn4 => by rw [← hrb]; exact ref8fine_any A3 A4 n3 c3 n4 c4 _ _ _ w' h3 h4 hn3 hn4
                  have HWT := Lib.hid (fun w' (hg : w.grownBy w' none) => ref8with_any (some ⟨b, off, none⟩) (some ⟨b', off', none⟩) n c n' c' s t o (N) (p * zz) (o) k w' (H.out.grow hg) (H'.out.grow hg) hn hn' hkn hkn')
                  have HRB := Lib.hid hrb
                  have hsz : w.heap.size + 1 < w2.heap.size := HY2.out.small
                  have hln : s.length ≤ 1048576 ∧ t.length ≤ 1048576 := ⟨by rw [H.out.len]; exact hn, by rw [H'.out.len]; exact hn'⟩
                  have HC0 := Lib.hid (cells8 HX2.out (H.out.grow HG2.out) (H'.out.grow HG2.out) hkn hkn' HU.out HZZ.out)
                  clear hrb
                  obtain ⟨y0, y1, y2, y3, y4⟩ := HC0.out
                  go_region_held3 (fun w' => w'.cell? ⟨w.heap.size, 0, none⟩ = some (.slice (some ⟨b, off, none⟩) n c) ∧ w'.cell? ⟨w.heap.size, 1, none⟩ = some (.slice (some ⟨b', off', none⟩) n' c') ∧ w'.cell? ⟨w.heap.size, 2, none⟩ = some (.int .i64 o) ∧ w'.cell? ⟨b, off + k, none⟩ = some (.int .i64 uu) ∧ w'.cell? ⟨b', off' + k, none⟩ = some (.int .i64 zz)) (first | exact KEEP3.out | exact KEEP2.out | exact KEEP.out | go_keep) (first
                    | (go_at_call 42; refine (HFN.out A3 n3 c3 A4 n4 c4 _ H3.out.numsF H4.out.numsF HN3.out HN4.out).mono ?_; rintro e w4 ⟨rfl, hg4⟩; have HG4 := Lib.hid (grown_join HG3.out hg4 (.inr (by simp))); have HX4 := Lib.hid (HX3.out.grown hg4 (by simp)); have HY4 := HY3.out.grown hg4 (by simp); have KEEP2 := Lib.hid (cells8 HX4.out (H.out.grow HG4.out) (H'.out.grow HG4.out) hkn hkn' HU.out HZZ.out); have HG5 := Lib.hid (grown_three HG4.out (b := w.heap.size + 1) (by omega) (.slice (fineA rb A3) (fineN rb n3) (fineN rb c3)) (.slice (fineA rb A4) (fineN rb n4) (fineN rb c4)) (.int .i64 (fineI rb (o)))); have KEEP3 := Lib.hid (cells8 (box_three HX4.out (g := w.heap.size + 1) (by omega) (.slice (fineA rb A3) (fineN rb n3) (fineN rb c3)) (.slice (fineA rb A4) (fineN rb n4) (fineN rb c4)) (.int .i64 (fineI rb (o)))) (H.out.grow HG5.out) (H'.out.grow HG5.out) hkn hkn' HU.out HZZ.out); obtain ⟨p0, p1, p2, f0, f1, f2, d0, d1, d2⟩ := HY4.three8 (.slice (fineA rb A3) (fineN rb n3) (fineN rb c3)) (.slice (fineA rb A4) (fineN rb n4) (fineN rb c4)) (.int .i64 (fineI rb (o))); have HFIN := Lib.hid (fine_gave HRB.out (own_three (H3.out.grow hg4) HSZ.out (.slice (fineA rb A3) (fineN rb n3) (fineN rb c3)) (.slice (fineA rb A4) (fineN rb n4) (fineN rb c4)) (.int .i64 (fineI rb (o)))).numsF (own_three (H4.out.grow hg4) HSZ.out (.slice (fineA rb A3) (fineN rb n3) (fineN rb c3)) (.slice (fineA rb A4) (fineN rb n4) (fineN rb c4)) (.int .i64 (fineI rb (o)))).numsF HG5.out); clear hg4 HY4)
                    | (go_at_call 55; refine (HWT.out _ (grown_drewN HG2.out _)).mono ?_; rintro e w3 ⟨A3, n3, c3, A4, n4, c4, rfl, h3, h4, hg3⟩; have HG3 := Lib.hid (grown_join (grown_drewN HG2.out _) hg3 (.inr (by simp))); have HX3 := Lib.hid ((HX2.out.drewN _).grown hg3 (by simp)); have HY3 := Lib.hid ((HY2.out.drewN _).grown hg3 (by simp)); have HN3 := Lib.hid (show n3 ≤ 1048576 by have h := h3.1; simp [setV] at h; omega); have HN4 := Lib.hid (show n4 ≤ 1048576 by have h := h4.1; simp [setV] at h; omega); have H3 : Hid (OwnI w3 w2.heap.size A3 n3 c3 (s.set k (N))) := Lib.hid h3; have H4 : Hid (OwnI w3 w2.heap.size A4 n4 c4 (t.set k (p * zz))) := Lib.hid h4; have HSZ := Lib.hid hsz; have KEEP := Lib.hid (cells8 HX3.out (H.out.grow HG3.out) (H'.out.grow HG3.out) hkn hkn' HU.out HZZ.out); clear h3 h4 hg3))
                  all_goals
                    go_wp2_with fail
                    exact bodyPost_ret (v := .tuple #[.agg #[.slice (fineA rb A3) (fineN rb n3) (fineN rb c3), .slice (fineA rb A4) (fineN rb n4) (fineN rb c4), .int .i64 (fineI rb (o))], .bool rb]) (by simp [results, Try.results21, go_sem, d0, d1, d2]) rfl (by rw [HFX.out]; exact HFIN.out)
end Go.Proofs.Ytkpfhjjojchdlaa
