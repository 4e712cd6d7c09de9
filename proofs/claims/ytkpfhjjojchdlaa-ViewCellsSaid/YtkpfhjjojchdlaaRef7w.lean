/-
  Layer 7: the reference's With.
-/
import Derived.Test.YtkpfhjjojchdlaaRef7c
import Derived.Deep.AppendLies
namespace Go.Proofs.Ytkpfhjjojchdlaa
open Go.ChangeShapes Go.WideShapes Go.ChangeAt Go.RowKit
set_option linter.unusedVariables false
set_option maxRecDepth 100000

set_option maxHeartbeats 4000000 in
theorem ref7With_any (A : Option Addr) (n c : Nat) (s : List Int) (x y : Int) (w : World) (h : Nums w w.heap.size A n s) (hn : n ≤ 1048576) (hc : Fits A n c) :
    Calls Try.prog 61 #[.slice A n c, .int .i64 x, .int .i64 y] w (GaveIntsB (withL s x y) (withB s x y) w) := by
  have HR := Lib.hid (ref7Right_any A n c _ s w h hn)
  have H := Lib.hid h
  have HL := Lib.hid h.1
  clear h
  have HWN := Lib.hid (show withB s x y = false → withL s x y = [] from fun hb => by unfold withL; rw [hb]; rfl)
  have HWB := Lib.hid (show ∀ b, rightS s = b → withB s x y = (b && decide (0 ≤ x ∧ x ≤ s.length ∧ 0 ≤ y ∧ y ≤ 1048576 ∧ s.length < 6)) from fun b hb => by unfold withB; rw [hb])
  cases hr : rightS s with
  | false =>
    rw [hr] at HR
    have HNB := Lib.hid (show withB s x y = false by rw [HWB.out _ hr]; rfl)
    have HNL := Lib.hid (HWN.out HNB.out)
    clear hr
    go_enter Try.func61, Try.ntmps61
    go_wp2_with fail
    refine HR.out.mono ?_
    rintro e w1 ⟨rfl, rfl⟩
    go_wp2_with fail
    go_ret2
    exact gave_noneB HNL.out HNB.out (grown_refl _ _)
  | true =>
    rw [hr] at HR
    by_cases hall : 0 ≤ x ∧ x ≤ n ∧ 0 ≤ y ∧ y ≤ 1048576 ∧ n < 6
    · obtain ⟨h0, h1, h2, h3, h4⟩ := hall
      obtain ⟨k, rfl⟩ : ∃ k : Nat, x = (k : Int) := ⟨x.toNat, by omega⟩
      have HYB := Lib.hid (show withB s (k : Int) y = true by rw [HWB.out _ hr, HL.out]; simp; omega)
      have HYL := Lib.hid (show withL s (k : Int) y = s.take k ++ [y] ++ s.drop k by unfold withL; rw [if_pos HYB.out]; rfl)
      have hkn : k ≤ n := by omega
      obtain ⟨A2, c2, hs2, hn2, he2⟩ := nums_head H.out hc.1 hc.2 (k := k) hkn
      obtain ⟨A3, c3, hs3, hn3, he3⟩ := nums_tail H.out hc.1 hc.2 (k := k) hkn
      have HE2 := Lib.hid he2
      have HE3 := Lib.hid he3
      have HQS : Hid (∀ (w' : World), w.grownBy w' none → Nums w' w'.heap.size A2 k (s.take k) ∧ Nums w' w'.heap.size A3 (n - k) (s.drop k)) := Lib.hid fun w' hg => ⟨hn2.grow hg, hn3.grow hg⟩
      have d0 : decide ((k : Int) < 0) = false := decide_eq_false (by omega)
      have d1 : decide ((n : Int) < (k : Int)) = false := decide_eq_false (by omega)
      have d2 : decide (n < k) = false := decide_eq_false (by omega)
      have d3 : decide (y < 0) = false := decide_eq_false (by omega)
      have d4 : decide ((1048576 : Int) < y) = false := decide_eq_false (by omega)
      have d5 : decide ((6 : Int) ≤ (n : Int)) = false := decide_eq_false (by omega)
      have d6 : decide (6 ≤ n) = false := decide_eq_false (by omega)
      clear hr h0 h1 hn2 hn3 he2 he3
      go_enter Try.func61, Try.ntmps61
      go_wp2_with fail
      refine HR.out.mono ?_
      rintro e w1 ⟨rfl, rfl⟩
      go_wp2_with fail
      go_region_held3 (fun w' => True) (trivial) (first
        | (refine step_append_ints rfl (.tmp 41) (.tmp 44) rfl (by rfl) (by rfl) (base := w1.heap.size) (xs := s.take k ++ [y]) ho5.out (HQS.out _ hgc5.out).2 HE3.out (by first | omega | (simp; done) | (simp; omega)) (by omega) ?_; intro B3 k3 w6 ho6 hg6; have hgc6 : Hid (w1.grownBy w6 none) := Lib.hid (grown_join hgc5.out hg6.out (.inr fun b hb => (ho5.out.2.lt b (by rw [map_own]; exact hb)).1)))
        | (refine step_append_ints rfl (.tmp 38) (.tmp 40) rfl (by rfl) (by rfl) (base := w1.heap.size) (xs := s.take k) (ys := [y]) (OwnI.grow (ints_as (by omega) (by simp) ho4.out) (by repeat (first | exact grown_refl _ _ | refine grown_drew ?_ | refine grown_alloc ?_ _))) (ints_one (by first | exact one7 _ _ | exact (hg4.out.cell_far ⟨_, 0, none⟩ (by simp <;> omega) (by simp)).trans (by first | exact one7a _ _ | exact one7b _ _ _ | exact one7c _ _ _))) (fun e => by cases e) (by first | omega | (simp; done) | (simp; omega)) (by omega) ?_; intro B2 k2 w5 ho5 hg5; have hgc5 : Hid (w1.grownBy w5 none) := Lib.hid (grown_join (by repeat (first | exact hgc4.out | refine grown_drew ?_ | refine grown_alloc ?_ _)) hg5.out (.inr fun b hb => (ho4.out.2.lt b (by rw [map_own]; exact hb)).1)); have hz5 := hgc5.out.size)
        | (refine step_append_ints rfl (.tmp 34) (.tmp 37) rfl (by rfl) (by rfl) (base := w1.heap.size) (xs := []) (ints_empty (by first | exact new7a _ _ | exact new7b _ _ _ | exact new7c _ _ _) (by first | omega | (simp; done) | (simp; omega))) (HQS.out _ (by repeat (first | exact grown_refl _ _ | refine grown_drew ?_ | refine grown_alloc ?_ _))).1 HE2.out (by first | omega | (simp; done) | (simp; omega)) (by omega) ?_; intro B1 k1 w4 ho4 hg4; have hgc4 : Hid (w1.grownBy w4 none) := Lib.hid (grown_join (by repeat (first | exact grown_refl _ _ | refine grown_drew ?_ | refine grown_alloc ?_ _)) hg4.out (.inr fun b hb => by simp at hb; omega)); have hz4 := hgc4.out.size))
      all_goals
        go_wp2
        go_ret2
        exact gave_intsB HYL.out HYB.out (ints_as (by omega) rfl ho6.out) hgc6.out
    · have HNB := Lib.hid (show withB s x y = false by rw [HWB.out _ hr, HL.out]; simp only [Bool.true_and, decide_eq_false_iff_not]; omega)
      have HNL := Lib.hid (HWN.out HNB.out)
      clear hr
      by_cases h0 : x < 0
      · have d0 : decide (x < 0) = true := decide_eq_true h0
        go_enter Try.func61, Try.ntmps61
        go_wp2_with fail
        refine HR.out.mono ?_
        rintro e w1 ⟨rfl, rfl⟩
        go_wp2_with fail
        go_ret2
        exact gave_noneB HNL.out HNB.out (grown_refl _ _)
      · have d0 : decide (x < 0) = false := decide_eq_false h0
        by_cases h1 : (n : Int) < x
        · have d1 : decide ((n : Int) < x) = true := decide_eq_true h1
          go_enter Try.func61, Try.ntmps61
          go_wp2_with fail
          refine HR.out.mono ?_
          rintro e w1 ⟨rfl, rfl⟩
          go_wp2_with fail
          go_ret2
          exact gave_noneB HNL.out HNB.out (grown_refl _ _)
        · have d1 : decide ((n : Int) < x) = false := decide_eq_false h1
          by_cases h2 : y < 0
          · have d2 : decide (y < 0) = true := decide_eq_true h2
            go_enter Try.func61, Try.ntmps61
            go_wp2_with fail
            refine HR.out.mono ?_
            rintro e w1 ⟨rfl, rfl⟩
            go_wp2_with fail
            go_ret2
            exact gave_noneB HNL.out HNB.out (grown_refl _ _)
          · have d2 : decide (y < 0) = false := decide_eq_false h2
            by_cases h3 : 1048576 < y
            · have d3 : decide ((1048576 : Int) < y) = true := decide_eq_true h3
              go_enter Try.func61, Try.ntmps61
              go_wp2_with fail
              refine HR.out.mono ?_
              rintro e w1 ⟨rfl, rfl⟩
              go_wp2_with fail
              go_ret2
              exact gave_noneB HNL.out HNB.out (grown_refl _ _)
            · have d3 : decide ((1048576 : Int) < y) = false := decide_eq_false h3
              have d4 : decide ((6 : Int) ≤ (n : Int)) = true := decide_eq_true (by omega)
              have d5 : decide (6 ≤ n) = true := decide_eq_true (by omega)
              go_enter Try.func61, Try.ntmps61
              go_wp2_with fail
              refine HR.out.mono ?_
              rintro e w1 ⟨rfl, rfl⟩
              go_wp2_with fail
              go_ret2
              exact gave_noneB HNL.out HNB.out (grown_refl _ _)
end Go.Proofs.Ytkpfhjjojchdlaa
