/-
  Layer 7: the reference's Without, With.
-/
import Derived.Test.YtkpfhjjojchdlaaRef7b
import Derived.Test.YtkpfhjjojchdlaaNumsF
import Derived.Deep.RegionHeld3
namespace Go.Proofs.Ytkpfhjjojchdlaa
open Go.ChangeShapes Go.WideShapes Go.ChangeAt Go.RowKit
set_option linter.unusedVariables false
set_option maxRecDepth 100000

theorem new7a (w : World) (o : Obj) : (w.alloc o).drew.heap[w.heap.size]? = some o := heap_alloc_new w o
theorem new7b (w : World) (o o' : Obj) : ((w.alloc o).alloc o').drew.heap[w.heap.size]? = some o := (Below.heap_alloc _ o' _ (by simp)).trans (heap_alloc_new w o)
theorem new7c (w : World) (o o' : Obj) : ((w.alloc o').alloc o).drew.heap[w.heap.size + 1]? = some o := by
  have h := heap_alloc_new (w.alloc o') o
  rw [show (w.alloc o').heap.size = w.heap.size + 1 by simp] at h
  exact h
theorem one7 (w : World) (z : Int) : (w.alloc (.cells #[.int .i64 z] 3)).cell? ⟨w.heap.size, 0, none⟩ = some (.int .i64 z) := by
  rw [cell_of_row _ _ _ _ _ _ (heap_alloc_new w _)]; rfl
theorem one7a (w : World) (z : Int) : (w.alloc (.cells #[.int .i64 z] 3)).drew.cell? ⟨w.heap.size, 0, none⟩ = some (.int .i64 z) := one7 w z
theorem one7b (w : World) (z : Int) (o : Obj) : ((w.alloc (.cells #[.int .i64 z] 3)).alloc o).drew.cell? ⟨w.heap.size, 0, none⟩ = some (.int .i64 z) := by
  have h := new7b w (.cells #[.int .i64 z] 3) o
  rw [cell_of_row _ _ _ _ _ _ h]; rfl
theorem one7c (w : World) (z : Int) (o : Obj) : ((w.alloc o).alloc (.cells #[.int .i64 z] 3)).drew.cell? ⟨w.heap.size + 1, 0, none⟩ = some (.int .i64 z) := by
  have h := one7 (w.alloc o) z
  rw [show (w.alloc o).heap.size = w.heap.size + 1 by simp] at h
  exact h
set_option maxHeartbeats 4000000 in
theorem ref7Without_any (A : Option Addr) (n c : Nat) (s : List Int) (x : Int) (w : World) (h : Nums w w.heap.size A n s) (hn : n ≤ 1048576) (hc : Fits A n c) :
    Calls Try.prog 59 #[.slice A n c, .int .i64 x] w (GaveIntsB (withoutL s x) (withoutB s x) w) := by
  have HR := Lib.hid (ref7Right_any A n c _ s w h hn)
  have H := Lib.hid h
  have HL := Lib.hid h.1
  clear h
  have HWN := Lib.hid (show withoutB s x = false → withoutL s x = [] from fun hb => by unfold withoutL; rw [hb]; rfl)
  have HWB := Lib.hid (show ∀ b, rightS s = b → withoutB s x = (b && decide (0 ≤ x ∧ x < s.length)) from fun b hb => by unfold withoutB; rw [hb])
  cases hr : rightS s with
  | false =>
    rw [hr] at HR
    have HNB := Lib.hid (show withoutB s x = false by rw [HWB.out _ hr]; rfl)
    have HNL := Lib.hid (HWN.out HNB.out)
    clear hr
    go_enter Try.func59, Try.ntmps59
    go_wp2_with fail
    refine HR.out.mono ?_
    rintro e w1 ⟨rfl, rfl⟩
    go_wp2_with fail
    go_ret2
    exact gave_noneB HNL.out HNB.out (grown_refl _ _)
  | true =>
    rw [hr] at HR
    by_cases h0 : x < 0
    · have d0 : decide (x < 0) = true := decide_eq_true h0
      have HNB := Lib.hid (show withoutB s x = false by rw [HWB.out _ hr]; simp; omega)
      have HNL := Lib.hid (HWN.out HNB.out)
      clear hr
      go_enter Try.func59, Try.ntmps59
      go_wp2_with fail
      refine HR.out.mono ?_
      rintro e w1 ⟨rfl, rfl⟩
      go_wp2_with fail
      go_ret2
      exact gave_noneB HNL.out HNB.out (grown_refl _ _)
    · have d0 : decide (x < 0) = false := decide_eq_false h0
      obtain ⟨k, rfl⟩ : ∃ k : Nat, x = (k : Int) := ⟨x.toNat, by omega⟩
      by_cases h1 : n ≤ k
      · have d1 : decide ((n : Int) ≤ (k : Int)) = true := by simp only [decide_eq_true_eq]; omega
        have HNB := Lib.hid (show withoutB s (k : Int) = false by rw [HWB.out _ hr, HL.out]; simp; omega)
        have HNL := Lib.hid (HWN.out HNB.out)
        clear hr
        go_enter Try.func59, Try.ntmps59
        go_wp2_with fail
        refine HR.out.mono ?_
        rintro e w1 ⟨rfl, rfl⟩
        go_wp2_with fail
        go_ret2
        exact gave_noneB HNL.out HNB.out (grown_refl _ _)
      · have d1 : decide ((n : Int) ≤ (k : Int)) = false := by simp only [decide_eq_false_iff_not]; omega
        have d2 : decide (n ≤ k) = false := decide_eq_false h1
        have HYB := Lib.hid (show withoutB s (k : Int) = true by rw [HWB.out _ hr, HL.out]; simp; omega)
        have HYL := Lib.hid (show withoutL s (k : Int) = s.take k ++ s.drop (k + 1) by unfold withoutL; rw [if_pos HYB.out]; rfl)
        obtain ⟨A2, c2, hs2, hn2, he2⟩ := nums_head H.out hc.1 hc.2 (k := k) (by omega)
        obtain ⟨A3, c3, hs3, hn3, he3⟩ := nums_tail H.out hc.1 hc.2 (k := k + 1) (by omega)
        have HE2 := Lib.hid he2
        have HE3 := Lib.hid he3
        have HQS : Hid (∀ (w' : World), w.grownBy w' none → Nums w' w'.heap.size A2 k (s.take k) ∧ Nums w' w'.heap.size A3 (n - (k + 1)) (s.drop (k + 1))) := Lib.hid fun w' hg => ⟨hn2.grow hg, hn3.grow hg⟩
        have hs3 : ∀ w' : World, (Instr.slice 22 (.slice A n c) (some (.int .i64 ((k : Int) + 1))) none none).run Try.prog w' = .ok (.slice A3 (n - (k + 1)) c3) w' := hs3
        have s1 : IntKind.i64.wrap ((k : Int) + 1) = (k : Int) + 1 := IntWalk.i64_in _ (by omega)
        have s2 : wrap64 ((k : Int) + 1) = (k : Int) + 1 := IntWalk.wrap64_in _ (by omega)
        have hkn : k < n := by omega
        clear hr h0 h1 hn2 hn3 he2 he3
        go_enter Try.func59, Try.ntmps59
        go_wp2_with fail
        refine HR.out.mono ?_
        rintro e w1 ⟨rfl, rfl⟩
        go_wp2_with fail
        go_region_held3 (fun w' => True) (trivial) (first
          | (refine step_append_ints rfl (.tmp 19) (.tmp 22) rfl (by rfl) (by rfl) (base := w1.heap.size) (xs := []) (ints_empty (by first | exact new7a _ _ | exact new7b _ _ _ | exact new7c _ _ _) (by first | omega | (simp; done) | (simp; omega))) (HQS.out _ (by repeat (first | exact grown_refl _ _ | refine grown_drew ?_ | refine grown_alloc ?_ _))).1 HE2.out (by first | omega | (simp; done) | (simp; omega)) (by omega) ?_; intro B1 k1 w4 ho4 hg4; have hgc4 : Hid (w1.grownBy w4 none) := Lib.hid (grown_join (by repeat (first | exact grown_refl _ _ | refine grown_drew ?_ | refine grown_alloc ?_ _)) hg4.out (.inr fun b hb => by simp at hb; omega)); have hz4 := hgc4.out.size)
          | (refine step_append_ints rfl (.tmp 23) (.tmp 27) rfl (by rfl) (by rfl) (base := w1.heap.size) (xs := s.take k) (ints_as (by omega) (by simp) ho4.out) (HQS.out _ hgc4.out).2 HE3.out (by first | omega | (simp; done) | (simp; omega)) (by omega) ?_; intro B2 k2 w5 ho5 hg5; have hgc5 : Hid (w1.grownBy w5 none) := Lib.hid (grown_join hgc4.out hg5.out (.inr fun b hb => (ho4.out.2.lt b (by rw [map_own]; exact hb)).1))))
        all_goals
          go_wp2
          go_ret2
          exact gave_intsB HYL.out HYB.out (ints_as (by omega) rfl ho5.out) hgc5.out
end Go.Proofs.Ytkpfhjjojchdlaa
