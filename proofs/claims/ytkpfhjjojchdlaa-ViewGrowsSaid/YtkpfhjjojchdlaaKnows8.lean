/-
  Layer 8: the law package's knows.
-/
import Derived.Test.YtkpfhjjojchdlaaSays8
namespace Go.Proofs.Ytkpfhjjojchdlaa
open Go.ChangeShapes Go.WideShapes Go.ChangeAt Go.RowKit
set_option linter.unusedVariables false
set_option maxRecDepth 100000

theorem vw_eq {p : Vw × Bool} {s t : List Int} {o : Int} {b : Bool} (h : p.1.sh = s ∧ p.1.st = t ∧ p.1.off = o ∧ p.2 = b) : p = (⟨s, t, o⟩, b) := by
  obtain ⟨⟨a, b', c⟩, d⟩ := p
  obtain ⟨rfl, rfl, rfl, rfl⟩ := h
  rfl
theorem k8new : newV [2, 3] = (⟨[2, 3], [3, 1], 0⟩, true) := vw_eq (by decide)
theorem k8flip : flipV ⟨[2, 3], [3, 1], 0⟩ 1 = (⟨[2, 3], [3, -1], 2⟩, true) := vw_eq (by decide)
theorem k8off : offV ⟨[2, 3], [3, -1], 2⟩ [1, 0] = 5 ∧ offB ⟨[2, 3], [3, -1], 2⟩ [1, 0] = true := by decide
theorem k8dense : denseB ⟨[2, 3], [3, 1], 0⟩ = true ∧ denseB ⟨[2, 3], [3, -1], 2⟩ = false := by decide
theorem lit_numsF8 (w : World) (zs : List Int) (hz : zs.length ≤ 1048576) : NumsF (w.alloc (.cells (intV zs).toArray 3)) (some ⟨w.heap.size, 0, none⟩) zs.length zs.length zs := by
  have ho : OwnI (w.alloc (.cells (intV zs).toArray 3)) 0 (some ⟨w.heap.size, 0, none⟩) zs.length zs.length zs :=
    ⟨rfl, by simp [intV], .inr ⟨w.heap.size, zs.length, (intV zs).toArray, rfl, Nat.zero_le _, heap_alloc_new w _, Nat.le_refl _, by unfold maxLen; omega, by simp [intV], by rw [Nat.mul_one]; exact List.take_of_length_le (by simp [intV])⟩⟩
  exact ho.numsF
theorem two_numsF8 (w : World) (x y : Int) : NumsF (w.alloc (.cells #[.int .i64 x, .int .i64 y] 3)) (some ⟨w.heap.size, 0, none⟩) 2 2 [x, y] := lit_numsF8 w [x, y] (by simp)
set_option maxHeartbeats 2000000 in
theorem knows8_any (S : ViewSays) (w : World) : Calls Try.prog 8 #[] w (TellG (.bool true) w) := by
  have HS := Lib.hid S
  clear S
  obtain ⟨w1, hw1⟩ : ∃ w1, w1 = w.alloc (.cells #[.int .i64 2, .int .i64 3] 3) := ⟨_, rfl⟩
  have HN1 := Lib.hid (show NumsF w1 (some ⟨w.heap.size, 0, none⟩) 2 2 [2, 3] by rw [hw1]; exact two_numsF8 w 2 3)
  have HG1 := Lib.hid (show w.grownBy w1 none by rw [hw1]; exact World.grownBy_alloc _ _ _)
  have HW1 := Lib.hid hw1
  clear hw1
  go_enter Try.func8, Try.ntmps8
  go_wp2_with fail
  rw [← HW1.out]
  refine (HS.out.new _ 2 2 [2, 3] w1 HN1.out (by omega)).mono ?_
  rintro e w2 ⟨A, n, c, A', n', c', rfl, h, h', hg⟩
  rw [k8new] at h h' ⊢
  dsimp only at h h' ⊢
  obtain rfl : n = 2 := h.len.symm
  obtain rfl : n' = 2 := h'.len.symm
  have HV := Lib.hid (show ViewF w2 A 2 c A' 2 c' ⟨[2, 3], [3, 1], 0⟩ from ⟨h, h', by omega, by omega⟩)
  have HG2 := Lib.hid (grown_join HG1.out hg (.inr (by simp)))
  clear h h' hg
  go_upto_region 2 with fail
  obtain ⟨w3, hw3⟩ : ∃ w3, w3 = w2.alloc (.cells #[.slice A 2 c, .slice A' 2 c', .int .i64 0] 29) := ⟨_, rfl⟩
  rw [← hw3]
  have HX3 : Hid (Box w3 w2.heap.size 29 #[.slice A 2 c, .slice A' 2 c', .int .i64 0]) := Lib.hid (by rw [hw3]; exact Box.fresh w2 _ _)
  have HG23 : Hid (w2.grownBy w3 none) := Lib.hid (by rw [hw3]; exact World.grownBy_alloc w2 _ none)
  have HG3 := Lib.hid (grown_join HG2.out HG23.out (.inr (by simp)))
  have HV3 := Lib.hid (HV.out.grow HG23.out)
  clear hw3
  have x0 := HX3.out.get 0
  have x1 := HX3.out.get 1
  have x2 := HX3.out.get 2
  go_wp2_with fail
  refine (HS.out.flip _ _ _ _ _ _ ⟨[2, 3], [3, 1], 0⟩ 1 w3 HV3.out ⟨by decide, by decide⟩ ⟨by decide, by decide⟩).mono ?_
  rintro e w4 ⟨B, n, d, B', n', d', rfl, h, h', hg⟩
  rw [k8flip] at h h' ⊢
  dsimp only at h h' ⊢
  obtain rfl : n = 2 := h.len.symm
  obtain rfl : n' = 2 := h'.len.symm
  have HU := Lib.hid (show ViewF w4 B 2 d B' 2 d' ⟨[2, 3], [3, -1], 2⟩ from ⟨h, h', by omega, by omega⟩)
  have HG4 := Lib.hid (grown_join HG3.out hg (.inr (by simp)))
  have HX4 := Lib.hid (HX3.out.grown hg (by simp))
  have HV4 := Lib.hid (HV3.out.grow hg)
  clear h h' hg x0 x1 x2
  go_upto_region 3 with fail
  obtain ⟨w5, hw5⟩ : ∃ w5, w5 = w4.alloc (.cells #[.slice B 2 d, .slice B' 2 d', .int .i64 2] 29) := ⟨_, rfl⟩
  rw [← hw5]
  have HY5 : Hid (Box w5 w4.heap.size 29 #[.slice B 2 d, .slice B' 2 d', .int .i64 2]) := Lib.hid (by rw [hw5]; exact Box.fresh w4 _ _)
  have HG45 : Hid (w4.grownBy w5 none) := Lib.hid (by rw [hw5]; exact World.grownBy_alloc w4 _ none)
  have HG5 := Lib.hid (grown_join HG4.out HG45.out (.inr (by simp)))
  have HX5 := Lib.hid (HX4.out.grown HG45.out (by simp))
  have HV5 := Lib.hid (HV4.out.grow HG45.out)
  have HU5 := Lib.hid (HU.out.grow HG45.out)
  clear hw5
  obtain ⟨w6, hw6⟩ : ∃ w6, w6 = w5.alloc (.cells #[.int .i64 1, .int .i64 0] 3) := ⟨_, rfl⟩
  have HN6 := Lib.hid (show NumsF w6 (some ⟨w5.heap.size, 0, none⟩) 2 2 [1, 0] by rw [hw6]; exact two_numsF8 w5 1 0)
  have HG56 : Hid (w5.grownBy w6 none) := Lib.hid (by rw [hw6]; exact World.grownBy_alloc w5 _ none)
  have HW6 := Lib.hid hw6
  clear hw6
  have y0 := HY5.out.get 0
  have y1 := HY5.out.get 1
  have y2 := HY5.out.get 2
  go_wp2_with fail
  rw [← HW6.out]
  refine (HS.out.offset _ _ _ _ _ _ ⟨[2, 3], [3, -1], 2⟩ _ _ _ [1, 0] w6 (HU5.out.grow HG56.out) ⟨by decide, by decide⟩ HN6.out (by omega)).mono ?_
  rintro e w7 ⟨rfl, hg⟩
  rw [k8off.1, k8off.2]
  have hg57 := grown_join HG56.out hg (.inr (by simp))
  have HG7 := Lib.hid (grown_join HG5.out hg57 (.inr (by simp)))
  have HX7 := Lib.hid (HX5.out.grown hg57 (by simp))
  have HY7 := Lib.hid (HY5.out.grown hg57 (by simp))
  have HV7 := Lib.hid (HV5.out.grow hg57)
  have HU7 := Lib.hid (HU5.out.grow hg57)
  clear hg hg57 y0 y1 y2
  obtain ⟨w8, hw8⟩ : ∃ w8, w8 = w7.alloc (.cells #[.int .i64 3, .int .i64 (-1)] 3) := ⟨_, rfl⟩
  have HN8 := Lib.hid (show NumsF w8 (some ⟨w7.heap.size, 0, none⟩) 2 2 [3, -1] by rw [hw8]; exact two_numsF8 w7 3 (-1))
  have HG78 : Hid (w7.grownBy w8 none) := Lib.hid (by rw [hw8]; exact World.grownBy_alloc w7 _ none)
  have HW8 := Lib.hid hw8
  have HG8 := Lib.hid (grown_join HG7.out HG78.out (.inr (by simp)))
  have HX8 := Lib.hid (HX7.out.grown HG78.out (by simp))
  have HY8 := Lib.hid (HY7.out.grown HG78.out (by simp))
  have HV8 := Lib.hid (HV7.out.grow HG78.out)
  have HU8 := Lib.hid (HU7.out.grow HG78.out)
  clear hw8
  have y1 := HY7.out.get 1
  go_wp2_with fail
  rw [← HW8.out]
  refine (ints8_any B' _ 2 2 d' 2 [3, -1] [3, -1] _ _ w8 HU8.out.2.1.1 HN8.out.1 (by omega) (by omega)).mono ?_
  rintro e w9 ⟨rfl, m, rfl⟩
  rw [decide_eq_true rfl]
  obtain ⟨w9, hw9⟩ : ∃ w9, w9 = w8.drewN m := ⟨_, rfl⟩
  rw [← hw9]
  have hg89 : w8.grownBy w9 none := by rw [hw9]; exact grown_drewN (grown_refl _ _) m
  have HG9 := Lib.hid (grown_join HG8.out hg89 (.inr (by simp)))
  have HX9 := Lib.hid (HX8.out.grown hg89 (by simp))
  have HY9 := Lib.hid (HY8.out.grown hg89 (by simp))
  have HV9 := Lib.hid (HV8.out.grow hg89)
  have HU9 := Lib.hid (HU8.out.grow hg89)
  clear hw9 hg89 y1
  have x0 := HX9.out.get 0
  have x1 := HX9.out.get 1
  have x2 := HX9.out.get 2
  have y2 := HY9.out.get 2
  go_wp2_with fail
  refine (HS.out.dense _ _ _ _ _ _ ⟨[2, 3], [3, 1], 0⟩ w9 HV9.out ⟨by decide, by decide⟩).mono ?_
  rintro e wA ⟨rfl, hg⟩
  rw [k8dense.1]
  have HGA := Lib.hid (grown_join HG9.out hg (.inr (by simp)))
  have HYA := Lib.hid (HY9.out.grown hg (by simp))
  have HUA := Lib.hid (HU9.out.grow hg)
  clear hg x0 x1 x2 y2
  have y0 := HYA.out.get 0
  have y1 := HYA.out.get 1
  have y2 := HYA.out.get 2
  go_wp2_with fail
  refine (HS.out.dense _ _ _ _ _ _ ⟨[2, 3], [3, -1], 2⟩ wA HUA.out ⟨by decide, by decide⟩).mono ?_
  rintro e wB ⟨rfl, hg⟩
  rw [k8dense.2]
  have HGB := Lib.hid (grown_join HGA.out hg (.inr (by simp)))
  clear hg y0 y1 y2
  go_wp2_with fail
  go_ret
  exact ⟨rfl, HGB.out⟩
end Go.Proofs.Ytkpfhjjojchdlaa
