/-
  Layer 7: what the walks ask of the program's own shape; the law package's ints, knows.
-/
import Derived.Test.YtkpfhjjojchdlaaRef7d
import Derived.Test.YtkpfhjjojchdlaaRef7w
namespace Go.Proofs.Ytkpfhjjojchdlaa
open Go.ChangeShapes Go.WideShapes Go.ChangeAt Go.RowKit
set_option linter.unusedVariables false
set_option maxRecDepth 100000

theorem ints_eq7 {l l' : List Int} (hl : l.length = l'.length) (h : ∀ i, i < l.length → l.getD i 0 = l'.getD i 0) : l = l' := by
  apply List.ext_getElem hl
  intro i h1 h2
  have := h i h1
  simpa [List.getD, h1, h2] using this
/-! ### what is asked of the program's own -/
theorem atL_short (s : List Int) (p : Int) : (atL s p).length ≤ s.length := by unfold atL; split <;> simp
theorem str_short (s : List Int) : (stridesL s).length ≤ s.length := by unfold stridesL; split <;> simp
theorem without_short (s : List Int) (x : Int) : (withoutL s x).length ≤ s.length := by
  unfold withoutL
  split
  · rw [List.length_append, List.length_take, List.length_drop]; omega
  · simp
theorem with_short (s : List Int) (x y : Int) : (withL s x y).length ≤ s.length + 1 := by
  unfold withL
  split
  · rw [List.length_append, List.length_append, List.length_take, List.length_drop, List.length_singleton]; omega
  · simp
theorem perm_short (s t : List Int) : (permL s t).length ≤ t.length := by unfold permL; split <;> simp
theorem join_short (s t : List Int) : (joinL s t).length ≤ s.length := by unfold joinL; split <;> simp

/-! ### knows -/
theorem lit_numsF (w : World) (zs : List Int) (hz : zs.length ≤ 1048576) : NumsF (w.alloc (.cells (intV zs).toArray 3)) (some ⟨w.heap.size, 0, none⟩) zs.length zs.length zs := by
  have ho : OwnI (w.alloc (.cells (intV zs).toArray 3)) 0 (some ⟨w.heap.size, 0, none⟩) zs.length zs.length zs :=
    ⟨rfl, by simp [intV], .inr ⟨w.heap.size, zs.length, (intV zs).toArray, rfl, Nat.zero_le _, heap_alloc_new w _, Nat.le_refl _, by unfold maxLen; omega, by simp [intV], by rw [Nat.mul_one]; exact List.take_of_length_le (by simp [intV])⟩⟩
  exact ho.numsF
theorem two_numsF (w : World) (x y : Int) : NumsF (w.alloc (.cells #[.int .i64 x, .int .i64 y] 3)) (some ⟨w.heap.size, 0, none⟩) 2 2 [x, y] := lit_numsF w [x, y] (by simp)
theorem kn7_place : placeV [2, 3] [1, 2] = 5 ∧ placeB [2, 3] [1, 2] = true := by decide +kernel
theorem kn7_size : sizeV [2, 3] 6 = 6 ∧ sizeB [2, 3] 6 = true := by decide +kernel
theorem kn7_str : stridesL [2, 3] = [3, 1] := by decide +kernel
end Go.Proofs.Ytkpfhjjojchdlaa
