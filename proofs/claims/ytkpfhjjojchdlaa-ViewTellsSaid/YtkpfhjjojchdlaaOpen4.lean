/-
  WHAT COMES IN of layer 4: slices of whole numbers.
-/
import Derived.Test.YtkpfhjjojchdlaaOpenList
import Derived.Test.YtkpfhjjojchdlaaRowI
namespace Go.Proofs.Ytkpfhjjojchdlaa
open Go.ChangeShapes Go.WideShapes Go.ChangeAt Go.RowKit Go.Deep
set_option linter.unusedVariables false
set_option maxRecDepth 100000

section
variable {H : Type} {enc : TypeId × Value → H} {W : World} {base : Nat}
theorem int_cells : Try.prog.cellsOf 3 = 1 := by kernel_rfl
theorem part_one {n : Nat} {cs : List Value} {y : DataW H × List MemPlace} {sp : Nat → Bool} (h : DataW.trod enc Try.prog W 0 sp true n 3 cs = some y) : ∃ z : Int, cs = [.int .i64 z] ∧ I64 z := by
  obtain ⟨z, e, _, hw⟩ := DataW.trod_int Try.underlying3 h
  have h1 : IntKind.i64.min = -9223372036854775808 := by decide
  exact ⟨z, by simpa using e, by simpa [Lit.wf, h1, I64] using hw⟩
theorem open_cap {t e : TypeId} {A : Option Addr} {n c : Nat} {d : DataW H} {p : List MemPlace} (ht : Try.prog.underlying t = some (.slice e)) (h : DataW.Trod enc Try.prog W 0 (fun _ => true) true t (.slice A n c) d p) : n ≤ c := by
  obtain ⟨fuel, hf⟩ := h
  rcases open_slice ht hf with ⟨hcs, _⟩ | ⟨a, len', cap', m, nf, D, Pl, hcs, _, hl, _⟩
  · simp [Value.cells] at hcs
    omega
  · simp [Value.cells] at hcs
    omega
theorem open_Nums {v : Value} {d : DataW H} {p : List MemPlace} (hv : Value.okWide Try.prog W .any base 22 v) (h : DataW.Trod enc Try.prog W 0 (fun _ => true) true 22 v d p) :
    ∃ A n c l, v = .slice A n c ∧ Nums W W.heap.size A n l ∧ n ≤ 9223372036854775807 ∧ n ≤ c := by
  obtain ⟨A, n, c, ds, rfl, hl, _, hA, hn, hc⟩ := open_list (0 : Int) (fun z => [.int .i64 z]) I64 ⟨by decide, by decide⟩ Try.underlying22 int_cells (by omega) (fun _ _ _ h => part_one h) hv h
  refine ⟨A, n, c, ds, rfl, ⟨hl, fun h0 => ?_⟩, hn, open_cap Try.underlying22 h⟩
  obtain ⟨b, off, e, hb, hcell⟩ := hc h0
  refine ⟨b, off, e, hb, fun k hk => ?_⟩
  have := hcell k hk 0 (by omega)
  simpa using this
end
end Go.Proofs.Ytkpfhjjojchdlaa
