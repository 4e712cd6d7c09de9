/-
  THE LIBRARY'S TABLE AS IT IS LAID: what the condition gives the walks; a start that meets it.
-/
import Derived.Test.YtfnnnbpceeeecaaDoorNext
import Derived.Test.YtfnnnbpceeeecaaDoorFrameX
import Derived.Test.YtfnnnbpceeeecaaDoorOpen
namespace Go.Proofs.YtfnnnbpceeeecaaDoor
open Go.ChangeShapes Go.WideShapes Go.ChangeAt Go.RowKit
set_option linter.unusedVariables false

def laidList : List (String × DataW Unit) := [("math/bits.deBruijn64tab", Rows.laid_math_bits_deBruijn64tab)]
theorem table_global : Tryd.prog.globalNamed "math/bits.deBruijn64tab" = some 0 := by kernel_rfl
theorem table_type : (Tryd.prog.globals[0]?).map (·.type) = some 65 := by kernel_rfl
theorem table_cell : Tryd.prog.cellsOf 5 = 1 := by kernel_rfl
theorem table_list : (Rows.laid_math_bits_deBruijn64tab : DataW Unit) = .agg (Lib.deBruijn64tab.map fun (n : Nat) => .lit (.int .u8 (n : Int))) := rfl
theorem tab_of_laid {W : World} (h : laidMetH Tryd.prog laidList W) : Tab W := by
  have h' : laidMet Tryd.prog laidList W := h
  obtain ⟨ps, ⟨g, t, cs, fuel, p, q, hg, ht, hvar, hd, _, _⟩, _⟩ := h'
  obtain rfl := Option.some.inj (table_global.symm.trans hg)
  obtain rfl := Option.some.inj (table_type.symm.trans ht)
  rw [table_list] at hd
  obtain ⟨xs, m, _, hx, hlen, hxl, hf⟩ := DataW.trod_array Tryd.underlying65 hd
  simp only [Prod.mk.injEq, DataW.agg.injEq] at hx
  have hmap := hx.1
  intro j hj
  rw [World.var?_cell hg hvar j]
  have hfj := hf j hj
  rw [table_cell, Nat.mul_one] at hfj
  have hcl : j < cs.toList.length := by
    have := congrArg List.length hmap
    have hc64 : Tryd.prog.cellsOf 65 = 64 := by kernel_rfl
    omega
  have hone : (cs.toList.drop j).take 1 = [cs.toList[j]] := by
    rw [List.drop_eq_getElem_cons hcl]
    rfl
  rw [hone, List.getElem?_eq_getElem (by omega)] at hfj
  obtain ⟨n, e1, e2, _⟩ := DataW.trod_int Tryd.underlying5 hfj
  have e3 : (Lib.deBruijn64tab.map fun (n : Nat) => (DataW.lit (.int .u8 (n : Int)) : DataW Unit))[j]? = some (.lit (.int .u8 n)) := by
    rw [hmap, List.getElem?_map, List.getElem?_eq_getElem (by omega), e2]
    rfl
  have hj2 : j < Lib.deBruijn64tab.length := hj
  have e4 : (n : Int) = ((Lib.deBruijn64tab.getD j 0 : Nat) : Int) := by
    rw [List.getElem?_map, List.getElem?_eq_getElem hj2] at e3
    simp only [Option.map_some, Option.some.injEq, DataW.lit.injEq, Lit.int.injEq] at e3
    rw [← e3.2]
    simp only [List.getD, List.getElem?_eq_getElem hj2]
    rfl
  have e5 : cs.toList[j] = .int .u8 n := by simpa using e1
  have hcs : j < cs.size := by simpa using hcl
  rw [Array.getElem?_eq_getElem hcs, ← e4]
  congr 1
theorem door_met (os : Os) (args : Array Value) : laidMetH Tryd.prog laidList ((World.doorLaid Tryd.prog 600 os).forCall (fun _ _ => 0) ⟨#[], args, []⟩).memory :=
  laidMetH_of_parts3 (fuel := 8) (laidMet_of_run' 8 (by kernel_rfl) (by kernel_rfl)) (by kernel_rfl) (by kernel_rfl)
end Go.Proofs.YtfnnnbpceeeecaaDoor
