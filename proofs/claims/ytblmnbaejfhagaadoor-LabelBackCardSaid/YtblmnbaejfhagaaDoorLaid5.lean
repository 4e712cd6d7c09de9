/-
  THE LIBRARY'S VARIABLES AS THE ROW LISTS THEM: what the condition gives the walks; a start that meets it.
-/
import Derived.Test.YtblmnbaejfhagaaDoorAll5
import Derived.Test.YtblmnbaejfhagaaDoorFrameX
import Derived.Stop.LaidErr
import Derived.Lay
import Derived.MakeChecks
namespace Go.Proofs.YtblmnbaejfhagaaDoor
open Go.ChangeShapes Go.WideShapes Go.ChangeAt Go.RowKit
set_option linter.unusedVariables false

def laid5 : List (String × DataW Unit) := [("math/bits.deBruijn32tab", Rows.laid_math_bits_deBruijn32tab), ("math/bits.deBruijn64tab", Rows.laid_math_bits_deBruijn64tab), ("internal/strconv.uint64pow10", Rows.laid_internal_strconv_uint64pow10), ("unicode/utf8.acceptRanges", Rows.laid_unicode_utf8_acceptRanges), ("strconv.ErrRange", Rows.laid_strconv_ErrRange), ("strconv.ErrSyntax", Rows.laid_strconv_ErrSyntax), ("unicode/utf8.first", Rows.laid_unicode_utf8_first)]
theorem laid5_plain (W : World) : laidMetH Tryd.prog laid5 W = laidMet Tryd.prog laid5 W := MakeChecks.laidMetH_plain _ _ _ (by kernel_rfl)
theorem pow_global : Tryd.prog.globalNamed "internal/strconv.uint64pow10" = some 1 := by kernel_rfl
theorem pow_type : (Tryd.prog.globals[1]?).map (·.type) = some 106 := by kernel_rfl
theorem pow_list : (Rows.laid_internal_strconv_uint64pow10 : DataW Unit) = Lib.tabData .u64 Lib.pow10Tab := rfl
theorem range_global : Tryd.prog.globalNamed "strconv.ErrRange" = some 3 := by kernel_rfl
theorem range_type : (Tryd.prog.globals[3]?).map (·.type) = some 62 := by kernel_rfl
theorem wrong_global : Tryd.prog.globalNamed "strconv.ErrSyntax" = some 2 := by kernel_rfl
theorem wrong_type : (Tryd.prog.globals[2]?).map (·.type) = some 62 := by kernel_rfl
theorem star_name : "*" ++ "errors.errorString" = "*errors.errorString" := by decide
theorem star_row (u : TypeId) (h : Tryd.prog.typeName? 3 u = some "*errors.errorString") : u = 124 :=
  typeName_ptr_named (nm := "errors.errorString") (by rw [star_name]; kernel_rfl) (by kernel_rfl) (by decide) u (by rw [star_name]; exact h)
theorem cells_es : Tryd.prog.cellsOf 126 = 1 := by kernel_rfl
theorem cells_str : Tryd.prog.cellsOf 9 = 1 := by kernel_rfl
set_option maxRecDepth 100000 in
theorem vars_of_laid {W : World} (h : laidMetH Tryd.prog laid5 W) : Vars W := by
  rw [laid5_plain] at h
  have h2 := h.tail.tail
  have h4 := h2.tail.tail
  have h5 := h4.tail
  obtain ⟨a0, _, v0, _⟩ := laid_sentinel h4 range_global range_type Tryd.underlying62 star_row Tryd.underlying124 Tryd.underlying126 rfl rfl Tryd.underlying9 cells_es cells_str
  obtain ⟨a1, _, v1, _⟩ := laid_sentinel h5 wrong_global wrong_type Tryd.underlying62 star_row Tryd.underlying124 Tryd.underlying126 rfl rfl Tryd.underlying9 cells_es cells_str
  rw [pow_list] at h2
  exact ⟨Lib.tabIs_of_head pow_global pow_type Tryd.underlying106 Tryd.underlying55 (by kernel_rfl) (by kernel_rfl) h2, ⟨_, _, v1⟩, _, _, v0⟩
theorem door_met (os : Os) (args : Array Value) : laidMetH Tryd.prog laid5 ((World.laidAll Tryd.prog os laid5).forCall (fun _ _ => 0) ⟨#[], args, []⟩).memory := by
  rw [laid5_plain]; exact laidMet_laidAll _ (by kernel_rfl) (by kernel_rfl)
theorem door_shaped (os : Os) : (World.laidAll Tryd.prog os laid5).Shaped Tryd.prog := World.shaped_of_ZipB (by kernel_rfl) (by kernel_rfl)
end Go.Proofs.YtblmnbaejfhagaaDoor
