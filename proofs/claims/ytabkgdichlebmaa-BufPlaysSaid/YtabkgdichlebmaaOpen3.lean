/-
  WHAT COMES IN of layer 3: slices of cells, one cell.
-/
import Derived.Test.YtabkgdichlebmaaOpenList
import Derived.Test.YtabkgdichlebmaaBufAll
namespace Go.Proofs.Ytabkgdichlebmaa
open Go.ChangeShapes Go.WideShapes Go.ChangeAt Go.RowKit Go.Deep
set_option linter.unusedVariables false

def cellL (c : Cel) : List Value := [.int .i64 c.v, .bool c.ok]
theorem cell_shape : ((Try.prog.underlying 30).bind fun d => match d with | .struct fs => some (fs.toList.map fun f => (f.type, f.offset, Try.prog.cellsOf f.type)) | _ => none) = some [(2, 0, 1), (4, 1, 1)] := by kernel_rfl
theorem cell_cells : Try.prog.cellsOf 30 = 2 := by kernel_rfl
def CelOk (c : Cel) : Prop := I64 c.v
section
variable {H : Type} {enc : TypeId × Value → H} {W : World} {base : Nat}
theorem one_cell {n : Nat} {cs : List Value} {y : DataW H × List MemPlace} {sp : Nat → Bool} (h : DataW.trod enc Try.prog W 0 sp true n 30 cs = some y) : ∃ c : Cel, cs = cellL c ∧ CelOk c := by
  obtain ⟨hl, hp⟩ := trod_parts cell_shape h
  rw [cell_cells] at hl
  match cs, hl with
  | [u0, u1], _ =>
    obtain ⟨_, _, h0⟩ := hp 0 _ _ _ rfl
    obtain ⟨_, _, h1⟩ := hp 1 _ _ _ rfl
    obtain ⟨z0, rfl, i0⟩ := part_int Try.underlying2 h0
    obtain ⟨z1, rfl⟩ := part_bool Try.underlying4 h1
    exact ⟨⟨z0, z1⟩, rfl, i0⟩
theorem open_Cels {v : Value} {d : DataW H} {p : List MemPlace} (hv : Value.okWide Try.prog W .any base 22 v) (h : DataW.Trod enc Try.prog W 0 (fun _ => true) true 22 v d p) :
    ∃ A n c l, v = .slice A n c ∧ Cels W W.heap.size A n l ∧ (A = none → c = 0) ∧ n ≤ 9223372036854775807 := by
  obtain ⟨A, n, c, ds, rfl, hl, _, hA, hn, hc⟩ := open_list noCel cellL CelOk ⟨by decide, by decide⟩ Try.underlying22 cell_cells (by omega) (fun _ _ _ h => one_cell h) hv h
  refine ⟨A, n, c, ds, rfl, ⟨hl, fun h0 => ?_⟩, hA, hn⟩
  obtain ⟨b, off, e, hb, hcell⟩ := hc h0
  exact ⟨b, off, e, hb, fun k hk => ⟨hcell k hk 0 (by omega), hcell k hk 1 (by omega)⟩⟩
theorem open_Cell {v : Value} {d : DataW H} {p : List MemPlace} (hv : Value.okWide Try.prog W .any base 30 v) (h : DataW.Trod enc Try.prog W 0 (fun _ => true) true 30 v d p) :
    ∃ c : Cel, v = .agg #[.int .i64 c.v, .bool c.ok] := by
  obtain ⟨cs, rfl, hsz⟩ := okWide_struct Try.underlying30 hv
  obtain ⟨fuel, hf⟩ := h
  obtain ⟨c, hc, _⟩ := one_cell hf
  refine ⟨c, ?_⟩
  have : cs.toList = cellL c := by simpa [Value.cells] using hc
  rw [show cs = (cellL c).toArray by rw [← this]]
  rfl
end
end Go.Proofs.Ytabkgdichlebmaa
