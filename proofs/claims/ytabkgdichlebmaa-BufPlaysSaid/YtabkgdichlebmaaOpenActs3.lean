/-
  WHAT COMES IN of layer 3: slices of acts.
-/
import Derived.Test.YtabkgdichlebmaaSw
import Derived.Test.YtabkgdichlebmaaOpen3
namespace Go.Proofs.Ytabkgdichlebmaa
open Go.ChangeShapes Go.WideShapes Go.ChangeAt Go.RowKit Go.Deep
set_option linter.unusedVariables false

theorem act3_shape : ((Try.prog.underlying 32).bind fun d => match d with | .struct fs => some (fs.toList.map fun f => (f.type, f.offset, Try.prog.cellsOf f.type)) | _ => none) = some [(3, 0, 1), (3, 1, 1), (3, 2, 1), (3, 3, 1), (30, 4, 2)] := by kernel_rfl
theorem act3_cells : Try.prog.cellsOf 32 = 6 := by kernel_rfl
section
variable {H : Type} {enc : TypeId × Value → H} {W : World} {base : Nat}
theorem one_act3 {n : Nat} {cs : List Value} {y : DataW H × List MemPlace} {sp : Nat → Bool} (h : DataW.trod enc Try.prog W 0 sp true n 32 cs = some y) : ∃ d : Deed3, cs = deedL d ∧ DeedOk d := by
  obtain ⟨hl, hp⟩ := trod_parts act3_shape h
  rw [act3_cells] at hl
  match cs, hl with
  | [u0, u1, u2, u3, u4, u5], _ =>
    obtain ⟨_, _, h0⟩ := hp 0 _ _ _ rfl
    obtain ⟨_, _, h1⟩ := hp 1 _ _ _ rfl
    obtain ⟨_, _, h2⟩ := hp 2 _ _ _ rfl
    obtain ⟨_, _, h3⟩ := hp 3 _ _ _ rfl
    obtain ⟨_, _, h4⟩ := hp 4 _ _ _ rfl
    obtain ⟨z0, rfl, _⟩ := part_int Try.underlying3 h0
    obtain ⟨z1, rfl, i1⟩ := part_int Try.underlying3 h1
    obtain ⟨z2, rfl, i2⟩ := part_int Try.underlying3 h2
    obtain ⟨z3, rfl, i3⟩ := part_int Try.underlying3 h3
    obtain ⟨c, hc, _⟩ := one_cell h4
    have e : [u4, u5] = cellL c := hc
    simp only [cellL, List.cons.injEq, and_true] at e
    obtain ⟨rfl, rfl⟩ := e
    exact ⟨⟨z0, z1, z2, z3, c⟩, rfl, i1, i2, i3⟩
theorem open_Acts3 {v : Value} {d : DataW H} {p : List MemPlace} (hv : Value.okWide Try.prog W .any base 23 v) (h : DataW.Trod enc Try.prog W 0 (fun _ => true) true 23 v d p) :
    ∃ A n c l, v = .slice A n c ∧ Acts3 W W.heap.size A n l ∧ n ≤ 9223372036854775807 := by
  obtain ⟨A, n, c, ds, rfl, hl, hd, _, hn, hc⟩ := open_list noDeed3 deedL DeedOk ⟨⟨by decide, by decide⟩, ⟨by decide, by decide⟩, ⟨by decide, by decide⟩⟩ Try.underlying23 act3_cells (by omega) (fun _ _ _ h => one_act3 h) hv h
  exact ⟨A, n, c, ds, rfl, ⟨hl, hd, fun h0 => hc h0⟩, hn⟩
end
end Go.Proofs.Ytabkgdichlebmaa
