/-
  WHAT COMES IN of layer 5: labels, slices of labels.
-/
import Derived.Test.YtfemfkiamipipaaOpenList
import Derived.Test.YtfemfkiamipipaaSays5
namespace Go.Proofs.Ytfemfkiamipipaa
open Go.ChangeShapes Go.WideShapes Go.ChangeAt Go.RowKit Go.Deep
set_option linter.unusedVariables false

theorem lab_shape : ((Try.prog.underlying 39).bind fun d => match d with | .struct fs => some (fs.toList.map fun f => (f.type, f.offset, Try.prog.cellsOf f.type)) | _ => none) = some [(5, 0, 1), (2, 1, 1), (9, 2, 1)] := by kernel_rfl
theorem lab_cells : Try.prog.cellsOf 39 = 3 := by kernel_rfl
/-- a label as it comes, its text however long. -/
def LabIn (c : Lab) : Prop := 0 ≤ c.k ∧ c.k < 256 ∧ -9223372036854775808 ≤ c.n ∧ c.n < 9223372036854775808
section
variable {H : Type} {enc : TypeId × Value → H} {P : Program} {W : World} {base : Nat}
theorem part_u8 {n : Nat} {u : Value} {y : DataW H × List MemPlace} {sp : Nat → Bool} {t : TypeId} (ht : P.underlying t = some (.int .u8)) (h : DataW.trod enc P W 0 sp true n t [u] = some y) : ∃ z, u = .int .u8 z ∧ 0 ≤ z ∧ z < 256 := by
  obtain ⟨z, e, _, hw⟩ := DataW.trod_int ht h
  have h1 : IntKind.u8.min = 0 := by decide
  have h2 : IntKind.u8.max = 255 := by decide
  have hw' : 0 ≤ z ∧ z ≤ 255 := by simpa [Lit.wf, h1, h2] using hw
  exact ⟨z, by simpa using e, by omega, by omega⟩
theorem part_string {n : Nat} {u : Value} {y : DataW H × List MemPlace} {sp : Nat → Bool} {t : TypeId} (ht : P.underlying t = some .string) (h : DataW.trod enc P W 0 sp true n t [u] = some y) : ∃ s, u = .string s := by
  obtain ⟨z, e, _⟩ := DataW.trod_string ht h
  exact ⟨z, by simpa using e⟩
set_option maxRecDepth 100000 in
theorem one_lab {n : Nat} {cs : List Value} {y : DataW H × List MemPlace} {sp : Nat → Bool} (h : DataW.trod enc Try.prog W 0 sp true n 39 cs = some y) : ∃ c : Lab, cs = labC c ∧ LabIn c := by
  obtain ⟨hl, hp⟩ := trod_parts lab_shape h
  rw [lab_cells] at hl
  match cs, hl with
  | [u0, u1, u2], _ =>
    obtain ⟨_, _, h0⟩ := hp 0 _ _ _ rfl
    obtain ⟨_, _, h1⟩ := hp 1 _ _ _ rfl
    obtain ⟨_, _, h2⟩ := hp 2 _ _ _ rfl
    obtain ⟨z0, rfl, i0, i0'⟩ := part_u8 Try.underlying5 h0
    obtain ⟨z1, rfl, i1, i1'⟩ := part_int Try.underlying2 h1
    obtain ⟨z2, rfl⟩ := part_string Try.underlying9 h2
    exact ⟨⟨z0, z1, z2⟩, rfl, i0, i0', i1, by show z1 < 9223372036854775808; omega⟩
set_option maxRecDepth 100000 in
theorem open_Labs {v : Value} {d : DataW H} {p : List MemPlace} (hv : Value.okWide Try.prog W .any base 22 v) (h : DataW.Trod enc Try.prog W 0 (fun _ => true) true 22 v d p) :
    ∃ A n c l, v = .slice A n c ∧ Labs W W.heap.size A n l ∧ (∀ i, LabIn (l.getD i noLab)) ∧ n ≤ 9223372036854775807 := by
  obtain ⟨A, n, c, ds, rfl, hl, hd, hA, hn, hc⟩ := open_list noLab labC LabIn ⟨by decide, by decide, by decide, by decide⟩ Try.underlying22 lab_cells (by omega) (fun _ _ _ h => one_lab h) hv h
  refine ⟨A, n, c, ds, rfl, ⟨hl, fun h0 => ?_⟩, hd, hn⟩
  obtain ⟨b, off, e, hb, hcell⟩ := hc h0
  exact ⟨b, off, e, hb, fun k hk => ⟨hcell k hk 0 (by omega), hcell k hk 1 (by omega), hcell k hk 2 (by omega)⟩⟩
set_option maxRecDepth 100000 in
theorem open_Lab {v : Value} {d : DataW H} {p : List MemPlace} (hv : Value.okWide Try.prog W .any base 39 v) (h : DataW.Trod enc Try.prog W 0 (fun _ => true) true 39 v d p) :
    ∃ c : Lab, v = .agg #[.int .u8 c.k, .int .i64 c.n, .string c.s] ∧ LabIn c := by
  obtain ⟨cs, rfl, hsz⟩ := okWide_struct Try.underlying39 hv
  obtain ⟨fuel, hf⟩ := h
  obtain ⟨c, hc, hi⟩ := one_lab hf
  refine ⟨c, ?_, hi⟩
  have : cs.toList = labC c := by simpa [Value.cells] using hc
  rw [show cs = (labC c).toArray by rw [← this]]
  rfl
end
end Go.Proofs.Ytfemfkiamipipaa
