/-
  WHAT COMES IN: a slice whose elements read as something plain, whatever their cells.
-/
import Derived.Test.YtkpfhjjojchdlaaRows
import Derived.ProofKit
import Derived.OpenShut
import Derived.Deep.Slices
import Derived.Deep.Fields
namespace Go.Proofs.Ytkpfhjjojchdlaa
open Go.ChangeShapes Go.WideShapes Go.ChangeAt Go.RowKit Go.Deep
set_option linter.unusedVariables false
set_option maxRecDepth 100000

section
variable {H : Type} {enc : TypeId × Value → H} {P : Program} {W : World} {base : Nat}
/-- the slice's elements, E cells each, as a list. -/
theorem open_listS {α : Type} (dflt : α) (ce : α → List Value) (Pd : α → Prop) (hP : Pd dflt) {t e : TypeId} {E : Nat} (ht : P.underlying t = some (.slice e)) (hE : P.cellsOf e = E) (h0 : 0 < E)
    (hread : ∀ (n : Nat) (cs : List Value) (y : DataW H × List MemPlace), DataW.trod enc P W 0 (fun _ => true) true n e cs = some y → ∃ d : α, cs = ce d ∧ Pd d)
    {v : Value} {d : DataW H} {p : List MemPlace} (hv : ∃ a l c, v = .slice a l c) (h : DataW.Trod enc P W 0 (fun _ => true) true t v d p) :
    ∃ (A : Option Addr) (n c : Nat) (ds : List α), v = .slice A n c ∧ ds.length = n ∧ (∀ i, Pd (ds.getD i dflt)) ∧ (A = none → c = 0) ∧ n ≤ 9223372036854775807 ∧
      (0 < n → ∃ b off, A = some ⟨b, off, none⟩ ∧ b < W.heap.size ∧ ∀ i, i < n → ∀ j, j < E → W.cell? ⟨b, off + i * E + j, none⟩ = (ce (ds.getD i dflt))[j]?) := by
  obtain ⟨a0, len, cap, rfl⟩ := hv
  obtain ⟨fuel, hf⟩ := h
  rcases open_slice ht hf with ⟨hcs, _⟩ | ⟨a, len', cap', m, nf, D, Pl, hcs, _, hl, hm, hmm, _, hi⟩
  · simp [Value.cells] at hcs
    obtain ⟨rfl, rfl, rfl⟩ := hcs
    exact ⟨none, 0, 0, [], rfl, rfl, fun i => by simpa using hP, fun _ => rfl, by omega, fun h => absurd h (by omega)⟩
  · simp [Value.cells] at hcs
    obtain ⟨rfl, rfl, rfl⟩ := hcs
    simp only [if_true] at hmm
    unfold maxLen at hm
    have each : ∀ i, ∃ d : α, Pd d ∧ (i < len → ∀ j, j < E → W.cell? (a.add (i * E + j)) = (ce d)[j]?) := fun i => by
      by_cases hlt : i < len
      · obtain ⟨cs', hc, ht'⟩ := hi i (by omega)
        rw [hE] at hc
        obtain ⟨d, rfl, hd⟩ := hread _ _ _ ht'
        refine ⟨d, hd, fun _ j hj => ?_⟩
        have := (World.cells?_some hc).2.2 j hj
        rw [← this, ← Go.Deep.add_add]
      · exact ⟨dflt, hP, fun h => absurd h hlt⟩
    have hpick : ∃ f : Nat → α, ∀ i, Pd (f i) ∧ (i < len → ∀ j, j < E → W.cell? (a.add (i * E + j)) = (ce (f i))[j]?) := ⟨fun i => Classical.choose (each i), fun i => Classical.choose_spec (each i)⟩
    obtain ⟨f, hfx⟩ := hpick
    have hg : ∀ i, i < len → ((List.range len).map f).getD i dflt = f i := fun i h => by simp [List.getD, h]
    refine ⟨some a, len, cap, (List.range len).map f, rfl, by simp, fun i => ?_, fun h => (by cases h), by omega, fun hn => ?_⟩
    · by_cases h : i < len
      · rw [hg i h]; exact (hfx i).1
      · rw [List.getD, List.getElem?_eq_none (by simp; omega)]; exact hP
    · obtain ⟨cs', hc, ht'⟩ := hi 0 (by omega)
      rw [hE] at hc
      obtain ⟨hlt0, hlen0, hget0⟩ := World.cells?_some hc
      have h00 := hget0 0 h0
      have hcs : cs'[0]? = some (cs'[0]'(by omega)) := List.getElem?_eq_getElem (by omega)
      rw [hcs] at h00
      obtain ⟨b, off, spot⟩ := a
      have hz : ((⟨b, off, spot⟩ : Addr).add (0 * E)).add 0 = (⟨b, off, spot⟩ : Addr) := by simp [Addr.add]
      rw [hz] at h00
      have hspot : spot = none := by simpa [Addr.add] using World.cell?_spot h00
      subst hspot
      refine ⟨b, off, rfl, World.block_lt_of_cell? W _ h00, fun i hlt j hj => ?_⟩
      rw [hg i hlt]
      have hc := (hfx i).2 hlt j hj
      rw [Addr.add_lit, ← Nat.add_assoc] at hc
      exact hc
theorem open_list {α : Type} (dflt : α) (ce : α → List Value) (Pd : α → Prop) (hP : Pd dflt) {t e : TypeId} {E : Nat} (ht : P.underlying t = some (.slice e)) (hE : P.cellsOf e = E) (h0 : 0 < E)
    (hread : ∀ (n : Nat) (cs : List Value) (y : DataW H × List MemPlace), DataW.trod enc P W 0 (fun _ => true) true n e cs = some y → ∃ d : α, cs = ce d ∧ Pd d)
    {v : Value} {d : DataW H} {p : List MemPlace} (hv : Value.okWide P W .any base t v) (h : DataW.Trod enc P W 0 (fun _ => true) true t v d p) :
    ∃ (A : Option Addr) (n c : Nat) (ds : List α), v = .slice A n c ∧ ds.length = n ∧ (∀ i, Pd (ds.getD i dflt)) ∧ (A = none → c = 0) ∧ n ≤ 9223372036854775807 ∧
      (0 < n → ∃ b off, A = some ⟨b, off, none⟩ ∧ b < W.heap.size ∧ ∀ i, i < n → ∀ j, j < E → W.cell? ⟨b, off + i * E + j, none⟩ = (ce (ds.getD i dflt))[j]?) :=
  open_listS dflt ce Pd hP ht hE h0 hread (okWide_slice ht hv) h
/-- a struct's fields, each by itself. -/
theorem trod_parts {t : TypeId} {sh : List (TypeId × Nat × Nat)} (hsh : ((P.underlying t).bind fun d => match d with | .struct fs => some (fs.toList.map fun f => (f.type, f.offset, P.cellsOf f.type)) | _ => none) = some sh)
    {n : Nat} {cs : List Value} {y : DataW H × List MemPlace} {sp : Nat → Bool} (h : DataW.trod enc P W 0 sp true n t cs = some y) :
    cs.length = P.cellsOf t ∧ ∀ (i : Nat) (ty : TypeId) (off k : Nat), sh[i]? = some (ty, off, k) → ∃ (m : Nat) (x : DataW H × List MemPlace), DataW.trod enc P W 0 sp true m ty ((cs.drop off).take k) = some x := by
  cases hu : P.underlying t with
  | none => rw [hu] at hsh; cases hsh
  | some d =>
    rw [hu] at hsh
    cases d <;> simp at hsh
    rename_i fs
    obtain ⟨xs, m, _, _, hlen, hxl, hf⟩ := DataW.trod_struct hu h
    refine ⟨hlen, fun i ty off k hi => ?_⟩
    subst hsh
    rw [List.getElem?_map] at hi
    cases hfi : fs.toList[i]? with
    | none => rw [hfi] at hi; cases hi
    | some f =>
      rw [hfi] at hi
      simp at hi
      obtain ⟨rfl, rfl, rfl⟩ := hi
      have hfi' : fs[i]? = some f := by rw [← hfi]; simp
      have h1 := hf i f hfi'
      have hlt : i < fs.size := (Array.getElem?_eq_some_iff.1 hfi').1
      exact ⟨m, xs[i]'(by omega), h1.trans (List.getElem?_eq_getElem (by omega))⟩
theorem part_int {n : Nat} {u : Value} {y : DataW H × List MemPlace} {sp : Nat → Bool} {t : TypeId} (ht : P.underlying t = some (.int .i64)) (h : DataW.trod enc P W 0 sp true n t [u] = some y) : ∃ z, u = .int .i64 z ∧ -9223372036854775808 ≤ z ∧ z ≤ 9223372036854775807 := by
  obtain ⟨z, e, _, hw⟩ := DataW.trod_int ht h
  have h1 : IntKind.i64.min = -9223372036854775808 := by decide
  exact ⟨z, by simpa using e, by simpa [Lit.wf, h1] using hw⟩
theorem part_bool {n : Nat} {u : Value} {y : DataW H × List MemPlace} {sp : Nat → Bool} {t : TypeId} (ht : P.underlying t = some .bool) (h : DataW.trod enc P W 0 sp true n t [u] = some y) : ∃ z, u = .bool z := by
  obtain ⟨z, e, _⟩ := DataW.trod_bool ht h
  exact ⟨z, by simpa using e⟩
end
end Go.Proofs.Ytkpfhjjojchdlaa
