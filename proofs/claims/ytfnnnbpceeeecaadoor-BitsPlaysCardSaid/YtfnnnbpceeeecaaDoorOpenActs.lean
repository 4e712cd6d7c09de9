/-
  WHAT COMES IN: a slice of structs (Act) of three numbers and a truth.
-/
import Derived.Test.YtfnnnbpceeeecaaDoorPlays
import Derived.ProofKit
import Derived.OpenShut
import Derived.Deep.Slices
import Derived.Deep.Fields
namespace Go.Proofs.YtfnnnbpceeeecaaDoor
open Go.ChangeShapes Go.WideShapes Go.ChangeAt Go.RowKit Go.Deep
set_option linter.unusedVariables false

/-! ### Acts -/
theorem act_type : ∃ fs : Array Field, Tryd.prog.underlying 29 = some (.struct fs) ∧ oneCellFields Tryd.prog fs = true ∧ fs.map (fun f => f.type) = #[3, 3, 3, 4] := by
  have h : ((Tryd.prog.underlying 29).bind fun d => match d with | .struct fs => some (oneCellFields Tryd.prog fs, fs.map (fun f => f.type)) | _ => none) = some (true, #[3, 3, 3, 4]) := by kernel_rfl
  cases hu : Tryd.prog.underlying 29 with
  | none => rw [hu] at h; cases h
  | some d =>
    rw [hu] at h
    cases d <;> simp at h
    rename_i fs
    exact ⟨fs, rfl, h.1, h.2⟩
theorem act_cells : Tryd.prog.cellsOf 29 = 4 := by kernel_rfl
section
variable {H : Type} {enc : TypeId × Value → H} {W : World} {base : Nat}
theorem one_int {n : Nat} {u : Value} {y : DataW H × List MemPlace} {sp : Nat → Bool} (h : DataW.trod enc Tryd.prog W 0 sp true n 3 [u] = some y) : ∃ z, u = .int .i64 z ∧ I64 z := by
  obtain ⟨z, e, _, hw⟩ := DataW.trod_int Tryd.underlying3 h
  exact ⟨z, by simpa using e, i64_of_wf hw⟩
theorem one_bool {n : Nat} {u : Value} {y : DataW H × List MemPlace} {sp : Nat → Bool} (h : DataW.trod enc Tryd.prog W 0 sp true n 4 [u] = some y) : ∃ z, u = .bool z := by
  obtain ⟨z, e, _⟩ := DataW.trod_bool Tryd.underlying4 h
  exact ⟨z, by simpa using e⟩
theorem one_act {n : Nat} {cs : List Value} {y : DataW H × List MemPlace} {sp : Nat → Bool} (h : DataW.trod enc Tryd.prog W 0 sp true n 29 cs = some y) :
    ∃ d : Deed, cs = [.int .i64 d.kind, .int .i64 d.a, .int .i64 d.z, .bool d.b] ∧ I64 d.a ∧ I64 d.z := by
  obtain ⟨fs, hu, hone, hty⟩ := act_type
  obtain ⟨xs, m, _, _, hlen, hxl, hf⟩ := DataW.trod_struct hu h
  rw [act_cells] at hlen
  match cs, hlen with
  | [u0, u1, u2, u3], _ =>
    have hsz : fs.size = 4 := by have := congrArg Array.size hty; simpa using this
    have ht : ∀ (i : Nat) (hi : i < 4), ∃ f, fs[i]? = some f ∧ f.offset = i ∧ Tryd.prog.cellsOf f.type = 1 ∧ (#[3, 3, 3, 4] : Array TypeId)[i]? = some f.type := fun i hi => by
      have hlt : i < fs.size := by omega
      obtain ⟨h1, h2⟩ := hone_of hone i fs[i] (Array.getElem?_eq_getElem hlt)
      refine ⟨fs[i], Array.getElem?_eq_getElem hlt, h1, h2, ?_⟩
      rw [← hty]
      simp [hlt]
    have hget : ∀ (i : Nat) (hi : i < 4), xs[i]? = some (xs[i]'(by omega)) := fun i hi => List.getElem?_eq_getElem (by omega)
    obtain ⟨f0, e0, o0, k0, t0⟩ := ht 0 (by omega)
    obtain ⟨f1, e1, o1, k1, t1⟩ := ht 1 (by omega)
    obtain ⟨f2, e2, o2, k2, t2⟩ := ht 2 (by omega)
    obtain ⟨f3, e3, o3, k3, t3⟩ := ht 3 (by omega)
    have g0 := hf 0 f0 e0
    have g1 := hf 1 f1 e1
    have g2 := hf 2 f2 e2
    have g3 := hf 3 f3 e3
    rw [o0, k0, hget 0 (by omega), ← Option.some.inj t0] at g0
    rw [o1, k1, hget 1 (by omega), ← Option.some.inj t1] at g1
    rw [o2, k2, hget 2 (by omega), ← Option.some.inj t2] at g2
    rw [o3, k3, hget 3 (by omega), ← Option.some.inj t3] at g3
    obtain ⟨z0, rfl, _⟩ := one_int g0
    obtain ⟨z1, rfl, i1⟩ := one_int g1
    obtain ⟨z2, rfl, i2⟩ := one_int g2
    obtain ⟨z3, rfl⟩ := one_bool g3
    exact ⟨⟨z0, z1, z2, z3⟩, rfl, i1, i2⟩
theorem open_Acts {v : Value} {d : DataW H} {p : List MemPlace} (hv : Value.okWide Tryd.prog W .any base 22 v) (h : DataW.Trod enc Tryd.prog W 0 (fun _ => true) true 22 v d p) :
    ∃ A n c ds, v = .slice A n c ∧ Acts W W.heap.size A n ds ∧ n ≤ 9223372036854775807 := by
  obtain ⟨a0, len, cap, rfl⟩ := okWide_slice Tryd.underlying22 hv
  obtain ⟨fuel, hf⟩ := h
  rcases open_slice Tryd.underlying22 hf with ⟨hcs, _⟩ | ⟨a, len', cap', m, nf, D, Pl, hcs, _, hl, hm, hmm, _, hi⟩
  · simp [Value.cells] at hcs
    obtain ⟨rfl, rfl, rfl⟩ := hcs
    exact ⟨none, 0, 0, [], rfl, ⟨rfl, fun i => by simp [noDeed, I64], fun h => absurd h (by omega)⟩, by omega⟩
  · simp [Value.cells] at hcs
    obtain ⟨rfl, rfl, rfl⟩ := hcs
    simp only [if_true] at hmm
    unfold maxLen at hm
    have each : ∀ i, ∃ d : Deed, I64 d.a ∧ I64 d.z ∧ (i < len → ∀ j, j < 4 → W.cell? (a.add (i * 4 + j)) = ([.int .i64 d.kind, .int .i64 d.a, .int .i64 d.z, .bool d.b] : List Value)[j]?) := fun i => by
      by_cases hlt : i < len
      · obtain ⟨cs', hc, ht⟩ := hi i (by omega)
        rw [act_cells] at hc
        obtain ⟨d, rfl, i1, i2⟩ := one_act ht
        refine ⟨d, i1, i2, fun _ j hj => ?_⟩
        have := (World.cells?_some hc).2.2 j hj
        rw [← this, ← Go.Deep.add_add]
      · exact ⟨noDeed, by simp [noDeed, I64], by simp [noDeed, I64], fun h => absurd h hlt⟩
    have hpick : ∃ f : Nat → Deed, ∀ i, I64 (f i).a ∧ I64 (f i).z ∧ (i < len → ∀ j, j < 4 → W.cell? (a.add (i * 4 + j)) = ([.int .i64 (f i).kind, .int .i64 (f i).a, .int .i64 (f i).z, .bool (f i).b] : List Value)[j]?) :=
      ⟨fun i => Classical.choose (each i), fun i => Classical.choose_spec (each i)⟩
    obtain ⟨f, hfx⟩ := hpick
    have hg : ∀ i, i < len → ((List.range len).map f).getD i noDeed = f i := fun i h => by simp [List.getD, h]
    refine ⟨some a, len, cap, (List.range len).map f, rfl, ⟨by simp, fun i => ?_, fun h0 => ?_⟩, by omega⟩
    · by_cases h : i < len
      · rw [hg i h]; exact ⟨(hfx i).1, (hfx i).2.1⟩
      · rw [List.getD, List.getElem?_eq_none (by simp; omega)]; simp [noDeed, I64]
    · have h0c := (hfx 0).2.2 h0 0 (by omega)
      obtain ⟨b, off, spot⟩ := a
      have h00 : W.cell? ((⟨b, off, spot⟩ : Addr).add 0) = some (.int .i64 (f 0).kind) := by simpa using h0c
      have hspot : spot = none := by simpa [Addr.add] using World.cell?_spot h00
      subst hspot
      refine ⟨b, off, rfl, ?_, fun i hlt => ?_⟩
      · simpa [Addr.add] using World.block_lt_of_cell? W _ h00
      · rw [hg i hlt]
        have hc := (hfx i).2.2 hlt
        have c0 := hc 0 (by omega)
        have c1 := hc 1 (by omega)
        have c2 := hc 2 (by omega)
        have c3 := hc 3 (by omega)
        rw [Addr.add_lit] at c0 c1 c2 c3
        simp only [← Nat.add_assoc, Nat.add_zero] at c0 c1 c2 c3
        exact ⟨c0, c1, c2, c3⟩
end
end Go.Proofs.YtfnnnbpceeeecaaDoor
