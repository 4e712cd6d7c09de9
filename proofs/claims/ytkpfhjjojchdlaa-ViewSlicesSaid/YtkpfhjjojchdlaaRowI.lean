/-
  SLICES OF WHOLE NUMBERS: read, and of the call's own.
-/
import Derived.Test.YtkpfhjjojchdlaaBase
import Derived.Test.YtkpfhjjojchdlaaMem
namespace Go.Proofs.Ytkpfhjjojchdlaa
open Go.ChangeShapes Go.WideShapes Go.ChangeAt Go.RowKit
set_option linter.unusedVariables false

/-- the slice at A holds these numbers, below block B. -/
def Nums (w : World) (B : Nat) (A : Option Addr) (n : Nat) (zs : List Int) : Prop := zs.length = n ∧ Sees w B A n fun k => .int .i64 (zs.getD k 0)
/-- the row of numbers at A is the call's own, from block base on. -/
def intV (zs : List Int) : List Value := zs.map (Value.int .i64)
def OwnI (w : World) (base : Nat) (A : Option Addr) (n c : Nat) (zs : List Int) : Prop := zs.length = n ∧ w.ownsRow base 3 1 (.slice A n c) n (intV zs)
theorem intV_length (zs : List Int) : (intV zs).length = zs.length := by simp [intV]
theorem intV_get (zs : List Int) (i : Nat) (h : i < zs.length) : (intV zs)[i]? = some (.int .i64 (zs.getD i 0)) := by simp [intV, List.getD, h]
theorem intV_one (zs : List Int) : ∀ u ∈ intV zs, u.oneCell' = true := by
  intro u hu
  unfold intV at hu
  rw [List.mem_map] at hu
  obtain ⟨z, _, rfl⟩ := hu
  rfl
theorem intV_snoc (zs : List Int) (z : Int) : intV (zs ++ [z]) = intV zs ++ [.int .i64 z] := by simp [intV]
theorem intV_set (zs : List Int) (i : Nat) (z : Int) : (intV zs).set i (.int .i64 z) = intV (zs.set i z) := by
  unfold intV
  rw [List.map_set]
section
variable {w w' : World} {B B' base n c : Nat} {A : Option Addr} {zs : List Int}
theorem Nums.below (h : Nums w B A n zs) (hb : Below B w w') : Nums w' B A n zs := ⟨h.1, h.2.below hb⟩
theorem Nums.more (h : Nums w B A n zs) (hB : B ≤ B') : Nums w B' A n zs := ⟨h.1, h.2.more hB⟩
theorem Nums.drewN (h : Nums w B A n zs) (m : Nat) : Nums (w.drewN m) B A n zs := h
theorem Nums.grow (h : Nums w w.heap.size A n zs) (hg : w.grownBy w' none) : Nums w' w'.heap.size A n zs := (h.below (below_of_grown hg)).more hg.size
theorem Nums.keep (h : Nums w B A n zs) (hg : w.grownBy w' none) (hB : B ≤ w.heap.size) : Nums w' B A n zs := h.below (below_of_grown_row hg hB (by simp))
theorem Nums.nil (w : World) (B : Nat) : Nums w B none 0 [] := ⟨rfl, fun h => absurd h (by omega)⟩
theorem OwnI.nums (h : OwnI w base A n c zs) : Nums w w.heap.size A n zs := by
  refine ⟨h.1, fun h0 => ?_⟩
  obtain ⟨r, rfl, _, hl, _, _⟩ := own_form h.2 h0
  refine ⟨r, 0, rfl, hl, fun k hk => ?_⟩
  rw [Nat.zero_add, h.2.cellAt k (by omega)]
  exact intV_get zs k (by rw [h.1]; exact hk)
theorem OwnI.grow (h : OwnI w base A n c zs) (hg : w.grownBy w' none) : OwnI w' base A n c zs := ⟨h.1, own_grow h.2 hg⟩
theorem OwnI.lower (h : OwnI w base A n c zs) (hb : B ≤ base) : OwnI w B A n c zs := ⟨h.1, own_lower h.2 hb⟩
theorem OwnI.drewN (h : OwnI w base A n c zs) (m : Nat) : OwnI (w.drewN m) base A n c zs := h
theorem OwnI.nil (w : World) (base : Nat) : OwnI w base none 0 0 [] := ⟨rfl, World.ownsRow_nil _ _ _ _⟩
theorem OwnI.at_ (h : OwnI w base A n c zs) {i : Nat} (hi : i < n) : ∃ r, A = some ⟨r, 0, none⟩ ∧ base ≤ r ∧ w.cell? ⟨r, i, none⟩ = some (.int .i64 (zs.getD i 0)) ∧ w.frozen? ⟨r, i, none⟩ = false := by
  obtain ⟨r, rfl, hb, _, _, _⟩ := own_form h.2 (by omega)
  refine ⟨r, rfl, hb, ?_, h.2.frozenAt i⟩
  rw [h.2.cellAt i (by omega)]
  exact intV_get zs i (by rw [h.1]; exact hi)
theorem OwnI.put {r : Nat} (h : OwnI w base (some ⟨r, 0, none⟩) n c zs) (i : Nat) (z : Int) : OwnI (w.setCell ⟨r, i, none⟩ (.int .i64 z)) base (some ⟨r, 0, none⟩) n c (zs.set i z) := by
  refine ⟨by rw [List.length_set]; exact h.1, ?_⟩
  have := (h.2.stored i (.int .i64 z)).1
  rw [intV_set] at this
  exact this
theorem own_slice1 {e : TypeId} {size : Nat} {v : Value} {xs : List Value} (h : w.ownsRow base e size v n xs) : ∃ A c, v = .slice A n c := by
  rcases h.2 with ⟨rfl, rfl⟩ | ⟨k, cap, cur, rfl, _⟩
  · exact ⟨_, _, rfl⟩
  · exact ⟨_, _, rfl⟩
theorem new_cell1 (w : World) (v : Value) (t : TypeId) : ∀ j u, [v][j]? = some u → (w.alloc (.cells #[v] t)).cell? ((⟨w.heap.size, 0, none⟩ : Addr).add j) = some u := by
  intro j u hu
  match j, hu with
  | 0, hu =>
    rw [Addr.add_lit, cell_of_row _ _ _ _ _ _ (heap_alloc_new w _)]
    exact hu
/-- the cells of a slice that is read, as a source of append. -/
theorem Nums.src {b off : Nat} (h : Nums w B (some ⟨b, off, none⟩) n zs) : ∀ j u, (intV zs)[j]? = some u → w.cell? ((⟨b, off, none⟩ : Addr).add j) = some u := by
  intro j u hu
  have hj : j < zs.length := by rw [← intV_length]; exact (List.getElem?_eq_some_iff.1 hu).1
  obtain ⟨b', off', e, _, hc⟩ := h.2 (by have := h.1; omega)
  injection e with e; injection e with e1 e2
  subst e1; subst e2
  rw [Addr.add_lit, hc j (by have := h.1; omega), ← intV_get zs j hj, hu]
end
theorem info_int : (Try.prog.info? 3).map (fun i => (i.zero, i.size, i.bytes)) = some (some (.int .i64 0), 1, 8) := by kernel_rfl
/-- a row of these numbers is told, new. -/
def GaveInts (zs : List Int) (w : World) (e : Ending) (w' : World) : Prop := ∃ A c, e = .returned (.slice A zs.length c) ∧ OwnI w' w.heap.size A zs.length c zs ∧ w.grownBy w' none
def GaveIntsB (zs : List Int) (b : Bool) (w : World) (e : Ending) (w' : World) : Prop := ∃ A c, e = .returned (.tuple #[.slice A zs.length c, .bool b]) ∧ OwnI w' w.heap.size A zs.length c zs ∧ w.grownBy w' none
/-- v is told; only drawn. -/
def ToldV (v : Value) (w : World) (e : Ending) (w' : World) : Prop := e = .returned v ∧ ∃ m, w' = w.drewN m
theorem toldV_eq {v v' : Value} (h : v = v') (w : World) (m : Nat) : ToldV v w (.returned v') (w.drewN m) := ⟨by rw [h], m, rfl⟩
end Go.Proofs.Ytkpfhjjojchdlaa
