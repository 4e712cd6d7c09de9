/-
  Layer 5: the reference's Tuple.
-/
import Derived.Test.YtfemfkiamipipaaPart5
namespace Go.Proofs.Ytfemfkiamipipaa
open Go.ChangeShapes Go.WideShapes Go.ChangeAt Go.RowKit
set_option linter.unusedVariables false

/-- a label of the small ones, right. -/
def simpE (a : Lab) : Bool := decide (a.k ≠ 2) && rightE a
def tupE (l : List Lab) : Option Lab := if (decide (1 ≤ l.length ∧ l.length ≤ 4) && l.all simpE) = true then some ⟨2, l.length, txt (encL l)⟩ else none
theorem tup_short {l : List Lab} (h : ¬ (1 ≤ l.length ∧ l.length ≤ 4)) : tupE l = none := by unfold tupE; rw [decide_eq_false h]; rfl
theorem tup_no {l : List Lab} {x : Nat} (hx : x < l.length) (h : simpE (l.getD x noLab) = false) : tupE l = none := by
  unfold tupE
  rw [show l.all simpE = false from by
    rw [List.all_eq_false]
    refine ⟨l[x], List.getElem_mem hx, ?_⟩
    rw [List.getD_eq_getElem?_getD, List.getElem?_eq_getElem hx] at h
    simp at h
    simp [h], Bool.and_false]
  rfl
theorem tup_yes {l : List Lab} (h : 1 ≤ l.length ∧ l.length ≤ 4) (h2 : ∀ x, x < l.length → simpE (l.getD x noLab) = true) : tupE l = some ⟨2, l.length, txt (encL l)⟩ := by
  unfold tupE
  rw [decide_eq_true h, show l.all simpE = true from by
    rw [List.all_eq_true]
    intro y hy
    obtain ⟨i, hi, rfl⟩ := List.mem_iff_getElem.1 hy
    have := h2 i hi
    rw [List.getD_eq_getElem?_getD, List.getElem?_eq_getElem hi] at this
    exact this]
  rfl
theorem simp_plain {a : Lab} (h : simpE a = true) (h1 : -9223372036854775808 ≤ a.n) (h2 : a.n < 9223372036854775808) : plainL a := by
  unfold simpE at h
  rw [Bool.and_eq_true, decide_eq_true_eq] at h
  obtain ⟨hk, hr⟩ := h
  unfold rightE partsE at hr
  by_cases hp : a.k = 0 ∧ a.s = noS ∨ a.k = 1 ∧ a.n = 0 ∧ a.s.size ≤ 32
  · rcases hp with ⟨h3, h4⟩ | h3
    · exact .inl ⟨h3, h4, h1, h2⟩
    · exact .inr h3
  · rw [if_neg hp, if_pos hk] at hr; cases hr
theorem encP_length {a : Lab} (h : plainL a) : (encP a).length ≤ 34 := by
  rcases h with ⟨h1, _⟩ | ⟨h1, h2, h3⟩
  · unfold encP; rw [if_neg (by omega), List.length_cons, bytesB_length]; omega
  · unfold encP; rw [if_pos h1, List.length_cons, List.length_cons, Array.length_toList]
    have : a.s.data.size = a.s.size := rfl
    omega
theorem encL_snoc (l : List Lab) (a : Lab) : encL (l ++ [a]) = encL l ++ encP a := by simp [encL]
theorem txt_add (a b : List UInt8) : txt a ++ txt b = txt (a ++ b) := by
  apply toList_inj
  simp [txt, Lib.toList_data]
theorem Box.three {w : World} {b : Nat} {t : TypeId} {x y z : Value} (h : Box w b t #[x, y, z]) (u v s : Value) : w.cell? ⟨b, 0, none⟩ = some x ∧ w.cell? ⟨b, 1, none⟩ = some y ∧ w.cell? ⟨b, 2, none⟩ = some z ∧ w.frozen? ⟨b, 0, none⟩ = false ∧ w.frozen? ⟨b, 1, none⟩ = false ∧ w.frozen? ⟨b, 2, none⟩ = false ∧
    (((w.setCell ⟨b, 0, none⟩ u).setCell ⟨b, 1, none⟩ v).setCell ⟨b, 2, none⟩ s).cell? ⟨b, 0, none⟩ = some u ∧ (((w.setCell ⟨b, 0, none⟩ u).setCell ⟨b, 1, none⟩ v).setCell ⟨b, 2, none⟩ s).cell? ⟨b, 1, none⟩ = some v ∧ (((w.setCell ⟨b, 0, none⟩ u).setCell ⟨b, 1, none⟩ v).setCell ⟨b, 2, none⟩ s).cell? ⟨b, 2, none⟩ = some s :=
  ⟨by rw [h.get]; rfl, by rw [h.get]; rfl, by rw [h.get]; rfl, h.free 0, h.free 1, h.free 2, by rw [(((h.put 0 u).put 1 v).put 2 s).get]; rfl, by rw [(((h.put 0 u).put 1 v).put 2 s).get]; rfl, by rw [(((h.put 0 u).put 1 v).put 2 s).get]; rfl⟩
/-- a label, and whether there is one. -/
def GaveTup (o : Option Lab) (w : World) (en : Ending) (w' : World) : Prop := en = .returned (.tuple #[labO (o.getD noLab), .bool o.isSome]) ∧ w.grownBy w' none
theorem gaveTup_no {o : Option Lab} {w w' : World} (h : o = none) (hg : w.grownBy w' none) : GaveTup o w (.returned (.tuple #[.agg #[.int .u8 0, .int .i64 0, .string noS], .bool false])) w' := by subst h; exact ⟨rfl, hg⟩
theorem gaveTup_yes {o : Option Lab} {k n : Int} {s : ByteArray} {w w' : World} (h : o = some ⟨k, n, s⟩) (hg : w.grownBy w' none) : GaveTup o w (.returned (.tuple #[.agg #[.int .u8 k, .int .i64 n, .string s], .bool true])) w' := by subst h; exact ⟨rfl, hg⟩
end Go.Proofs.Ytfemfkiamipipaa
