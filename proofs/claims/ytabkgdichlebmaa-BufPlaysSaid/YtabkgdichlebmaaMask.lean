/-
  A MASK IN MEMORY, AND WHAT READS IT: bits.Len, row, has, Get.
-/
import Derived.Test.YtabkgdichlebmaaMem
import Derived.Test.YtabkgdichlebmaaWords
namespace Go.Proofs.Ytabkgdichlebmaa
open Go.ChangeShapes Go.WideShapes Go.ChangeAt Go.RowKit
set_option linter.unusedVariables false

theorem ret_int {k : IntKind} {a b : Int} (h : a = b) : Ending.returned (.int k a) = .returned (.int k b) := by rw [h]
theorem ret_truth {a b : Bool} (h : a = b) : Ending.returned (.bool a) = .returned (.bool b) := by rw [h]

def wordsV (l : List Bool) : List Value := (List.range (nw l)).map fun j => Value.int .u64 ((word l j : Nat) : Int)
theorem wordsV_length (l : List Bool) : (wordsV l).length = nw l := by simp [wordsV]
theorem wordsV_get (l : List Bool) (j : Nat) (h : j < nw l) : (wordsV l)[j]? = some (Value.int .u64 ((word l j : Nat) : Int)) := by simp [wordsV, h]
/-- the Mask at block g, its words at A, has these truths. -/
def Mask (w : World) (B g : Nat) (A : Option Addr) (k c : Nat) (l : List Bool) : Prop :=
  l.length ≤ 2097152 ∧ B ≤ g ∧ Box w g 81 #[.int .i64 (l.length : Nat), .slice A k c] ∧ w.ownsRow B 82 1 (.slice A k c) k (wordsV l)
section
variable {w w' : World} {B B' g k c : Nat} {A : Option Addr} {l : List Bool}
theorem Mask.count (h : Mask w B g A k c l) : k = nw l := by have := h.2.2.2.1; rw [wordsV_length] at this; omega
theorem Mask.len_cell (h : Mask w B g A k c l) : w.cell? ⟨g, 0, none⟩ = some (.int .i64 (l.length : Nat)) := by rw [h.2.2.1.get]; rfl
theorem Mask.row_cell (h : Mask w B g A k c l) : w.cell? ⟨g, 1, none⟩ = some (.slice A k c) := by rw [h.2.2.1.get]; rfl
theorem Mask.at_ (h : Mask w B g A k c l) {j : Nat} (hj : j < k) :
    ∃ r, A = some ⟨r, 0, none⟩ ∧ r ≠ g ∧ B ≤ r ∧ w.cell? ⟨r, j, none⟩ = some (.int .u64 ((word l j : Nat) : Int)) ∧ w.frozen? ⟨r, j, none⟩ = false := by
  obtain ⟨r, rfl, hb, _, _, _⟩ := own_form h.2.2.2 (by omega)
  have hne := own_apart h.2.2.2 h.2.2.1 (by decide)
  refine ⟨r, rfl, fun e => hne (by rw [e]; rfl), hb, ?_, h.2.2.2.frozenAt j⟩
  rw [h.2.2.2.cellAt j (by omega)]
  exact wordsV_get l j (by have := h.count; omega)
theorem Mask.grown {row : Option Nat} (h : Mask w B g A k c l) (hg : w.grownBy w' row) (h1 : row ≠ some g) (h2 : A.map (·.block) = none ∨ A.map (·.block) ≠ row) : Mask w' B g A k c l := by
  refine ⟨h.1, h.2.1, h.2.2.1.grown hg (fun e => h1 e.symm), h.2.2.2.kept hg ?_⟩
  cases A with
  | none => exact .inl rfl
  | some a => exact .inr (by simpa [Value.ownBlock] using h2)
theorem Mask.grow (h : Mask w B g A k c l) (hg : w.grownBy w' none) : Mask w' B g A k c l := h.grown hg (by simp) (by cases A <;> simp)
theorem Mask.drewN (h : Mask w B g A k c l) (m : Nat) : Mask (w.drewN m) B g A k c l := h
theorem Mask.lower (h : Mask w B g A k c l) (hB : B' ≤ B) : Mask w B' g A k c l := ⟨h.1, by have := h.2.1; omega, h.2.2.1, own_lower h.2.2.2 hB⟩
theorem Mask.small (h : Mask w B g A k c l) : l.length ≤ 2097152 := h.1
/-- one word more as it must be. -/
theorem Mask.put {r j : Nat} {l' : List Bool} (h : Mask w B g (some ⟨r, 0, none⟩) k c l) (hl : l'.length = l.length) (hj : j < k) (hw : ∀ i, i < k → i ≠ j → word l' i = word l i) :
    Mask (w.setCell ⟨r, j, none⟩ (.int .u64 ((word l' j : Nat) : Int))) B g (some ⟨r, 0, none⟩) k c l' := by
  have hk := h.count
  have hn : nw l' = nw l := by unfold nw; rw [hl]
  have hne := own_apart h.2.2.2 h.2.2.1 (by decide)
  have hst := h.2.2.2.stored j (.int .u64 ((word l' j : Nat) : Int))
  have hset : (wordsV l).set j (.int .u64 ((word l' j : Nat) : Int)) = wordsV l' := by
    apply List.ext_getElem?
    intro i
    rw [List.getElem?_set]
    by_cases hi : i < k
    · rw [wordsV_get l' i (by omega), wordsV_get l i (by omega), wordsV_length]
      by_cases e : j = i
      · subst e; rw [if_pos rfl, if_pos (by omega)]
      · rw [if_neg e, hw i hi (Ne.symm e)]
    · have e : j ≠ i := by omega
      rw [if_neg e, List.getElem?_eq_none (by rw [wordsV_length]; omega), List.getElem?_eq_none (by rw [wordsV_length]; omega)]
  rw [hset] at hst
  refine ⟨by rw [hl]; exact h.1, h.2.1, ?_, hst.1⟩
  rw [hl]
  exact h.2.2.1.grown hst.2 (by intro e; exact hne (by simpa [Value.ownBlock] using e.symm))
theorem Mask.put_grown {r j : Nat} (h : Mask w B g (some ⟨r, 0, none⟩) k c l) (u : Value) : w.grownBy (w.setCell ⟨r, j, none⟩ u) (some r) :=
  grown_store (grown_refl w _) (.inl rfl) u
end

/-- p points to a Mask of these truths, or to none. -/
def MaskP (w : World) (B : Nat) (p : Option Addr) (l : List Bool) : Prop := (p = none ∧ l = []) ∨ ∃ g A k c, p = some ⟨g, 0, none⟩ ∧ Mask w B g A k c l
theorem MaskP.nil (w : World) (B : Nat) : MaskP w B none [] := .inl ⟨rfl, rfl⟩
theorem Mask.p {w : World} {B g k c : Nat} {A : Option Addr} {l : List Bool} (h : Mask w B g A k c l) : MaskP w B (some ⟨g, 0, none⟩) l := .inr ⟨g, A, k, c, rfl, h⟩
theorem MaskP.drewN {w : World} {B : Nat} {p : Option Addr} {l : List Bool} (h : MaskP w B p l) (m : Nat) : MaskP (w.drewN m) B p l := h
theorem MaskP.grow {w w' : World} {B : Nat} {p : Option Addr} {l : List Bool} (h : MaskP w B p l) (hg : w.grownBy w' none) : MaskP w' B p l := by
  rcases h with h | ⟨g, A, k, c, e, h⟩
  · exact .inl h
  · exact .inr ⟨g, A, k, c, e, h.grow hg⟩
theorem MaskP.lower {w : World} {B B' : Nat} {p : Option Addr} {l : List Bool} (h : MaskP w B p l) (hB : B' ≤ B) : MaskP w B' p l := by
  rcases h with h | ⟨g, A, k, c, e, h⟩
  · exact .inl h
  · exact .inr ⟨g, A, k, c, e, h.lower hB⟩
theorem MaskP.small {w : World} {B : Nat} {p : Option Addr} {l : List Bool} (h : MaskP w B p l) : l.length ≤ 2097152 := by
  rcases h with ⟨_, rfl⟩ | ⟨g, A, k, c, e, h⟩
  · simp
  · exact h.1

theorem len_any (p : Option Addr) (l : List Bool) (B : Nat) (w : World) (h : MaskP w B p l) :
    Calls Try.prog 46 #[.pointer p] w fun e w' => e = .returned (.int .i64 (l.length : Nat)) ∧ w' = w := by
  rcases h with ⟨rfl, rfl⟩ | ⟨g, A, k, c, rfl, h⟩
  · go_enter Try.func46, Try.ntmps46
    go_wp2
    go_ret
    exact ⟨rfl, rfl⟩
  · have hc := h.len_cell
    have H := Lib.hid h
    clear h
    go_enter Try.func46, Try.ntmps46
    go_wp2
    go_ret
    exact ⟨rfl, rfl⟩
theorem row_nil (w : World) : Calls Try.prog 48 #[.pointer none] w fun e w' => e = .returned (.slice none 0 0) ∧ w' = w := by
  go_enter Try.func48, Try.ntmps48
  go_wp2
  go_ret
  exact ⟨rfl, rfl⟩
theorem row_any (g : Nat) (A : Option Addr) (k c : Nat) (l : List Bool) (B : Nat) (w : World) (h : Mask w B g A k c l) :
    Calls Try.prog 48 #[.pointer (some ⟨g, 0, none⟩)] w fun e w' => e = .returned (.slice A k c) ∧ w' = w := by
  have hc := h.row_cell
  have H := Lib.hid h
  clear h
  go_enter Try.func48, Try.ntmps48
  go_wp2
  go_ret
  exact ⟨rfl, rfl⟩
/-- is there an i-th truth? -/
def hasB (l : List Bool) (i : Int) : Bool := decide (0 ≤ i ∧ i < l.length)
theorem has_any (p : Option Addr) (l : List Bool) (i : Int) (B : Nat) (w : World) (h : MaskP w B p l) :
    Calls Try.prog 47 #[.pointer p, .int .i64 i] w fun e w' => e = .returned (.bool (hasB l i)) ∧ w' = w := by
  have H := Lib.hid h
  clear h
  by_cases h0 : 0 ≤ i
  · go_enter Try.func47, Try.ntmps47
    go_wp2_with (go_at_call 46; refine (len_any _ l _ _ H.out).mono ?_; rintro e w' ⟨rfl, rfl⟩)
    all_goals go_ret
    all_goals exact ⟨ret_truth (by unfold hasB; simp [h0]), rfl⟩
  · go_enter Try.func47, Try.ntmps47
    go_wp2_with (go_at_call 46; refine (len_any _ l _ _ H.out).mono ?_; rintro e w' ⟨rfl, rfl⟩)
    all_goals go_ret
    all_goals exact ⟨ret_truth (by unfold hasB; simp; intro _; omega), rfl⟩
end Go.Proofs.Ytabkgdichlebmaa
