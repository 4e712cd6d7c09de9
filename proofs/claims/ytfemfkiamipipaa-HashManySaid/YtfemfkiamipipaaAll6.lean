/-
  Layer 6: the walks as the rows want them, whatever holds the table.
-/
import Derived.Test.YtfemfkiamipipaaNil6
namespace Go.Proofs.Ytfemfkiamipipaa
open Go.ChangeShapes Go.WideShapes Go.ChangeAt Go.RowKit
set_option linter.unusedVariables false

theorem i64_of_wf6 {z : Int} (h : (Lit.int .i64 z).wf = true) : -9223372036854775808 ≤ z ∧ z < 9223372036854775808 := by
  have h1 : IntKind.i64.min = -9223372036854775808 := by decide
  have h2 : IntKind.i64.max = 9223372036854775807 := by decide
  have hw' : -9223372036854775808 ≤ z ∧ z ≤ 9223372036854775807 := by simpa [Lit.wf, h1, h2] using h
  omega
section
variable {T : World → (Nat → Prop) → Addr → List Lab → Prop} (S : TabSays T)
include S
theorem hashPlays_walk (A A' : Option Addr) (n n' c c' : Nat) (l m : List Lab) (w : World) (h : Labs w w.heap.size A n l) (h' : Labs w w.heap.size A' n' m) (hl : ∀ i, LabIn (l.getD i noLab)) (hm : ∀ i, LabIn (m.getD i noLab)) (hn : n ≤ 9223372036854775807) (hn' : n' ≤ 9223372036854775807) :
    Calls Try.prog 3 #[.slice A n c, .slice A' n' c'] w fun e w' => e = .returned (.bool true) ∧ Below w.heap.size w w' := by
  refine (hashPlays_any S A A' n c n' c' l m w h h' hn hn' hl hm).mono ?_
  rintro e w' ⟨rfl, hg⟩
  exact ⟨rfl, below_of_grown hg⟩
theorem hashFinds_walk (A : Option Addr) (n c : Nat) (l : List Lab) (a : Lab) (w : World) (h : Labs w w.heap.size A n l) (hl : ∀ i, LabIn (l.getD i noLab)) (hn : n ≤ 9223372036854775807) (ha : LabIn a) :
    Calls Try.prog 4 #[.slice A n c, .agg #[.int .u8 a.k, .int .i64 a.n, .string a.s]] w fun e w' => e = .returned (.bool true) ∧ Below w.heap.size w w' := by
  refine (hashFinds_any S A n c l a.k a.n a.s w h hn hl ha).mono ?_
  rintro e w' ⟨rfl, hg⟩
  exact ⟨rfl, below_of_grown hg⟩
theorem hashMany_walk (f n : Int) (w : World) (hf : (Lit.int .i64 f).wf = true) (hn : (Lit.int .i64 n).wf = true) :
    Calls Try.prog 5 #[.int .i64 f, .int .i64 n] w fun e w' => e = .returned (.bool true) ∧ Below w.heap.size w w' := by
  have h1 : -9223372036854775808 ≤ f ∧ f < 9223372036854775808 := i64_of_wf6 hf
  have h2 : -9223372036854775808 ≤ n ∧ n < 9223372036854775808 := i64_of_wf6 hn
  refine (hashMany_any S f n w h1.1 h1.2 h2.1 h2.2).mono ?_
  rintro e w' ⟨rfl, hg⟩
  exact ⟨rfl, below_of_grown hg⟩
theorem hashNil_walk (N : NilSays) (a : Lab) (w : World) (ha : LabIn a) :
    Calls Try.prog 6 #[.agg #[.int .u8 a.k, .int .i64 a.n, .string a.s]] w fun e w' => e = .returned (.bool true) ∧ Below w.heap.size w w' := by
  refine (hashNil_any S N a.k a.n a.s w ha).mono ?_
  rintro e w' ⟨rfl, hg⟩
  exact ⟨rfl, below_of_grown hg⟩
end
end Go.Proofs.Ytfemfkiamipipaa
