/-
  Layer 8: what the walks ask of the program's own view.
-/
import Derived.Test.YtkpfhjjojchdlaaLaw8
import Derived.Test.YtkpfhjjojchdlaaRef8c
import Derived.Test.YtkpfhjjojchdlaaRef8k
import Derived.Test.YtkpfhjjojchdlaaRef8l
import Derived.Test.YtkpfhjjojchdlaaRef8m
import Derived.Test.YtkpfhjjojchdlaaRef8n
namespace Go.Proofs.Ytkpfhjjojchdlaa
open Go.ChangeShapes Go.WideShapes Go.ChangeAt Go.RowKit
set_option linter.unusedVariables false
set_option maxRecDepth 100000

/-- the numbers of a view as a call takes them: its two slices, and how long they are. -/
def ViewF (w : World) (A : Option Addr) (n c : Nat) (A' : Option Addr) (n' c' : Nat) (v : Vw) : Prop := NumsF w A n c v.sh ∧ NumsF w A' n' c' v.st ∧ n ≤ 1048576 ∧ n' ≤ 1048576
theorem ViewF.grow {w w' : World} {A A' : Option Addr} {n c n' c' : Nat} {v : Vw} (h : ViewF w A n c A' n' c' v) (hg : w.grownBy w' none) : ViewF w' A n c A' n' c' v := ⟨h.1.grow hg, h.2.1.grow hg, h.2.2⟩
def fitsB (v : Vw) (n : Int) : Bool := rightV v && (!someB v || decide (0 ≤ lowV v ∧ highV v < n))
structure ViewSays : Prop where
  new : ∀ A n c s w, NumsF w A n c s → n ≤ 1048576 → Calls Try.prog 10 #[.slice A n c] w (GaveVP (newV s) w)
  right : ∀ A n c A' n' c' v w, ViewF w A n c A' n' c' v → I64 v.off → Calls Try.prog 18 #[.agg #[.slice A n c, .slice A' n' c', .int .i64 v.off]] w (TellG (.bool (rightV v)) w)
  offset : ∀ A n c A' n' c' v B m d l w, ViewF w A n c A' n' c' v → I64 v.off → NumsF w B m d l → m ≤ 1048576 → Calls Try.prog 12 #[.agg #[.slice A n c, .slice A' n' c', .int .i64 v.off], .slice B m d] w (TellG (.tuple #[.int .i64 (offV v l), .bool (offB v l)]) w)
  bounds : ∀ A n c A' n' c' v w, ViewF w A n c A' n' c' v → I64 v.off → Calls Try.prog 14 #[.agg #[.slice A n c, .slice A' n' c', .int .i64 v.off]] w (TellG (.tuple #[.int .i64 (lowV v), .int .i64 (highV v), .bool (someB v)]) w)
  fits : ∀ A n c A' n' c' v x w, ViewF w A n c A' n' c' v → I64 v.off → I64 x → Calls Try.prog 19 #[.agg #[.slice A n c, .slice A' n' c', .int .i64 v.off], .int .i64 x] w (TellG (.bool (fitsB v x)) w)
  slice : ∀ A n c A' n' c' v i f N p w, ViewF w A n c A' n' c' v → I64 v.off → I64 i → I64 f → I64 N → I64 p → Calls Try.prog 20 #[.agg #[.slice A n c, .slice A' n' c', .int .i64 v.off], .int .i64 i, .int .i64 f, .int .i64 N, .int .i64 p] w (GaveVP (sliceV v i f N p) w)
  flip : ∀ A n c A' n' c' v i w, ViewF w A n c A' n' c' v → I64 v.off → I64 i → Calls Try.prog 22 #[.agg #[.slice A n c, .slice A' n' c', .int .i64 v.off], .int .i64 i] w (GaveVP (flipV v i) w)
  permute : ∀ A n c A' n' c' v B m d q w, ViewF w A n c A' n' c' v → I64 v.off → NumsF w B m d q → m ≤ 1048576 → (∀ z ∈ q, I64 z) → Calls Try.prog 24 #[.agg #[.slice A n c, .slice A' n' c', .int .i64 v.off], .slice B m d] w (GaveVP (permV v q) w)
  drop : ∀ A n c A' n' c' v i x w, ViewF w A n c A' n' c' v → I64 v.off → I64 i → I64 x → Calls Try.prog 26 #[.agg #[.slice A n c, .slice A' n' c', .int .i64 v.off], .int .i64 i, .int .i64 x] w (GaveVP (dropV v i x) w)
  expand : ∀ A n c A' n' c' v i x w, ViewF w A n c A' n' c' v → I64 v.off → I64 i → I64 x → Calls Try.prog 28 #[.agg #[.slice A n c, .slice A' n' c', .int .i64 v.off], .int .i64 i, .int .i64 x] w (GaveVP (growV v i x) w)
  window : ∀ A n c A' n' c' v i x w, ViewF w A n c A' n' c' v → I64 v.off → I64 i → I64 x → Calls Try.prog 30 #[.agg #[.slice A n c, .slice A' n' c', .int .i64 v.off], .int .i64 i, .int .i64 x] w (GaveVP (windowV v i x) w)
  dense : ∀ A n c A' n' c' v w, ViewF w A n c A' n' c' v → I64 v.off → Calls Try.prog 34 #[.agg #[.slice A n c, .slice A' n' c', .int .i64 v.off]] w (TellG (.bool (denseB v)) w)
  reshape : ∀ A n c A' n' c' v B m d l w, ViewF w A n c A' n' c' v → I64 v.off → NumsF w B m d l → m ≤ 1048576 → Calls Try.prog 32 #[.agg #[.slice A n c, .slice A' n' c', .int .i64 v.off], .slice B m d] w (GaveVP (shapeV v l) w)
end Go.Proofs.Ytkpfhjjojchdlaa
