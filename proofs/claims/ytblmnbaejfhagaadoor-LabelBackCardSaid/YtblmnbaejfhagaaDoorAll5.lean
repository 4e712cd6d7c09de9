/-
  Layer 5: the walks as the rows want them.
-/
import Derived.Test.YtblmnbaejfhagaaDoorOrders5
import Derived.Test.YtblmnbaejfhagaaDoorOpen5
import Derived.Test.YtblmnbaejfhagaaDoorSaid5
namespace Go.Proofs.YtblmnbaejfhagaaDoor
open Go.ChangeShapes Go.WideShapes Go.ChangeAt Go.RowKit
set_option linter.unusedVariables false

theorem labelOrders_walk (a b c : Lab) (w : World) (ha : LabIn a) (hb : LabIn b) (hc : LabIn c) (hv : Vars w) :
    Calls Tryd.prog 3 #[.agg #[.int .u8 a.k, .int .i64 a.n, .string a.s], .agg #[.int .u8 b.k, .int .i64 b.n, .string b.s], .agg #[.int .u8 c.k, .int .i64 c.n, .string c.s]] w fun e w' => e = .returned (.bool true) ∧ Below w.heap.size w w' := by
  refine (orders5_any intSays textSays tupleSays readSays showSays partsSays compareSays a.k a.n b.k b.n c.k c.n a.s b.s c.s w ha hb hc hv).mono ?_
  rintro e w' ⟨rfl, hg⟩
  exact ⟨rfl, below_of_grown hg⟩
theorem labelBack_walk (a : Lab) (s : ByteArray) (w : World) (ha : LabIn a) (hv : Vars w) :
    Calls Tryd.prog 4 #[.agg #[.int .u8 a.k, .int .i64 a.n, .string a.s], .string s] w fun e w' => e = .returned (.bool true) ∧ Below w.heap.size w w' := by
  refine (back5_any intSays textSays tupleSays readSays showSays partsSays compareSays rightSays a.k a.n a.s s w ha.1 ha.2.1 ha.2.2.1 ha.2.2.2 hv).mono ?_
  rintro e w' ⟨rfl, hg⟩
  exact ⟨rfl, below_of_grown hg⟩
end Go.Proofs.YtblmnbaejfhagaaDoor
