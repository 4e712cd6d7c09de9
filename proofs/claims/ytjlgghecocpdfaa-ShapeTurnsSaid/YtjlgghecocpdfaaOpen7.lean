/-
  WHAT COMES IN of layer 7: slices of whole numbers, with what a slice that is nil has; the walks as the rows want them.
-/
import Derived.Test.YtjlgghecocpdfaaOpen4
import Derived.Test.YtjlgghecocpdfaaTells7
import Derived.Test.YtjlgghecocpdfaaTurns7
import Derived.Test.YtjlgghecocpdfaaBack7
namespace Go.Proofs.Ytjlgghecocpdfaa
open Go.ChangeShapes Go.WideShapes Go.ChangeAt Go.RowKit Go.Deep
set_option linter.unusedVariables false

section
variable {H : Type} {enc : TypeId × Value → H} {W : World} {base : Nat}
theorem open_Nums7 {v : Value} {d : DataW H} {p : List MemPlace} (hv : Value.okWide Try.prog W .any base 22 v) (h : DataW.Trod enc Try.prog W 0 (fun _ => true) true 22 v d p) :
    ∃ A n c l, v = .slice A n c ∧ NumsF W A n c l ∧ (∀ z ∈ l, I64 z) := by
  obtain ⟨A, n, c, ds, rfl, hl, hI, hA, hn, hc⟩ := open_list (0 : Int) (fun z => [.int .i64 z]) I64 ⟨by decide, by decide⟩ Try.underlying22 int_cells (by omega) (fun _ _ _ h => part_one h) hv h
  refine ⟨A, n, c, ds, rfl, ⟨⟨hl, fun h0 => ?_⟩, open_cap Try.underlying22 h, hA⟩, fun z hz => ?_⟩
  · obtain ⟨b, off, e, hb, hcell⟩ := hc h0
    refine ⟨b, off, e, hb, fun k hk => ?_⟩
    have := hcell k hk 0 (by omega)
    simpa using this
  · obtain ⟨i, hi, rfl⟩ := List.getElem_of_mem hz
    have := hI i
    simpa [List.getD, hi] using this
end
section
variable (S : ShapeSays)
include S
theorem shapeTells_walk (A A' : Option Addr) (n c n' c' : Nat) (s t : List Int) (most p : Int) (w : World) (h : NumsF w A n c s) (h' : NumsF w A' n' c' t) (hm : I64 most) (hp : I64 p) :
    Calls Try.prog 3 #[.slice A n c, .int .i64 most, .slice A' n' c', .int .i64 p] w fun e w' => e = .returned (.bool true) ∧ Below w.heap.size w w' := by
  refine (shapeTells_any S A A' n c n' c' s t most p w h h' hm hp).mono ?_
  rintro e w' ⟨rfl, hg⟩
  exact ⟨rfl, below_of_grown hg⟩
theorem shapeTurns_walk (A A' Q : Option Addr) (n c n' c' m k : Nat) (s t q : List Int) (x y : Int) (w : World) (h : NumsF w A n c s) (h' : NumsF w A' n' c' t) (hq : NumsF w Q m k q) (hx : I64 x) (hy : I64 y) (hz : ∀ z ∈ q, I64 z) :
    Calls Try.prog 4 #[.slice A n c, .slice A' n' c', .int .i64 x, .int .i64 y, .slice Q m k] w fun e w' => e = .returned (.bool true) ∧ Below w.heap.size w w' := by
  refine (shapeTurns_any S A A' Q n c n' c' m k s t q x y w h h' hq hx hy hz).mono ?_
  rintro e w' ⟨rfl, hg⟩
  exact ⟨rfl, below_of_grown hg⟩
theorem shapeBack_walk (A A' : Option Addr) (n c n' c' : Nat) (s t : List Int) (p : Int) (w : World) (h : NumsF w A n c s) (h' : NumsF w A' n' c' t) (hp : I64 p) :
    Calls Try.prog 5 #[.slice A n c, .int .i64 p, .slice A' n' c'] w fun e w' => e = .returned (.bool true) ∧ Below w.heap.size w w' := by
  refine (shapeBack_any S A A' n c n' c' s t p w h h' hp).mono ?_
  rintro e w' ⟨rfl, hg⟩
  exact ⟨rfl, below_of_grown hg⟩
end
end Go.Proofs.Ytjlgghecocpdfaa
