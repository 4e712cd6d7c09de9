/-
  WHAT COMES IN of layer 8: views, slices of whole numbers; the walks as the rows want them.
-/
import Derived.Test.YtkpfhjjojchdlaaOpen4
import Derived.Test.YtkpfhjjojchdlaaTells8
import Derived.Test.YtkpfhjjojchdlaaSlices8
import Derived.Test.YtkpfhjjojchdlaaGrows8
import Derived.Test.YtkpfhjjojchdlaaWalk8
namespace Go.Proofs.Ytkpfhjjojchdlaa
open Go.ChangeShapes Go.WideShapes Go.ChangeAt Go.RowKit Go.Deep
set_option linter.unusedVariables false
set_option maxRecDepth 100000

section
variable {H : Type} {enc : TypeId × Value → H} {W : World} {base : Nat}
theorem open_NumsS {v : Value} {d : DataW H} {p : List MemPlace} (hv : ∃ a l c, v = .slice a l c) (h : DataW.Trod enc Try.prog W 0 (fun _ => true) true 22 v d p) :
    ∃ A n c l, v = .slice A n c ∧ NumsF W A n c l ∧ (∀ z ∈ l, I64 z) := by
  obtain ⟨A, n, c, ds, rfl, hl, hI, hA, hn, hc⟩ := open_listS (0 : Int) (fun z => [.int .i64 z]) I64 ⟨by decide, by decide⟩ Try.underlying22 int_cells (by omega) (fun _ _ _ h => part_one h) hv h
  refine ⟨A, n, c, ds, rfl, ⟨⟨hl, fun h0 => ?_⟩, open_cap Try.underlying22 h, hA⟩, fun z hz => ?_⟩
  · obtain ⟨b, off, e, hb, hcell⟩ := hc h0
    refine ⟨b, off, e, hb, fun k hk => ?_⟩
    have := hcell k hk 0 (by omega)
    simpa using this
  · obtain ⟨i, hi, rfl⟩ := List.getElem_of_mem hz
    have := hI i
    simpa [List.getD, hi] using this
theorem open_Nums8 {v : Value} {d : DataW H} {p : List MemPlace} (hv : Value.okWide Try.prog W .any base 22 v) (h : DataW.Trod enc Try.prog W 0 (fun _ => true) true 22 v d p) :
    ∃ A n c l, v = .slice A n c ∧ NumsF W A n c l ∧ (∀ z ∈ l, I64 z) := open_NumsS (okWide_slice Try.underlying22 hv) h
/-- a field that is a slice of numbers. -/
theorem open_field {n : Nat} {u : Value} {y : DataW H × List MemPlace} (h : DataW.trod enc Try.prog W 0 (fun _ => true) true n 22 [u] = some y) :
    ∃ A m c l, u = .slice A m c ∧ NumsF W A m c l := by
  have hs : ∃ a l c, u = .slice a l c := by
    rcases open_slice Try.underlying22 h with ⟨hcs, _⟩ | ⟨a, len', cap', m, nf, D, Pl, hcs, _⟩
    · injection hcs with e _; exact ⟨_, _, _, e⟩
    · injection hcs with e _; exact ⟨_, _, _, e⟩
  have hT : DataW.Trod enc Try.prog W 0 (fun _ => true) true 22 u y.1 y.2 := by
    obtain ⟨a, l, c, rfl⟩ := hs
    exact ⟨n, h⟩
  obtain ⟨A, m, c, l, e, hN, _⟩ := open_NumsS hs hT
  exact ⟨A, m, c, l, e, hN⟩
theorem view_shape : ((Try.prog.underlying 24).bind fun d => match d with | .struct fs => some (fs.toList.map fun f => (f.type, f.offset, Try.prog.cellsOf f.type)) | _ => none) = some [(22, 0, 1), (22, 1, 1), (3, 2, 1)] := by kernel_rfl
theorem view_cells : Try.prog.cellsOf 24 = 3 := by kernel_rfl
theorem open_View {v : Value} {d : DataW H} {p : List MemPlace} (hv : Value.okWide Try.prog W .any base 24 v) (h : DataW.Trod enc Try.prog W 0 (fun _ => true) true 24 v d p) :
    ∃ A n c A' n' c' s t o, v = .agg #[.slice A n c, .slice A' n' c', .int .i64 o] ∧ NumsF W A n c s ∧ NumsF W A' n' c' t ∧ I64 o := by
  obtain ⟨cs, rfl, hsz⟩ := okWide_struct Try.underlying24 hv
  obtain ⟨fuel, hf⟩ := h
  obtain ⟨hl, hp⟩ := trod_parts view_shape hf
  rw [view_cells] at hl
  have hc : (Value.agg cs).cells.toList = cs.toList := rfl
  rw [hc] at hl hp
  obtain ⟨cl⟩ := cs
  match cl, hl with
  | [u0, u1, u2], _ =>
    obtain ⟨_, _, h0⟩ := hp 0 _ _ _ rfl
    obtain ⟨_, _, h1⟩ := hp 1 _ _ _ rfl
    obtain ⟨_, _, h2⟩ := hp 2 _ _ _ rfl
    obtain ⟨A, n, c, s, rfl, hs⟩ := open_field h0
    obtain ⟨A', n', c', t, rfl, ht⟩ := open_field h1
    obtain ⟨o, rfl, i0, i1⟩ := part_int Try.underlying3 h2
    exact ⟨A, n, c, A', n', c', s, t, o, rfl, hs, ht, ⟨i0, i1⟩⟩
end
section
variable (S : ViewSays)
include S
theorem viewTells_walk (A A' Q R : Option Addr) (n c n' c' m k rn rc : Nat) (s t q l : List Int) (o x : Int) (w : World) (h : NumsF w A n c s) (h' : NumsF w A' n' c' t) (ho : I64 o) (hq : NumsF w Q m k q) (hr : NumsF w R rn rc l) (hx : I64 x) :
    Calls Try.prog 3 #[.agg #[.slice A n c, .slice A' n' c', .int .i64 o], .slice Q m k, .slice R rn rc, .int .i64 x] w fun e w' => e = .returned (.bool true) ∧ Below w.heap.size w w' := by
  refine (viewTells_any S A A' n c n' c' s t o Q R m k rn rc q l x w h h' ho hq hr hx).mono ?_
  rintro e w' ⟨rfl, hg⟩
  exact ⟨rfl, below_of_grown hg⟩
theorem viewSlices_walk (A A' Q : Option Addr) (n c n' c' m k : Nat) (s t q : List Int) (o i f N p : Int) (w : World) (h : NumsF w A n c s) (h' : NumsF w A' n' c' t) (ho : I64 o) (hq : NumsF w Q m k q) (hi : I64 i) (hf : I64 f) (hN : I64 N) (hp : I64 p) (hz : ∀ z ∈ q, I64 z) :
    Calls Try.prog 4 #[.agg #[.slice A n c, .slice A' n' c', .int .i64 o], .int .i64 i, .int .i64 f, .int .i64 N, .int .i64 p, .slice Q m k] w fun e w' => e = .returned (.bool true) ∧ Below w.heap.size w w' := by
  refine (viewSlices_any S A A' n c n' c' s t o Q m k q i f N p w h h' ho hq hi hf hN hp hz).mono ?_
  rintro e w' ⟨rfl, hg⟩
  exact ⟨rfl, below_of_grown hg⟩
theorem viewGrows_walk (A A' Q : Option Addr) (n c n' c' m k : Nat) (s t q : List Int) (o i x : Int) (w : World) (h : NumsF w A n c s) (h' : NumsF w A' n' c' t) (ho : I64 o) (hq : NumsF w Q m k q) (hi : I64 i) (hx : I64 x) :
    Calls Try.prog 5 #[.agg #[.slice A n c, .slice A' n' c', .int .i64 o], .int .i64 i, .int .i64 x, .slice Q m k] w fun e w' => e = .returned (.bool true) ∧ Below w.heap.size w w' := by
  refine (viewGrows_any S A A' n c n' c' s t o Q m k q i x w h h' ho hq hi hx).mono ?_
  rintro e w' ⟨rfl, hg⟩
  exact ⟨rfl, below_of_grown hg⟩
theorem viewCells_walk (A A' : Option Addr) (n c n' c' : Nat) (s t : List Int) (o i x : Int) (w : World) (h : NumsF w A n c s) (h' : NumsF w A' n' c' t) (ho : I64 o) (hi : I64 i) (hx : I64 x) :
    Calls Try.prog 6 #[.agg #[.slice A n c, .slice A' n' c', .int .i64 o], .int .i64 i, .int .i64 x] w fun e w' => e = .returned (.bool true) ∧ Below w.heap.size w w' := by
  refine (viewCells_any S A A' n c n' c' s t o i x w h h' ho hi hx).mono ?_
  rintro e w' ⟨rfl, hg⟩
  exact ⟨rfl, below_of_grown hg⟩
end
end Go.Proofs.Ytkpfhjjojchdlaa
