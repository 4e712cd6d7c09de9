/-
  Layer 6: append of labels, from whatever source, as one step of a region that draws its order.
-/
import Derived.Test.YtfemfkiamipipaaTab6
import Derived.Laws.AppendOwnNone
import Derived.Deep.CutBlock
import Derived.Deep.RegionHeld3
namespace Go.Proofs.Ytfemfkiamipipaa
open Go.ChangeShapes Go.WideShapes Go.ChangeAt Go.RowKit
set_option linter.unusedVariables false

theorem labV_one (l : List Lab) : ∀ u ∈ labV l, u.oneCell' = true := by
  intro u hu
  unfold labV at hu
  rw [List.mem_flatMap] at hu
  obtain ⟨x, _, hx⟩ := hu
  exact three_one _ _ _ u hx
theorem labV_app (xs ys : List Lab) : labV (xs ++ ys) = labV xs ++ labV ys := by simp [labV]
theorem labs_cells {w : World} {B m : Nat} {ad : Addr} {ys : List Lab} (h : Labs w B (some ad) m ys) : ∀ j u, (labV ys)[j]? = some u → w.cell? (ad.add j) = some u := by
  intro j u hu
  have hj : j < ys.length * 3 := by rw [← labV_length]; exact (List.getElem?_eq_some_iff.1 hu).1
  have hk : j / 3 < ys.length := by omega
  obtain ⟨b, o, e, _, h0, h1, h2⟩ := h.at_ (k := j / 3) (by have := h.1; omega)
  injection e with e
  subst e
  obtain ⟨g0, g1, g2⟩ := labV_get ys (j / 3) hk
  rw [Addr.add_lit]
  rcases (show j = j / 3 * 3 ∨ j = j / 3 * 3 + 1 ∨ j = j / 3 * 3 + 2 by omega) with e | e | e
  · rw [← e] at h0 g0; rw [h0, ← g0, hu]
  · rw [Nat.add_assoc, ← e] at h1; rw [← e] at g1; rw [h1, ← g1, hu]
  · rw [Nat.add_assoc, ← e] at h2; rw [← e] at g2; rw [h2, ← g2, hu]
theorem run_append_labs {t e : TypeId} {i0 : TypeInfo} {z : Value} {b0 : Nat} (ht : Try.prog.underlying t = some (.slice e)) (hi : Try.prog.info? e = some i0) (hz0 : i0.zero = some z) (hz1 : i0.size = 3) (hz2 : i0.bytes = 32) (hzc : z.cells.size = 3)
    {w : World} {base n c m c' B : Nat} {A A' : Option Addr} {xs ys : List Lab} (hown : OwnL w base e A n c xs) (hsrc : Labs w B A' m ys) (hnone : A' = none → m = 0 ∧ c' = 0) (hb : base ≤ w.heap.size) (hle : n + m ≤ 4194304) (ty : TypeId) :
    ∃ A1 c1 w1, (Builtin.append_ #[t, t] ty #[.slice A n c, .slice A' m c']).run Try.prog w = .ok (.slice A1 (n + m) c1) w1 ∧ OwnL w1 base e A1 (n + m) c1 (xs ++ ys) ∧ w.grownBy w1 (A.map (·.block)) := by
  cases A' with
  | none =>
    obtain ⟨rfl, rfl⟩ := hnone rfl
    have hrun := run_append_owned_none (P := Try.prog) (w := w) base t ty e i0 3 ht hi _ n _ hown.2
    have hy : ys = [] := List.eq_nil_of_length_eq_zero hsrc.1
    subst hy
    rw [Nat.add_zero, List.append_nil]
    exact ⟨A, c, w, hrun, hown, grown_refl _ _⟩
  | some ad =>
    obtain ⟨v', w', hr, h2, h3, h4, h5⟩ := run_append_own_at (P := Try.prog) (w := w) base t ty e i0 _ 3 32 ht hi hz0 hz1 hz2 hzc (by omega) _ n _ hown.2 ad m c' (labV ys) (by rw [labV_length, hsrc.1]) (labs_cells hsrc) (labV_one _) (by simp only [maxLen]; omega) (by omega) hb
    obtain ⟨A1, c1, rfl⟩ := own_slice3 h2
    refine ⟨A1, c1, w', hr, ⟨by rw [List.length_append, hown.1, hsrc.1], ?_⟩, by rw [map_own] at h3; exact h3⟩
    rw [labV_app]
    exact h2
/-- .. as one step of a region that draws its order. -/
theorem step_append_labs {t e : TypeId} {i0 : TypeInfo} {z : Value} (ht : Try.prog.underlying t = some (.slice e)) (hi : Try.prog.info? e = some i0) (hz0 : i0.zero = some z) (hz1 : i0.size = 3) (hz2 : i0.bytes = 32) (hzc : z.cells.size = 3)
    {ops : Array Oper} {o : Oper} {a : Act} {w : World} {K : Act → World → Prop} {Q : Exit → Act → World → Prop} {E : Prop} {base n c m c' B : Nat} {A A' : Option Addr} {xs ys : List Lab} (hgd : o.guard = none) (d s : Operand)
    (ho : o.op = .call { callee := .builtin .append, args := #[d, s], argTypes := #[t, t] }) (hd : a.eval d = .slice A n c) (hs : a.eval s = .slice A' m c') (hown : OwnL w base e A n c xs) (hsrc : Labs w B A' m ys) (hnone : A' = none → m = 0 ∧ c' = 0) (hb : base ≤ w.heap.size) (hle : n + m ≤ 4194304)
    (hK : ∀ A1 c1 w1, Hid (OwnL w1 base e A1 (n + m) c1 (xs ++ ys)) → Hid (w.grownBy w1 (A.map (·.block))) → K (a.put o.dst (.slice A1 (n + m) c1)) w1) : if Region.wanted o (yielded ops a.tmps) = true then Oper.wp Try.prog o a w K Q else E := by
  have hw : Region.wanted o (yielded ops a.tmps) = true := by simp [Region.wanted, hgd]
  rw [if_pos hw]
  obtain ⟨A1, c1, w1, hrun, h1, h2⟩ := run_append_labs (b0 := 0) ht hi hz0 hz1 hz2 hzc hown hsrc hnone hb hle o.type
  unfold Oper.wp
  simp [execOp, ho, resolve, invoke, builtin, hd, hs, hrun, Result.andThen]
  exact hK _ _ _ (Lib.hid h1) (Lib.hid h2)
theorem ownL_empty {w : World} {base g : Nat} {e : TypeId} (h : w.heap[g]? = some (.cells #[] e (0, 0))) (hb : base ≤ g) : OwnL w base e (some ⟨g, 0, none⟩) 0 0 [] :=
  ⟨rfl, by rfl, .inr ⟨g, 0, #[], rfl, hb, h, Nat.le_refl _, by unfold maxLen; omega, by simp, by simp [labV]⟩⟩
theorem labs_one {w : World} {g : Nat} {e : TypeId} {k n : Int} {s : ByteArray} (h : Box w g e #[.int .u8 k, .int .i64 n, .string s]) : Labs w w.heap.size (some ⟨g, 0, none⟩) 1 [⟨k, n, s⟩] :=
  ⟨rfl, fun _ => ⟨g, 0, rfl, h.small, fun j hj => by
    obtain rfl : j = 0 := by omega
    exact ⟨h.get 0, h.get 1, h.get 2⟩⟩⟩
theorem ownL_none {w : World} {base n c : Nat} {e : TypeId} {xs : List Lab} (h : OwnL w base e none n c xs) : n = 0 ∧ c = 0 := by
  rcases h.2.2 with ⟨e, h0⟩ | ⟨_, _, _, e, _⟩
  · injection e with _ _ e; exact ⟨h0, e⟩
  · cases e
theorem ownL_as {w : World} {base n n' c : Nat} {e : TypeId} {A : Option Addr} {xs ys : List Lab} (hn : n = n') (hx : xs = ys) (h : OwnL w base e A n c xs) : OwnL w base e A n' c ys := by subst hn; subst hx; exact h
theorem box_dr1 (w : World) (t : TypeId) (cs : Array Value) : Box (w.alloc (.cells cs t)).drew w.heap.size t cs := heap_alloc_new w _
theorem box_dr2 (w : World) (t : TypeId) (cs : Array Value) (o : Obj) : Box ((w.alloc (.cells cs t)).alloc o).drew w.heap.size t cs := (Below.heap_alloc _ o _ (by simp)).trans (heap_alloc_new w _)
theorem box_dr3 (w : World) (t : TypeId) (cs : Array Value) (o : Obj) : Box ((w.alloc o).alloc (.cells cs t)).drew (w.heap.size + 1) t cs := by
  have h := heap_alloc_new (w.alloc o) (.cells cs t)
  rw [show (w.alloc o).heap.size = w.heap.size + 1 by simp] at h
  exact h
end Go.Proofs.Ytfemfkiamipipaa
