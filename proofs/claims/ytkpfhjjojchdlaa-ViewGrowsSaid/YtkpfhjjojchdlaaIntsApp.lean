/-
  SLICES OF WHOLE NUMBERS: append to a row of the call's own, from whatever source; the two cuts, of such a row and of one that is read.
-/
import Derived.Test.YtkpfhjjojchdlaaRowI
import Derived.Maps.AppendAt
import Derived.Laws.AppendOwnNone
namespace Go.Proofs.Ytkpfhjjojchdlaa
open Go.ChangeShapes Go.WideShapes Go.ChangeAt Go.RowKit
set_option linter.unusedVariables false
set_option maxRecDepth 100000

/-! ### append to a row of the call's own, from whatever source -/
theorem run_append_ints {w : World} {base n c m c' B : Nat} {A A' : Option Addr} {xs ys : List Int} (hown : OwnI w base A n c xs) (hsrc : Nums w B A' m ys) (hnone : A' = none → m = 0 ∧ c' = 0) (hb : base ≤ w.heap.size) (hle : n + m ≤ 4194304) (ty : TypeId) :
    ∃ A1 c1 w1, (Builtin.append_ #[22, 22] ty #[.slice A n c, .slice A' m c']).run Try.prog w = .ok (.slice A1 (n + m) c1) w1 ∧ OwnI w1 base A1 (n + m) c1 (xs ++ ys) ∧ w.grownBy w1 (A.map (·.block)) := by
  obtain ⟨i0, hi, hz0, hz1, hz2⟩ := info_parts info_int
  cases A' with
  | none =>
    obtain ⟨rfl, rfl⟩ := hnone rfl
    have hrun := run_append_owned_none (P := Try.prog) (w := w) base 22 ty 3 i0 1 Try.underlying22 hi _ n _ hown.2
    have hy : ys = [] := List.eq_nil_of_length_eq_zero hsrc.1
    subst hy
    rw [Nat.add_zero, List.append_nil]
    exact ⟨A, c, w, hrun, hown, grown_refl _ _⟩
  | some ad =>
    have hnews : ∀ j u, (intV ys)[j]? = some u → w.cell? (ad.add j) = some u := by
      intro j u hu
      have hj : j < ys.length := by rw [← intV_length]; exact (List.getElem?_eq_some_iff.1 hu).1
      obtain ⟨b, o, e, _, hc⟩ := hsrc.2 (by have := hsrc.1; omega)
      injection e with e
      subst e
      rw [Addr.add_lit, hc j (by have := hsrc.1; omega), ← intV_get ys j hj, hu]
    obtain ⟨v', w', hr, h2, h3, h4, h5⟩ := run_append_own_at (P := Try.prog) (w := w) base 22 ty 3 i0 _ 1 8 Try.underlying22 hi hz0 hz1 hz2 rfl (by omega) _ n _ hown.2 ad m c' (intV ys) (by rw [intV_length, hsrc.1]; omega) hnews (intV_one _) (by simp only [maxLen]; omega) (by omega) hb
    obtain ⟨A1, c1, rfl⟩ := own_slice1 h2
    refine ⟨A1, c1, w', hr, ⟨by rw [List.length_append, hown.1, hsrc.1], ?_⟩, by rw [map_own] at h3; exact h3⟩
    have e : intV (xs ++ ys) = intV xs ++ intV ys := by simp [intV]
    rw [e]
    exact h2
/-- .. as one step of a region that draws its order. -/
theorem step_append_ints {ops : Array Oper} {o : Oper} {a : Act} {w : World} {K : Act → World → Prop} {Q : Exit → Act → World → Prop} {E : Prop} {base n c m c' B : Nat} {A A' : Option Addr} {xs ys : List Int} (hgd : o.guard = none) (d s : Operand)
    (ho : o.op = .call { callee := .builtin .append, args := #[d, s], argTypes := #[22, 22] }) (hd : a.eval d = .slice A n c) (hs : a.eval s = .slice A' m c') (hown : OwnI w base A n c xs) (hsrc : Nums w B A' m ys) (hnone : A' = none → m = 0 ∧ c' = 0) (hb : base ≤ w.heap.size) (hle : n + m ≤ 4194304)
    (hK : ∀ A1 c1 w1, Hid (OwnI w1 base A1 (n + m) c1 (xs ++ ys)) → Hid (w.grownBy w1 (A.map (·.block))) → K (a.put o.dst (.slice A1 (n + m) c1)) w1) : if Region.wanted o (yielded ops a.tmps) = true then Oper.wp Try.prog o a w K Q else E := by
  have hw : Region.wanted o (yielded ops a.tmps) = true := by simp [Region.wanted, hgd]
  rw [if_pos hw]
  obtain ⟨A1, c1, w1, hrun, h1, h2⟩ := run_append_ints hown hsrc hnone hb hle o.type
  unfold Oper.wp
  simp [execOp, ho, resolve, invoke, builtin, hd, hs, hrun, Result.andThen]
  exact hK _ _ _ (Lib.hid h1) (Lib.hid h2)

/-! ### the two cuts of a row of the call's own -/
theorem size_int (w : World) : (sizeOf (Try.prog.elem 22)).run Try.prog w = .ok 1 w := by kernel_rfl
theorem own_none {w : World} {base n c : Nat} {xs : List Int} (h : OwnI w base none n c xs) : n = 0 ∧ c = 0 := by
  rcases h.2.2 with ⟨e, h0⟩ | ⟨_, _, _, e, _⟩
  · injection e with _ _ e; exact ⟨h0, e⟩
  · cases e
theorem own_some {w : World} {base n c : Nat} {A : Addr} {xs : List Int} (h : OwnI w base (some A) n c xs) : ∃ r, A = ⟨r, 0, none⟩ ∧ r < w.heap.size ∧ n ≤ c := by
  rcases h.2.2 with ⟨e, _⟩ | ⟨g, cap, cur, e, _, hg, hc, _⟩
  · cases e
  · injection e with e1 _ e3
    injection e1 with e1
    subst e3
    exact ⟨g, e1, (Array.getElem?_eq_some_iff.1 hg).1, hc⟩
theorem own_head {w : World} {base n c k : Nat} {A : Option Addr} {xs : List Int} (h : OwnI w base A n c xs) (hk : k ≤ n) :
    ∃ A2 c2, (∀ w' : World, (Instr.slice 22 (.slice A n c) none (some (.int .i64 (k : Int))) none).run Try.prog w' = .ok (.slice A2 k c2) w') ∧ Nums w w.heap.size A2 k (xs.take k) ∧ (A2 = none → k = 0 ∧ c2 = 0) := by
  have hkc : k ≤ c := by
    cases A with
    | none => have := own_none h; omega
    | some A => obtain ⟨_, _, _, h1⟩ := own_some h; omega
  refine ⟨if c = 0 then A else A.map (·.add (0 * 1)), c, fun w' => ?_, ?_, ?_⟩
  · rw [run_slice_h (P := Try.prog) (w := w') (t := 22) (ht := Try.underlying22) (kh := .i64) (h := (k : Int)) (h0 := by omega) (h2 := by omega), size_int]
    simp only [Result.andThen, sliced, Int.toNat_natCast, Nat.sub_zero]
  · refine ⟨by rw [List.length_take, h.1]; omega, fun h0 => ?_⟩
    obtain ⟨b, o, e, hb, hc⟩ := h.nums.2 (by omega)
    rw [if_neg (by omega)]
    subst e
    refine ⟨b, o, by simp [Addr.add], hb, fun j hj => ?_⟩
    rw [hc j (by omega)]
    simp [List.getD, hj]
  · intro e
    cases A with
    | none => have := own_none h; omega
    | some A => split at e <;> simp at e
theorem own_tail {w : World} {base n c k : Nat} {A : Option Addr} {xs : List Int} (h : OwnI w base A n c xs) (hk : k ≤ n) :
    ∃ A2 c2, (∀ w' : World, (Instr.slice 22 (.slice A n c) (some (.int .i64 (k : Int))) none none).run Try.prog w' = .ok (.slice A2 (n - k) c2) w') ∧ Nums w w.heap.size A2 (n - k) (xs.drop k) ∧ (A2 = none → n - k = 0 ∧ c2 = 0) := by
  refine ⟨if c = k then A else A.map (·.add (k * 1)), c - k, fun w' => ?_, ?_, ?_⟩
  · rw [run_slice_l (P := Try.prog) (w := w') (t := 22) (ht := Try.underlying22) (kl := .i64) (l := (k : Int)) (h0 := by omega) (h1 := by omega), size_int]
    simp only [Result.andThen, sliced, Int.toNat_natCast]
  · refine ⟨by rw [List.length_drop, h.1], fun h0 => ?_⟩
    obtain ⟨b, o, e, hb, hc⟩ := h.nums.2 (by omega)
    subst e
    obtain ⟨_, _, _, h1⟩ := own_some h
    rw [if_neg (by omega)]
    refine ⟨b, o + k, by simp [Addr.add], hb, fun j hj => ?_⟩
    have := hc (k + j) (by omega)
    rw [show o + (k + j) = o + k + j by omega] at this
    rw [this]
    simp [List.getD, List.getElem?_drop]
  · intro e
    cases A with
    | none => have := own_none h; omega
    | some A => split at e <;> simp at e

/-! ### .. of a row that is read -/
/-- a slice that holds nothing may be nil: then it has no capacity. -/
theorem nums_head {w : World} {n c k : Nat} {A : Option Addr} {xs : List Int} (h : Nums w w.heap.size A n xs) (hn : n ≤ c) (hA : A = none → c = 0) (hk : k ≤ n) :
    ∃ A2 c2, (∀ w' : World, (Instr.slice 22 (.slice A n c) none (some (.int .i64 (k : Int))) none).run Try.prog w' = .ok (.slice A2 k c2) w') ∧ Nums w w.heap.size A2 k (xs.take k) ∧ (A2 = none → k = 0 ∧ c2 = 0) := by
  refine ⟨if c = 0 then A else A.map (·.add (0 * 1)), c, fun w' => ?_, ?_, ?_⟩
  · rw [run_slice_h (P := Try.prog) (w := w') (t := 22) (ht := Try.underlying22) (kh := .i64) (h := (k : Int)) (h0 := by omega) (h2 := by omega), size_int]
    simp only [Result.andThen, sliced, Int.toNat_natCast, Nat.sub_zero]
  · refine ⟨by rw [List.length_take, h.1]; omega, fun h0 => ?_⟩
    obtain ⟨b, o, e, hb, hc⟩ := h.2 (by omega)
    rw [if_neg (by omega)]
    subst e
    refine ⟨b, o, by simp [Addr.add], hb, fun j hj => ?_⟩
    rw [hc j (by omega)]
    simp [List.getD, hj]
  · intro e
    cases A with
    | none => have := hA rfl; omega
    | some A => split at e <;> simp at e
theorem nums_tail {w : World} {n c k : Nat} {A : Option Addr} {xs : List Int} (h : Nums w w.heap.size A n xs) (hn : n ≤ c) (hA : A = none → c = 0) (hk : k ≤ n) :
    ∃ A2 c2, (∀ w' : World, (Instr.slice 22 (.slice A n c) (some (.int .i64 (k : Int))) none none).run Try.prog w' = .ok (.slice A2 (n - k) c2) w') ∧ Nums w w.heap.size A2 (n - k) (xs.drop k) ∧ (A2 = none → n - k = 0 ∧ c2 = 0) := by
  refine ⟨if c = k then A else A.map (·.add (k * 1)), c - k, fun w' => ?_, ?_, ?_⟩
  · rw [run_slice_l (P := Try.prog) (w := w') (t := 22) (ht := Try.underlying22) (kl := .i64) (l := (k : Int)) (h0 := by omega) (h1 := by omega), size_int]
    simp only [Result.andThen, sliced, Int.toNat_natCast]
  · refine ⟨by rw [List.length_drop, h.1], fun h0 => ?_⟩
    obtain ⟨b, o, e, hb, hc⟩ := h.2 (by omega)
    subst e
    rw [if_neg (by omega)]
    refine ⟨b, o + k, by simp [Addr.add], hb, fun j hj => ?_⟩
    have := hc (k + j) (by omega)
    rw [show o + (k + j) = o + k + j by omega] at this
    rw [this]
    simp [List.getD, List.getElem?_drop]
  · intro e
    cases A with
    | none => have := hA rfl; omega
    | some A => split at e <;> simp at e
theorem ints_empty {w : World} {base g : Nat} (h : w.heap[g]? = some (.cells #[] 3 (0, 0))) (hb : base ≤ g) : OwnI w base (some ⟨g, 0, none⟩) 0 0 [] :=
  ⟨rfl, by rfl, .inr ⟨g, 0, #[], rfl, hb, h, Nat.le_refl _, by unfold maxLen; omega, by simp, by simp [intV]⟩⟩
theorem ints_one {w : World} {g : Nat} {z : Int} (h : w.cell? ⟨g, 0, none⟩ = some (.int .i64 z)) : Nums w w.heap.size (some ⟨g, 0, none⟩) 1 [z] :=
  ⟨rfl, fun _ => ⟨g, 0, rfl, World.block_lt_of_cell? w _ h, fun k hk => by
    obtain rfl : k = 0 := by omega
    exact h⟩⟩
theorem ints_as {w : World} {base n n' c : Nat} {A : Option Addr} {xs ys : List Int} (hn : n = n') (hx : xs = ys) (h : OwnI w base A n c xs) : OwnI w base A n' c ys := by subst hn; subst hx; exact h
/-- a row of numbers that make has made. -/
theorem ints_zeros (w : World) (m : Nat) (hm : m ≤ 2097152) : ∃ Z : Array Value, (∀ W : World, (Instr.makeSlice 22 (.int .i64 (m : Int)) (.int .i64 (m : Int))).run Try.prog W = .ok (.slice (some ⟨W.heap.size, 0, none⟩) m m) (W.alloc (.cells Z 3))) ∧
    ∀ (W : World) (base : Nat), base ≤ W.heap.size → OwnI (W.alloc (.cells Z 3)) base (some ⟨W.heap.size, 0, none⟩) m m (List.replicate m 0) := by
  obtain ⟨i0, hi, hz0, hz1, hz2⟩ := info_parts info_int
  have hZ : (madeCells (Value.int .i64 0).cells (m * i0.size)).toList = List.replicate m (.int .i64 0) := by
    rw [hz1]
    have hc : (Value.int .i64 0).cells = #[.int .i64 0] := rfl
    rw [hc]
    apply List.ext_getElem
    · simp [madeCells]
    · intro i h1 h2
      simp [madeCells, Nat.mod_one]
  refine ⟨madeCells (Value.int .i64 0).cells (m * i0.size), fun W => ?_, fun W base hb => ?_⟩
  · have h := run_make (P := Try.prog) W 22 3 i0 _ Try.underlying22 hi hz0 .i64 .i64 (m : Int) (m : Int) (by omega) (by omega) (by rw [hz2]; omega) (by omega)
    simpa using h
  · have hs : (madeCells (Value.int .i64 0).cells (m * i0.size)).size = m := by rw [← Array.length_toList, hZ, List.length_replicate]
    refine ⟨by simp, by simp [intV], .inr ⟨W.heap.size, m, _, rfl, hb, heap_alloc_new W _, Nat.le_refl _, by unfold maxLen; omega, by omega, ?_⟩⟩
    rw [hZ]
    simp [intV]
end Go.Proofs.Ytkpfhjjojchdlaa
