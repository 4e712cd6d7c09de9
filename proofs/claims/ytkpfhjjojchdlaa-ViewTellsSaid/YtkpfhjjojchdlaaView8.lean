/-
  Layer 8, plain: views: right, where their cells stand, and what P803 makes of them.
-/
import Derived.Test.YtkpfhjjojchdlaaShape7
namespace Go.Proofs.Ytkpfhjjojchdlaa
open Go.ChangeShapes Go.WideShapes Go.ChangeAt Go.RowKit
set_option linter.unusedVariables false
set_option maxRecDepth 100000

structure Vw where
  sh : List Int
  st : List Int
  off : Int
def zeroV : Vw := ⟨[], [], 0⟩
def strideIn (z : Int) : Prop := -1048576 ≤ z ∧ z ≤ 1048576
def rightP (v : Vw) : Prop := full v.sh = true ∧ v.st.length = v.sh.length ∧ 0 ≤ v.off ∧ v.off ≤ 16777216 ∧ ∀ i, i < v.st.length → -1048576 ≤ v.st.getD i 0 ∧ v.st.getD i 0 ≤ 1048576
instance (v : Vw) : Decidable (rightP v) := by unfold rightP; infer_instance
def rightV (v : Vw) : Bool := decide (rightP v)
theorem rightV_all {v : Vw} (h : rightV v = true) : rightP v := of_decide_eq_true h
theorem rightV_yes {v : Vw} (h : rightP v) : rightV v = true := decide_eq_true h
theorem rightV_not {v : Vw} (h : ¬ rightP v) : rightV v = false := decide_eq_false h
theorem rightV_dims {v : Vw} (h : rightV v = true) : v.sh.length ≤ 6 := (right_all (full_all (rightV_all h).1).1).2
theorem rightV_len {v : Vw} (h : rightV v = true) {i : Nat} (hi : i < v.sh.length) : 0 ≤ v.sh.getD i 0 ∧ v.sh.getD i 0 ≤ 1048576 := right_at (full_all (rightV_all h).1).1 hi
theorem rightV_str {v : Vw} (h : rightV v = true) {i : Nat} (hi : i < v.sh.length) : -1048576 ≤ v.st.getD i 0 ∧ v.st.getD i 0 ≤ 1048576 := (rightV_all h).2.2.2.2 i (by rw [(rightV_all h).2.1]; exact hi)
/-- the view, if it is right. -/
def fineV (v : Vw) : Vw × Bool := if rightV v = true then (v, true) else (zeroV, false)
theorem fine_yes {v : Vw} (h : rightV v = true) : fineV v = (v, true) := if_pos h
theorem fine_no {v : Vw} (h : rightV v = false) : fineV v = (zeroV, false) := if_neg (by rw [h]; exact Bool.false_ne_true)
/-- how many cells a right view has. -/
def cellsV (v : Vw) : Int := sizeV v.sh 1048576
def newV (s : List Int) : Vw × Bool := if strB s = true then fineV ⟨s, stridesL s, 0⟩ else (zeroV, false)

/-! ### where cells stand -/
def offE (v : Vw) (at' : List Int) : Nat → Int
  | 0 => v.off
  | k + 1 => offE v at' k + at'.getD k 0 * v.st.getD k 0
def offB (v : Vw) (at' : List Int) : Bool := rightV v && hasB v.sh at'
def offV (v : Vw) (at' : List Int) : Int := if offB v at' = true then offE v at' v.sh.length else 0
/-- a product of a number below 2^20 and a stride. -/
theorem times_in {a z : Int} (h1 : 0 ≤ a) (h2 : a ≤ 1048576) (h3 : -1048576 ≤ z) (h4 : z ≤ 1048576) : -1099511627776 ≤ a * z ∧ a * z ≤ 1099511627776 := by
  have e1 := Int.mul_le_mul_of_nonneg_left h4 h1
  have e2 := Int.mul_le_mul_of_nonneg_left h3 h1
  omega
theorem offE_in {v : Vw} {at' : List Int} (h : offB v at' = true) : ∀ k, k ≤ v.sh.length → -1099511627776 * k ≤ offE v at' k ∧ offE v at' k ≤ 16777216 + 1099511627776 * k
  | 0, _ => by
    unfold offB at h
    simp only [Bool.and_eq_true] at h
    have := (rightV_all h.1).2.2
    rw [offE]
    omega
  | k + 1, hk => by
    have ih := offE_in h k (by omega)
    unfold offB at h
    simp only [Bool.and_eq_true] at h
    have h1 := (has_all h.2).2.2 k (by omega)
    have h2 := rightV_len h.1 (i := k) (by omega)
    have h3 := rightV_str h.1 (i := k) (by omega)
    have h4 := times_in h1.1 (by omega) h3.1 h3.2
    rw [offE]
    omega
def lowE (v : Vw) : Nat → Int
  | 0 => v.off
  | k + 1 => lowE v k + min ((v.sh.getD k 0 - 1) * v.st.getD k 0) 0
def highE (v : Vw) : Nat → Int
  | 0 => v.off
  | k + 1 => highE v k + max ((v.sh.getD k 0 - 1) * v.st.getD k 0) 0
def someB (v : Vw) : Bool := rightV v && decide (cellsV v ≠ 0)
def lowV (v : Vw) : Int := if someB v = true then lowE v v.sh.length else 0
def highV (v : Vw) : Int := if someB v = true then highE v v.sh.length else 0
theorem cells_right {v : Vw} (h : rightV v = true) : cellsV v = prodL v.sh := size_yes (rightV_all h).1
theorem some_ones {v : Vw} (h : someB v = true) : ∀ i, i < v.sh.length → 1 ≤ v.sh.getD i 0 := fun i hi => by
  unfold someB at h
  simp only [Bool.and_eq_true, decide_eq_true_eq] at h
  have h1 := (rightV_len h.1 hi).1
  by_cases e : v.sh.getD i 0 = 0
  · exfalso
    refine h.2 ?_
    rw [cells_right h.1]
    exact prodL_zero (by rw [← e]; exact getD_mem hi)
  · omega
theorem lowhigh_in {v : Vw} (h : someB v = true) : ∀ k, k ≤ v.sh.length → -1099511627776 * k ≤ lowE v k ∧ lowE v k ≤ 16777216 ∧ 0 ≤ highE v k ∧ highE v k ≤ 16777216 + 1099511627776 * k
  | 0, _ => by
    have h' := h
    unfold someB at h'
    simp only [Bool.and_eq_true] at h'
    have := (rightV_all h'.1).2.2
    rw [lowE, highE]
    omega
  | k + 1, hk => by
    have ih := lowhigh_in h k (by omega)
    have h1 := some_ones h k (by omega)
    unfold someB at h
    simp only [Bool.and_eq_true] at h
    have h2 := rightV_len h.1 (i := k) (by omega)
    have h3 := rightV_str h.1 (i := k) (by omega)
    have h4 := times_in (a := v.sh.getD k 0 - 1) (by omega) (by omega) h3.1 h3.2
    rw [lowE, highE]
    omega

/-! ### other views -/
def axisB (v : Vw) (i : Int) : Bool := rightV v && decide (0 ≤ i ∧ i < v.sh.length)
theorem axis_all {v : Vw} {i : Int} (h : axisB v i = true) : rightV v = true ∧ 0 ≤ i ∧ i < v.sh.length := by
  unfold axisB at h
  simp only [Bool.and_eq_true, decide_eq_true_eq] at h
  exact h
def setV (v : Vw) (i : Nat) (n z off : Int) : Vw := ⟨v.sh.set i n, v.st.set i z, off⟩
def sliceB (v : Vw) (i f n p : Int) : Bool := axisB v i && decide (0 ≤ n ∧ n ≤ 1048576) && (decide (n = 0) || decide (0 ≤ f ∧ f < v.sh.getD i.toNat 0 ∧ -1048576 ≤ p ∧ p ≤ 1048576 ∧ 0 ≤ f + (n - 1) * p ∧ f + (n - 1) * p < v.sh.getD i.toNat 0)) &&
  decide (-1048576 ≤ p ∧ p ≤ 1048576 ∧ -1048576 ≤ p * v.st.getD i.toNat 0 ∧ p * v.st.getD i.toNat 0 ≤ 1048576)
def sliceV (v : Vw) (i f n p : Int) : Vw × Bool := if sliceB v i f n p = true then fineV (setV v i.toNat n (p * v.st.getD i.toNat 0) (if n = 0 then v.off else v.off + f * v.st.getD i.toNat 0)) else (zeroV, false)
def flipV (v : Vw) (i : Int) : Vw × Bool := if axisB v i = true then fineV (setV v i.toNat (v.sh.getD i.toNat 0) (-v.st.getD i.toNat 0) (if 0 < v.sh.getD i.toNat 0 then v.off + (v.sh.getD i.toNat 0 - 1) * v.st.getD i.toNat 0 else v.off)) else (zeroV, false)
def permV (v : Vw) (q : List Int) : Vw × Bool := if (rightV v && permB v.sh q) = true then fineV ⟨permL v.sh q, q.map (fun a => v.st.getD a.toNat 0), v.off⟩ else (zeroV, false)
def dropV (v : Vw) (i x : Int) : Vw × Bool := if (axisB v i && decide (0 ≤ x ∧ x < v.sh.getD i.toNat 0)) = true then fineV ⟨withoutL v.sh i, v.st.take i.toNat ++ v.st.drop (i.toNat + 1), v.off + x * v.st.getD i.toNat 0⟩ else (zeroV, false)
def putL (l : List Int) (i : Nat) (z : Int) : List Int := l.take i ++ [z] ++ l.drop i
def growV (v : Vw) (i n : Int) : Vw × Bool := if (rightV v && withB v.sh i n) = true then fineV ⟨withL v.sh i n, putL v.st i.toNat 0, v.off⟩ else (zeroV, false)
def windowV (v : Vw) (i x : Int) : Vw × Bool := if (axisB v i && decide (1 ≤ x ∧ x ≤ v.sh.getD i.toNat 0) && withB v.sh (i + 1) x) = true then
  fineV ⟨(withL v.sh (i + 1) x).set i.toNat (v.sh.getD i.toNat 0 - x + 1), putL v.st (i.toNat + 1) (v.st.getD i.toNat 0), v.off⟩ else (zeroV, false)
/-- the product of the lengths behind axis i. -/
def behE (v : Vw) : Nat → Int
  | 0 => 1
  | j + 1 => behE v j * v.sh.getD (v.sh.length - 1 - j) 0
def denseP (v : Vw) (x : Nat) : Prop := ∀ j, j < x → v.sh.getD (v.sh.length - 1 - j) 0 = 1 ∨ v.st.getD (v.sh.length - 1 - j) 0 = behE v j
instance (v : Vw) (x : Nat) : Decidable (denseP v x) := by unfold denseP; infer_instance
def denseB (v : Vw) : Bool := rightV v && (decide (cellsV v = 0) || decide (denseP v v.sh.length))
def shapeV (v : Vw) (s : List Int) : Vw × Bool := if (denseB v && full s && decide (sizeV s 1048576 = cellsV v) && (newV s).2) = true then fineV ⟨(newV s).1.sh, (newV s).1.st, v.off⟩ else (zeroV, false)
/-- where all cells stand. -/
def offsL (v : Vw) : List Int := (List.range (cellsV v).toNat).map fun k : Nat => offE v (atL v.sh (k : Int)) v.sh.length
end Go.Proofs.Ytkpfhjjojchdlaa
