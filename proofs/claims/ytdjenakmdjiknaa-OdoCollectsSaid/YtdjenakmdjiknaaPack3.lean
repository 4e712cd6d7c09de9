/-
  Texts of this claim, one behind the other.
-/
import Derived.BigQuiet
import Derived.Deep.QuietTactic
import Derived.Deep.CutBlock
import Derived.Deep.RegionHeld3
import Derived.Maps.AppendAt
import Derived.Test.YtdjenakmdjiknaaPack1
import Derived.Test.YtdjenakmdjiknaaPack2

/-! Layer 8, plain: views: right, where their cells stand, and what P803 makes of them. -/
section
namespace Go.Proofs.Ytdjenakmdjiknaa
open Go.ChangeShapes Go.WideShapes Go.ChangeAt Go.RowKit
set_option linter.unusedVariables false
set_option maxRecDepth 100000

structure Vw where
  sh : List Int
  st : List Int
  off : Int
def zeroV : Vw := ⟨[], [], 0⟩
def strideIn (z : Int) : Prop := -1048576 ≤ z ∧ z ≤ 1048576
def rightP (v : Vw) : Prop := full v.sh = true ∧ v.st.length = v.sh.length ∧ 0 ≤ v.off ∧ v.off ≤ 16777216 ∧ ∀ i, i < v.st.length → -1048576 ≤ v.st.getD i 0 ∧ v.st.getD i 0 ≤ 1048576
instance (v : Vw) : Decidable (rightP v) := by unfold rightP; infer_instance
def rightV (v : Vw) : Bool := decide (rightP v)
theorem rightV_all {v : Vw} (h : rightV v = true) : rightP v := of_decide_eq_true h
theorem rightV_yes {v : Vw} (h : rightP v) : rightV v = true := decide_eq_true h
theorem rightV_not {v : Vw} (h : ¬ rightP v) : rightV v = false := decide_eq_false h
theorem rightV_dims {v : Vw} (h : rightV v = true) : v.sh.length ≤ 6 := (right_all (full_all (rightV_all h).1).1).2
theorem rightV_len {v : Vw} (h : rightV v = true) {i : Nat} (hi : i < v.sh.length) : 0 ≤ v.sh.getD i 0 ∧ v.sh.getD i 0 ≤ 1048576 := right_at (full_all (rightV_all h).1).1 hi
theorem rightV_str {v : Vw} (h : rightV v = true) {i : Nat} (hi : i < v.sh.length) : -1048576 ≤ v.st.getD i 0 ∧ v.st.getD i 0 ≤ 1048576 := (rightV_all h).2.2.2.2 i (by rw [(rightV_all h).2.1]; exact hi)
/-- the view, if it is right. -/
def fineV (v : Vw) : Vw × Bool := if rightV v = true then (v, true) else (zeroV, false)
theorem fine_yes {v : Vw} (h : rightV v = true) : fineV v = (v, true) := if_pos h
theorem fine_no {v : Vw} (h : rightV v = false) : fineV v = (zeroV, false) := if_neg (by rw [h]; exact Bool.false_ne_true)
/-- how many cells a right view has. -/
def cellsV (v : Vw) : Int := sizeV v.sh 1048576
def newV (s : List Int) : Vw × Bool := if strB s = true then fineV ⟨s, stridesL s, 0⟩ else (zeroV, false)

/-! ### where cells stand -/
def offE (v : Vw) (at' : List Int) : Nat → Int
  | 0 => v.off
  | k + 1 => offE v at' k + at'.getD k 0 * v.st.getD k 0
def offB (v : Vw) (at' : List Int) : Bool := rightV v && hasB v.sh at'
def offV (v : Vw) (at' : List Int) : Int := if offB v at' = true then offE v at' v.sh.length else 0
/-- a product of a number below 2^20 and a stride. -/
theorem times_in {a z : Int} (h1 : 0 ≤ a) (h2 : a ≤ 1048576) (h3 : -1048576 ≤ z) (h4 : z ≤ 1048576) : -1099511627776 ≤ a * z ∧ a * z ≤ 1099511627776 := by
  have e1 := Int.mul_le_mul_of_nonneg_left h4 h1
  have e2 := Int.mul_le_mul_of_nonneg_left h3 h1
  omega
theorem offE_in {v : Vw} {at' : List Int} (h : offB v at' = true) : ∀ k, k ≤ v.sh.length → -1099511627776 * k ≤ offE v at' k ∧ offE v at' k ≤ 16777216 + 1099511627776 * k
  | 0, _ => by
    unfold offB at h
    simp only [Bool.and_eq_true] at h
    have := (rightV_all h.1).2.2
    rw [offE]
    omega
  | k + 1, hk => by
    have ih := offE_in h k (by omega)
    unfold offB at h
    simp only [Bool.and_eq_true] at h
    have h1 := (has_all h.2).2.2 k (by omega)
    have h2 := rightV_len h.1 (i := k) (by omega)
    have h3 := rightV_str h.1 (i := k) (by omega)
    have h4 := times_in h1.1 (by omega) h3.1 h3.2
    rw [offE]
    omega
def lowE (v : Vw) : Nat → Int
  | 0 => v.off
  | k + 1 => lowE v k + min ((v.sh.getD k 0 - 1) * v.st.getD k 0) 0
def highE (v : Vw) : Nat → Int
  | 0 => v.off
  | k + 1 => highE v k + max ((v.sh.getD k 0 - 1) * v.st.getD k 0) 0
def someB (v : Vw) : Bool := rightV v && decide (cellsV v ≠ 0)
def lowV (v : Vw) : Int := if someB v = true then lowE v v.sh.length else 0
def highV (v : Vw) : Int := if someB v = true then highE v v.sh.length else 0
theorem cells_right {v : Vw} (h : rightV v = true) : cellsV v = prodL v.sh := size_yes (rightV_all h).1
theorem some_ones {v : Vw} (h : someB v = true) : ∀ i, i < v.sh.length → 1 ≤ v.sh.getD i 0 := fun i hi => by
  unfold someB at h
  simp only [Bool.and_eq_true, decide_eq_true_eq] at h
  have h1 := (rightV_len h.1 hi).1
  by_cases e : v.sh.getD i 0 = 0
  · exfalso
    refine h.2 ?_
    rw [cells_right h.1]
    exact prodL_zero (by rw [← e]; exact getD_mem hi)
  · omega
theorem lowhigh_in {v : Vw} (h : someB v = true) : ∀ k, k ≤ v.sh.length → -1099511627776 * k ≤ lowE v k ∧ lowE v k ≤ 16777216 ∧ 0 ≤ highE v k ∧ highE v k ≤ 16777216 + 1099511627776 * k
  | 0, _ => by
    have h' := h
    unfold someB at h'
    simp only [Bool.and_eq_true] at h'
    have := (rightV_all h'.1).2.2
    rw [lowE, highE]
    omega
  | k + 1, hk => by
    have ih := lowhigh_in h k (by omega)
    have h1 := some_ones h k (by omega)
    unfold someB at h
    simp only [Bool.and_eq_true] at h
    have h2 := rightV_len h.1 (i := k) (by omega)
    have h3 := rightV_str h.1 (i := k) (by omega)
    have h4 := times_in (a := v.sh.getD k 0 - 1) (by omega) (by omega) h3.1 h3.2
    rw [lowE, highE]
    omega

/-! ### other views -/
def axisB (v : Vw) (i : Int) : Bool := rightV v && decide (0 ≤ i ∧ i < v.sh.length)
theorem axis_all {v : Vw} {i : Int} (h : axisB v i = true) : rightV v = true ∧ 0 ≤ i ∧ i < v.sh.length := by
  unfold axisB at h
  simp only [Bool.and_eq_true, decide_eq_true_eq] at h
  exact h
def setV (v : Vw) (i : Nat) (n z off : Int) : Vw := ⟨v.sh.set i n, v.st.set i z, off⟩
def sliceB (v : Vw) (i f n p : Int) : Bool := axisB v i && decide (0 ≤ n ∧ n ≤ 1048576) && (decide (n = 0) || decide (0 ≤ f ∧ f < v.sh.getD i.toNat 0 ∧ -1048576 ≤ p ∧ p ≤ 1048576 ∧ 0 ≤ f + (n - 1) * p ∧ f + (n - 1) * p < v.sh.getD i.toNat 0)) &&
  decide (-1048576 ≤ p ∧ p ≤ 1048576 ∧ -1048576 ≤ p * v.st.getD i.toNat 0 ∧ p * v.st.getD i.toNat 0 ≤ 1048576)
def sliceV (v : Vw) (i f n p : Int) : Vw × Bool := if sliceB v i f n p = true then fineV (setV v i.toNat n (p * v.st.getD i.toNat 0) (if n = 0 then v.off else v.off + f * v.st.getD i.toNat 0)) else (zeroV, false)
def flipV (v : Vw) (i : Int) : Vw × Bool := if axisB v i = true then fineV (setV v i.toNat (v.sh.getD i.toNat 0) (-v.st.getD i.toNat 0) (if 0 < v.sh.getD i.toNat 0 then v.off + (v.sh.getD i.toNat 0 - 1) * v.st.getD i.toNat 0 else v.off)) else (zeroV, false)
def permV (v : Vw) (q : List Int) : Vw × Bool := if (rightV v && permB v.sh q) = true then fineV ⟨permL v.sh q, q.map (fun a => v.st.getD a.toNat 0), v.off⟩ else (zeroV, false)
def dropV (v : Vw) (i x : Int) : Vw × Bool := if (axisB v i && decide (0 ≤ x ∧ x < v.sh.getD i.toNat 0)) = true then fineV ⟨withoutL v.sh i, v.st.take i.toNat ++ v.st.drop (i.toNat + 1), v.off + x * v.st.getD i.toNat 0⟩ else (zeroV, false)
def putL (l : List Int) (i : Nat) (z : Int) : List Int := l.take i ++ [z] ++ l.drop i
def growV (v : Vw) (i n : Int) : Vw × Bool := if (rightV v && withB v.sh i n) = true then fineV ⟨withL v.sh i n, putL v.st i.toNat 0, v.off⟩ else (zeroV, false)
def windowV (v : Vw) (i x : Int) : Vw × Bool := if (axisB v i && decide (1 ≤ x ∧ x ≤ v.sh.getD i.toNat 0) && withB v.sh (i + 1) x) = true then
  fineV ⟨(withL v.sh (i + 1) x).set i.toNat (v.sh.getD i.toNat 0 - x + 1), putL v.st (i.toNat + 1) (v.st.getD i.toNat 0), v.off⟩ else (zeroV, false)
/-- the product of the lengths behind axis i. -/
def behE (v : Vw) : Nat → Int
  | 0 => 1
  | j + 1 => behE v j * v.sh.getD (v.sh.length - 1 - j) 0
def denseP (v : Vw) (x : Nat) : Prop := ∀ j, j < x → v.sh.getD (v.sh.length - 1 - j) 0 = 1 ∨ v.st.getD (v.sh.length - 1 - j) 0 = behE v j
instance (v : Vw) (x : Nat) : Decidable (denseP v x) := by unfold denseP; infer_instance
def denseB (v : Vw) : Bool := rightV v && (decide (cellsV v = 0) || decide (denseP v v.sh.length))
def shapeV (v : Vw) (s : List Int) : Vw × Bool := if (denseB v && full s && decide (sizeV s 1048576 = cellsV v) && (newV s).2) = true then fineV ⟨(newV s).1.sh, (newV s).1.st, v.off⟩ else (zeroV, false)
/-- where all cells stand. -/
def offsL (v : Vw) : List Int := (List.range (cellsV v).toNat).map fun k : Nat => offE v (atL v.sh (k : Int)) v.sh.length
end Go.Proofs.Ytdjenakmdjiknaa
end

/-! Layer 7: the reference's Right, Size, Has, Place; the law's ints. -/
section
namespace Go.Proofs.Ytdjenakmdjiknaa
open Go.ChangeShapes Go.WideShapes Go.ChangeAt Go.RowKit
set_option linter.unusedVariables false
set_option maxRecDepth 100000

theorem Nums.ints {w : World} {B n : Nat} {A : Option Addr} {zs : List Int} (h : Nums w B A n zs) : Ints w A n zs :=
  ⟨h.1, fun h0 => by
    obtain ⟨b, off, e, _, hc⟩ := h.2 h0
    exact ⟨b, off, e, hc⟩⟩
set_option maxHeartbeats 1000000 in
theorem ref7Right_any (A : Option Addr) (n c B : Nat) (s : List Int) (w : World) (h : Nums w B A n s) (hn : n ≤ 1048576) :
    Calls Try.prog 33 #[.slice A n c] w fun e w' => e = .returned (.bool (rightS s)) ∧ w' = w := by
  have H := Lib.hid h
  have HL := Lib.hid h.1
  clear h
  go_enter Try.func33, Try.ntmps33
  go_wp2
  go_loop [3] (fun i => ∃ k : Nat, k ≤ n ∧ i = .int .i64 k ∧ ∀ j, j < k → 0 ≤ s.getD j 0 ∧ s.getD j 0 ≤ 1048576) (fun i => n - (intOf i).toNat)
  case atStart => exact ⟨0, Nat.zero_le _, rfl, fun j hj => by omega⟩
  case round =>
    obtain ⟨k, hk, rfl, hq⟩ := hrel
    have HQ := Lib.hid hq
    clear hq
    by_cases hlt : k < n
    · obtain ⟨b, off, rfl, _, hc⟩ := H.out.2.at_ hlt
      generalize hv : s.getD k 0 = v at *
      have HV := Lib.hid hv
      clear hv
      by_cases h0 : v < 0
      · have d0 : decide (v < 0) = true := decide_eq_true h0
        go_wp2
        go_ret
        exact ⟨congrArg (fun b => Ending.returned (.bool b)) (right_not (i := k) (by rw [HL.out]; exact hlt) (by rw [HV.out]; omega)), rfl⟩
      · have d0 : decide (v < 0) = false := decide_eq_false h0
        by_cases h1 : 1048576 < v
        · have d1 : decide ((1048576 : Int) < v) = true := decide_eq_true h1
          go_wp2
          go_ret
          exact ⟨congrArg (fun b => Ending.returned (.bool b)) (right_not (i := k) (by rw [HL.out]; exact hlt) (by rw [HV.out]; omega)), rfl⟩
        · have d1 : decide ((1048576 : Int) < v) = false := decide_eq_false h1
          go_wp2
          go_round
          case rel => exact ⟨k + 1, by omega, by go_num, fun j hj => by
            by_cases hjk : j = k
            · subst hjk; rw [HV.out]; omega
            · exact HQ.out j (by omega)⟩
          case measure => simp [intOf]; omega
    · obtain rfl : k = n := by omega
      go_wp2
      go_ret
      exact ⟨congrArg (fun b => Ending.returned (.bool b)) (right_by (fun i hi => HQ.out i (by rw [HL.out] at hi; exact hi)) (by rw [HL.out]; rw [decide_eq_decide]; omega)), rfl⟩
set_option maxHeartbeats 1000000 in
theorem ref7Size_any (A : Option Addr) (n c B : Nat) (s : List Int) (most : Int) (w : World) (h : Nums w B A n s) (hn : n ≤ 1048576) :
    Calls Try.prog 16 #[.slice A n c, .int .i64 most] w (ToldV (.tuple #[.int .i64 (sizeV s most), .bool (sizeB s most)]) w) := by
  have HR := Lib.hid (fun w' (h' : Nums w' B A n s) => ref7Right_any A n c B s w' h' hn)
  have HP := Lib.hid (fun hr w' (h' : Nums w' B A n s) => refProduct_any (min most 1048576) A n c s w' h'.ints (by omega) (by omega) (right_i64 hr))
  have H := Lib.hid h
  clear h
  have HSB := Lib.hid (show ∀ b, rightS s = b → sizeB s most = (b && prB (min most 1048576) s) from fun b hb => by unfold sizeB; rw [hb])
  cases hr : rightS s with
  | false =>
    rw [hr] at HR
    have HS := Lib.hid (show sizeB s most = false by rw [HSB.out _ hr]; rfl)
    have HV := Lib.hid (size_no HS.out)
    clear hr
    go_enter Try.func16, Try.ntmps16
    go_wp2_with fail
    refine (HR.out _ H.out).mono ?_
    rintro e w1 ⟨rfl, rfl⟩
    go_wp2_with fail
    go_ret2
    exact ⟨by rw [HS.out, HV.out]; rfl, 0, rfl⟩
  | true =>
    rw [hr] at HR
    have HP2 := Lib.hid (HP.out hr)
    generalize hmo : min most 1048576 = m0 at *
    have HS := Lib.hid (show sizeB s most = prB m0 s by rw [HSB.out _ hr]; rfl)
    have HMO := Lib.hid hmo
    have HY := Lib.hid (fun (hb : sizeB s most = true) => size_yes hb)
    have HN := Lib.hid (fun (hb : sizeB s most = false) => size_no hb)
    clear hr hmo HP
    go_enter Try.func16, Try.ntmps16
    go_wp2_with fail
    refine (HR.out _ H.out).mono ?_
    rintro e w1 ⟨rfl, rfl⟩
    go_wp2_with fail
    · obtain rfl : m0 = 1048576 := by have := HMO.out; omega
      refine (HP2.out _ H.out).mono ?_
      rintro e w2 ⟨p, hp, rfl, mq, rfl⟩
      have HPP := Lib.hid hp
      clear hp
      generalize prB _ s = pb at *
      cases pb with
      | false =>
        have HSV := Lib.hid (HN.out HS.out)
        go_wp2_with fail
        go_ret2
        exact ⟨by rw [HS.out, HSV.out]; rfl, mq, rfl⟩
      | true =>
        have HPE := Lib.hid (HPP.out rfl)
        have HSV := Lib.hid (HY.out HS.out)
        go_wp2_with fail
        go_ret2
        exact ⟨by rw [HS.out, HSV.out, ← HPE.out]; rfl, mq, rfl⟩
    · obtain rfl : m0 = most := by have := HMO.out; omega
      refine (HP2.out _ H.out).mono ?_
      rintro e w2 ⟨p, hp, rfl, mq, rfl⟩
      have HPP := Lib.hid hp
      clear hp
      generalize prB _ s = pb at *
      cases pb with
      | false =>
        have HSV := Lib.hid (HN.out HS.out)
        go_wp2_with fail
        go_ret2
        exact ⟨by rw [HS.out, HSV.out]; rfl, mq, rfl⟩
      | true =>
        have HPE := Lib.hid (HPP.out rfl)
        have HSV := Lib.hid (HY.out HS.out)
        go_wp2_with fail
        go_ret2
        exact ⟨by rw [HS.out, HSV.out, ← HPE.out]; rfl, mq, rfl⟩
theorem toldV_two {x y : Int} {a b : Bool} {w w' : World} {m : Nat} (h1 : x = y) (h2 : a = b) (hw : w' = w.drewN m) : ToldV (.tuple #[.int .i64 y, .bool b]) w (.returned (.tuple #[.int .i64 x, .bool a])) w' := by
  subst h1; subst h2; exact ⟨rfl, m, hw⟩
end Go.Proofs.Ytdjenakmdjiknaa
end

/-! Layer 7: the reference's Strides, At. -/
section
namespace Go.Proofs.Ytdjenakmdjiknaa
open Go.ChangeShapes Go.WideShapes Go.ChangeAt Go.RowKit
set_option linter.unusedVariables false
set_option maxRecDepth 100000

/-- a row of n numbers that is filled from its end on: the last x of them are there. -/
def fillL (n : Nat) (f : Nat → Int) (x : Nat) : List Int := (List.range n).map fun i => if n ≤ i + x then f i else 0
theorem fill_length (n : Nat) (f : Nat → Int) (x : Nat) : (fillL n f x).length = n := by simp [fillL]
theorem fill_start (n : Nat) (f : Nat → Int) : fillL n f 0 = List.replicate n 0 := by
  apply List.ext_getElem
  · simp [fillL]
  · intro i h1 h2
    have : i < n := by simpa [fillL] using h1
    simp [fillL, show ¬ n ≤ i by omega]
theorem fill_set {n : Nat} {f : Nat → Int} {x : Nat} (hx : x < n) : (fillL n f x).set (n - 1 - x) (f (n - 1 - x)) = fillL n f (x + 1) := by
  apply List.ext_getElem
  · simp [fillL]
  · intro i h1 h2
    have hi : i < n := by simpa [fillL] using h2
    rw [List.getElem_set]
    by_cases e : n - 1 - x = i
    · subst e
      simp [fillL, show n ≤ n - 1 - x + (x + 1) by omega]
    · rw [if_neg e]
      simp only [fillL, List.getElem_map, List.getElem_range]
      by_cases h : n ≤ i + x
      · rw [if_pos h, if_pos (by omega)]
      · rw [if_neg h, if_neg (by omega)]
theorem fill_end (n : Nat) (f : Nat → Int) : fillL n f n = (List.range n).map f := by
  apply List.ext_getElem
  · simp [fillL]
  · intro i h1 h2
    simp [fillL]
theorem stride_yes {s : List Int} (h : strB s = true) : stridesL s = fillL s.length (fun i => strE s (s.length - 1 - i)) s.length := by
  rw [fill_end]; unfold stridesL; rw [if_pos h]
theorem gave_ints {zs ys : List Int} {w w' : World} {A : Option Addr} {n c : Nat} (e : zs = ys) (h : OwnI w' w.heap.size A n c ys) (hg : w.grownBy w' none) : GaveInts zs w (.returned (.slice A n c)) w' := by
  subst e
  obtain rfl : zs.length = n := h.1
  exact ⟨A, c, rfl, h, hg⟩
/-- the strides are told; nil is told just where there are none. -/
def GaveStr (s : List Int) (w : World) (e : Ending) (w' : World) : Prop := ∃ A n c, e = .returned (.slice A n c) ∧ OwnI w' w.heap.size A n c (stridesL s) ∧ w.grownBy w' none ∧ A.isNone = !strB s
theorem GaveStr.ints {s : List Int} {w w' : World} {e : Ending} (h : GaveStr s w e w') : GaveInts (stridesL s) w e w' := by
  obtain ⟨A, n, c, rfl, ho, hg, _⟩ := h
  exact gave_ints rfl ho hg
theorem gave_str {s ys : List Int} {w w' : World} {A : Option Addr} {n c : Nat} (e : stridesL s = ys) (hA : A.isNone = !strB s) (h : OwnI w' w.heap.size A n c ys) (hg : w.grownBy w' none) : GaveStr s w (.returned (.slice A n c)) w' := by
  subst e; exact ⟨A, n, c, rfl, h, hg, hA⟩
theorem gave_intsB {zs ys : List Int} {b d : Bool} {w w' : World} {A : Option Addr} {n c : Nat} (e : zs = ys) (hb : b = d) (h : OwnI w' w.heap.size A n c ys) (hg : w.grownBy w' none) : GaveIntsB zs b w (.returned (.tuple #[.slice A n c, .bool d])) w' := by
  subst e; subst hb
  obtain rfl : zs.length = n := h.1
  exact ⟨A, c, rfl, h, hg⟩
theorem gave_noneB {zs : List Int} {b : Bool} {w w' : World} (e : zs = []) (hb : b = false) (hg : w.grownBy w' none) : GaveIntsB zs b w (.returned (.tuple #[.slice none 0 0, .bool false])) w' :=
  gave_intsB e hb (OwnI.nil _ _) hg
theorem cell_kept7 {w : World} {b i : Nat} {v : Value} (h : w.cell? ⟨b, i, none⟩ = some v) {g : Nat} (hne : b ≠ g) (j : Nat) (u : Value) : (w.setCell ⟨g, j, none⟩ u).cell? ⟨b, i, none⟩ = some v := by
  rw [World.cell?_setCell_other]
  · exact h
  · intro e; injection e with e; exact hne e.symm
theorem at_yes {s : List Int} {p : Int} (h : atB s p = true) : atL s p = fillL s.length (digE s p) s.length := by
  rw [fill_end]; unfold atL; rw [if_pos h]
set_option maxHeartbeats 2000000 in
theorem ref7At_any (A : Option Addr) (n c : Nat) (s : List Int) (p : Int) (w : World) (h : Nums w w.heap.size A n s) (hn : n ≤ 1048576) :
    Calls Try.prog 50 #[.slice A n c, .int .i64 p] w (GaveIntsB (atL s p) (atB s p) w) := by
  have HSI := Lib.hid (ref7Size_any A n c _ s 1048576 w h hn)
  have H := Lib.hid h
  have HL := Lib.hid h.1
  clear h
  have HAN := Lib.hid (show atB s p = false → atL s p = [] from fun hb => by unfold atL; rw [hb]; rfl)
  have HAB := Lib.hid (show ∀ b, full s = b → atB s p = (b && decide (0 ≤ p ∧ p < prodL s)) from fun b hb => by unfold atB; rw [hb])
  have HFU := Lib.hid (show sizeB s 1048576 = full s from rfl)
  have HSY := Lib.hid (fun (hb : sizeB s 1048576 = true) => size_yes hb)
  cases hf : full s with
  | false =>
    rw [HFU.out, hf] at HSI
    have HNB := Lib.hid (show atB s p = false by rw [HAB.out _ hf]; rfl)
    have HNL := Lib.hid (HAN.out HNB.out)
    clear hf
    go_enter Try.func50, Try.ntmps50
    go_wp2_with fail
    refine HSI.out.mono ?_
    rintro e w1 ⟨rfl, m1, rfl⟩
    go_wp2_with fail
    go_ret2
    exact gave_noneB HNL.out HNB.out (grown_drewN (grown_refl _ _) _)
  | true =>
    rw [HFU.out, hf, HSY.out hf] at HSI
    have HFA := Lib.hid (full_all hf)
    by_cases hp : 0 ≤ p ∧ p < prodL s
    · have HY := Lib.hid (show atB s p = true by rw [HAB.out _ hf]; simp only [Bool.true_and, decide_eq_true_eq]; exact hp)
      have HYL := Lib.hid (at_yes HY.out)
      have HON := Lib.hid (at_ones HY.out)
      have HRI := Lib.hid (fun j hj => rest_in HON.out hp.1 hp.2 j hj)
      have HRS := Lib.hid (show ∀ j, restE s p (j + 1) = restE s p j / s.getD (n - 1 - j) 0 from fun j => by rw [restE, HL.out])
      have HDG := Lib.hid (show ∀ i, digE s p i = restE s p (n - 1 - i) % s.getD i 0 from fun i => by rw [digE, HL.out])
      have hn6 : n ≤ 6 := by rw [← HL.out]; exact (right_all HFA.out.1).2
      have h1 := hp.1
      have h2 := hp.2
      have hle := HFA.out.2
      obtain ⟨Z, hmk, hZ⟩ := ints_zeros w n (by omega)
      have HZ := Lib.hid hZ
      obtain ⟨g, hg⟩ : ∃ g, g = w.heap.size := ⟨_, rfl⟩
      have HG0 := Lib.hid hg
      have HPL := Lib.hid (fun j => prodL_mono s j HON.out)
      have HPM := Lib.hid hle
      rw [HL.out] at HYL
      clear hf hp hZ hg
      go_enter Try.func50, Try.ntmps50
      go_wp2_with fail
      refine HSI.out.mono ?_
      rintro e w1 ⟨rfl, m1, rfl⟩
      go_wp2_with fail
      rw [← HG0.out]
      go_loopw [1, 9] (fun v i wr => ∃ x : Nat, x ≤ n ∧ i = .int .i64 ((n : Int) - 1 - x) ∧ v = .int .i64 (restE s p x) ∧ OwnI wr w.heap.size (some ⟨g, 0, none⟩) n n (fillL n (digE s p) x) ∧ w.grownBy wr none) (fun _ i _ => (intOf i + 1).toNat)
      case atStart => exact ⟨0, Nat.zero_le _, by simp, rfl, by rw [fill_start, HG0.out]; exact HZ.out (w.drewN m1) _ (Nat.le_refl _), grown_alloc (grown_drewN (grown_refl _ _) _) _⟩
      case round =>
        obtain ⟨x, hx, rfl, rfl, ho, hg⟩ := hrel
        have HO := Lib.hid ho
        have HG := Lib.hid hg
        clear ho
        by_cases hlt : x < n
        · obtain ⟨y, hy⟩ : ∃ y, y = n - 1 - x := ⟨_, rfl⟩
          have e1 : (n : Int) - 1 - (x : Int) = (y : Int) := by omega
          have hyn : y < n := by omega
          rw [e1]
          obtain ⟨r, hr, _, c0, f0⟩ := HO.out.at_ hyn
          injection hr with hr
          injection hr with hr
          subst hr
          obtain ⟨b, off, rfl, hb0, k0⟩ := (H.out.keep hg (Nat.le_refl _)).2.at_ hyn
          have hb0 : b ≠ g := by rw [HG0.out]; omega
          have hri := HRI.out x (by rw [HL.out]; omega)
          have hri2 := HPL.out (s.length - x)
          have HRX := Lib.hid (HRS.out x)
          have HDX := Lib.hid (HDG.out y)
          rw [show n - 1 - x = y from hy.symm] at HRX
          rw [show n - 1 - y = x by omega] at HDX
          have hz1 := getD_one HON.out (k := y) (by rw [HL.out]; exact hyn)
          have hz2 := right_at HFA.out.1 (i := y) (by rw [HL.out]; exact hyn)
          have HFS := Lib.hid (show (fillL n (digE s p) x).set y (digE s p y) = fillL n (digE s p) (x + 1) by
            have := fill_set (f := digE s p) hlt
            rw [show n - 1 - x = y from hy.symm] at this
            exact this)
          have HPU := Lib.hid (HO.out.put y (digE s p y))
          rw [HFS.out] at HPU
          have HGP := Lib.hid (grown_put (j := y) HG.out (.inr (show w.heap.size ≤ g by rw [HG0.out]; exact Nat.le_refl _)) (.int .i64 (digE s p y)))
          have kz := cell_kept7 k0 hb0 y (.int .i64 (digE s p y))
          rw [HDX.out] at HPU HGP kz
          generalize restE s p x = v at *
          generalize s.getD y 0 = z at *
          obtain ⟨rm, hrm⟩ : ∃ rm, rm = v % z := ⟨_, rfl⟩
          obtain ⟨qt, hqt⟩ : ∃ qt, qt = v / z := ⟨_, rfl⟩
          have hrm1 : 0 ≤ rm ∧ rm < z := by rw [hrm]; exact ⟨Int.emod_nonneg _ (by omega), Int.emod_lt_of_pos _ (by omega)⟩
          have hqt1 : 0 ≤ qt ∧ qt ≤ v := by rw [hqt]; exact ⟨Int.ediv_nonneg (by omega) (by omega), Int.ediv_le_self _ (by omega)⟩
          have m1 : v % z = rm := hrm.symm
          have m2 : v.tmod z = rm := by rw [IntWalk.rem_in _ _ (by omega)]; exact m1
          have m3 : v / z = qt := hqt.symm
          have m4 : v.tdiv z = qt := by rw [Int.tdiv_eq_ediv_of_nonneg (by omega)]; exact m3
          have m5 : (z == 0) = false := by simp; omega
          have m6 : IntKind.i64.wrap qt = qt := IntWalk.i64_in _ (by omega)
          have m7 : wrap64 qt = qt := IntWalk.wrap64_in _ (by omega)
          have m8 : IntKind.i64.wrap rm = rm := IntWalk.i64_in _ (by omega)
          have m9 : wrap64 rm = rm := IntWalk.wrap64_in _ (by omega)
          rw [m1] at HPU HGP kz
          rw [m3] at HRX
          obtain ⟨W2, hW2⟩ : ∃ W2, W2 = wr.setCell ⟨g, y, none⟩ (.int .i64 rm) := ⟨_, rfl⟩
          rw [← hW2] at HPU HGP kz
          have HY := Lib.hid hy
          have HW2 := Lib.hid hW2
          have d0 : decide ((0 : Int) ≤ (y : Int)) = true := by simp
          clear hy hW2 hrm hqt hri hri2 hb0
          go_upto_region 9 with fail
          rw [← HW2.out]
          clear c0 f0 k0
          go_wp2
          go_roundw
          case rel => exact ⟨x + 1, by omega, congrArg (Value.int .i64) (by have := HY.out; omega), by rw [HRX.out], HPU.out, HGP.out⟩
          case measure => simp [intOf]
        · obtain rfl : x = n := by omega
          have d0 : decide ((0 : Int) ≤ (x : Int) - 1 - (x : Int)) = false := by simp; omega
          go_wp2
          go_ret2
          exact gave_intsB HYL.out HY.out HO.out HG.out
    · have HNB := Lib.hid (show atB s p = false by rw [HAB.out _ hf]; simp only [Bool.true_and, decide_eq_false_iff_not]; exact hp)
      have HNL := Lib.hid (HAN.out HNB.out)
      have hp2 : p < 0 ∨ prodL s ≤ p := by omega
      clear hf hp
      rcases hp2 with hp2 | hp2
      · have d0 : decide (p < 0) = true := decide_eq_true hp2
        go_enter Try.func50, Try.ntmps50
        go_wp2_with fail
        refine HSI.out.mono ?_
        rintro e w1 ⟨rfl, m1, rfl⟩
        go_wp2_with fail
        go_ret2
        exact gave_noneB HNL.out HNB.out (grown_drewN (grown_refl _ _) _)
      · have d1 : decide (prodL s ≤ p) = true := decide_eq_true hp2
        by_cases h0 : p < 0
        · have d0 : decide (p < 0) = true := decide_eq_true h0
          go_enter Try.func50, Try.ntmps50
          go_wp2_with fail
          refine HSI.out.mono ?_
          rintro e w1 ⟨rfl, m1, rfl⟩
          go_wp2_with fail
          go_ret2
          exact gave_noneB HNL.out HNB.out (grown_drewN (grown_refl _ _) _)
        · have d0 : decide (p < 0) = false := decide_eq_false h0
          go_enter Try.func50, Try.ntmps50
          go_wp2_with fail
          refine HSI.out.mono ?_
          rintro e w1 ⟨rfl, m1, rfl⟩
          go_wp2_with fail
          go_ret2
          exact gave_noneB HNL.out HNB.out (grown_drewN (grown_refl _ _) _)
end Go.Proofs.Ytdjenakmdjiknaa
end

/-! Layer 7: the reference's Without, With. -/
section
namespace Go.Proofs.Ytdjenakmdjiknaa
open Go.ChangeShapes Go.WideShapes Go.ChangeAt Go.RowKit
set_option linter.unusedVariables false
set_option maxRecDepth 100000

theorem new7a (w : World) (o : Obj) : (w.alloc o).drew.heap[w.heap.size]? = some o := heap_alloc_new w o
theorem new7b (w : World) (o o' : Obj) : ((w.alloc o).alloc o').drew.heap[w.heap.size]? = some o := (Below.heap_alloc _ o' _ (by simp)).trans (heap_alloc_new w o)
theorem new7c (w : World) (o o' : Obj) : ((w.alloc o').alloc o).drew.heap[w.heap.size + 1]? = some o := by
  have h := heap_alloc_new (w.alloc o') o
  rw [show (w.alloc o').heap.size = w.heap.size + 1 by simp] at h
  exact h
theorem one7 (w : World) (z : Int) : (w.alloc (.cells #[.int .i64 z] 3)).cell? ⟨w.heap.size, 0, none⟩ = some (.int .i64 z) := by
  rw [cell_of_row _ _ _ _ _ _ (heap_alloc_new w _)]; rfl
theorem one7a (w : World) (z : Int) : (w.alloc (.cells #[.int .i64 z] 3)).drew.cell? ⟨w.heap.size, 0, none⟩ = some (.int .i64 z) := one7 w z
theorem one7b (w : World) (z : Int) (o : Obj) : ((w.alloc (.cells #[.int .i64 z] 3)).alloc o).drew.cell? ⟨w.heap.size, 0, none⟩ = some (.int .i64 z) := by
  have h := new7b w (.cells #[.int .i64 z] 3) o
  rw [cell_of_row _ _ _ _ _ _ h]; rfl
theorem one7c (w : World) (z : Int) (o : Obj) : ((w.alloc o).alloc (.cells #[.int .i64 z] 3)).drew.cell? ⟨w.heap.size + 1, 0, none⟩ = some (.int .i64 z) := by
  have h := one7 (w.alloc o) z
  rw [show (w.alloc o).heap.size = w.heap.size + 1 by simp] at h
  exact h
end Go.Proofs.Ytdjenakmdjiknaa
end

/-! Layer 7: the reference's Permute, Join. -/
section
namespace Go.Proofs.Ytdjenakmdjiknaa
open Go.ChangeShapes Go.WideShapes Go.ChangeAt Go.RowKit
set_option linter.unusedVariables false
set_option maxRecDepth 100000

theorem perm_not {s t : List Int} (h : ¬ (rightS s = true ∧ t.length = s.length ∧ axesP s.length t s.length)) : permB s t = false := by
  cases hb : permB s t with
  | false => rfl
  | true =>
    unfold permB at hb
    simp only [Bool.and_eq_true, decide_eq_true_eq] at hb
    exact absurd ⟨hb.1.1, hb.1.2, hb.2⟩ h
theorem perm_yes {s t : List Int} (h1 : rightS s = true) (h2 : t.length = s.length) (h3 : axesP s.length t s.length) : permB s t = true := by
  unfold permB
  simp only [Bool.and_eq_true, decide_eq_true_eq]
  exact ⟨⟨h1, h2⟩, h3⟩
def pickL (s t : List Int) : List Int := t.map fun a => s.getD a.toNat 0
theorem pick_snoc (s t : List Int) (x : Nat) (h : x < t.length) : pickL s (t.take (x + 1)) = pickL s (t.take x) ++ [s.getD (t.getD x 0).toNat 0] := by
  unfold pickL
  rw [List.take_succ_eq_append_getElem h, List.map_append]
  simp [List.getD, h]
theorem gave_row {zs : List Int} {b : Bool} {w w' : World} {v : Value} {n : Nat} (e : zs.length = n) (hb : b = true) (h : w'.ownsRow w.heap.size 3 1 v n (intV zs)) (hg : w.grownBy w' none) : GaveIntsB zs b w (.returned (.tuple #[v, .bool true])) w' := by
  subst hb; subst e
  obtain ⟨A, c, rfl⟩ := own_slice1 h
  exact ⟨A, c, rfl, ⟨rfl, h⟩, hg⟩
theorem join_not {a b : List Int} (h : ¬ (rightS a = true ∧ rightS b = true ∧ a.length = b.length ∧ joinP a b a.length)) : joinB a b = false := by
  cases hb : joinB a b with
  | false => rfl
  | true =>
    unfold joinB at hb
    simp only [Bool.and_eq_true, decide_eq_true_eq] at hb
    exact absurd ⟨hb.1.1.1, hb.1.1.2, hb.1.2, hb.2⟩ h
theorem join_yes {a b : List Int} (h1 : rightS a = true) (h2 : rightS b = true) (h3 : a.length = b.length) (h4 : joinP a b a.length) : joinB a b = true := by
  unfold joinB
  simp only [Bool.and_eq_true, decide_eq_true_eq]
  exact ⟨⟨⟨h1, h2⟩, h3⟩, h4⟩
def zipL (a b : List Int) (x : Nat) : List Int := (List.range x).map fun i => joinV (a.getD i 0) (b.getD i 0)
theorem zip_snoc (a b : List Int) (x : Nat) : zipL a b (x + 1) = zipL a b x ++ [joinV (a.getD x 0) (b.getD x 0)] := by unfold zipL; rw [List.range_succ, List.map_append]; rfl
end Go.Proofs.Ytdjenakmdjiknaa
end

/-! Layer 8: the reference's Right, fine, size, axis. -/
section
namespace Go.Proofs.Ytdjenakmdjiknaa
open Go.ChangeShapes Go.WideShapes Go.ChangeAt Go.RowKit
set_option linter.unusedVariables false
set_option maxRecDepth 100000

theorem tellG_eq {v v' : Value} {w w' : World} (h : v' = v) (hg : w.grownBy w' none) : TellG v w (.returned v') w' := ⟨by rw [h], hg⟩
theorem rightV_str_no {s t : List Int} {o : Int} {i : Nat} (hi : i < t.length) (h : ¬ (-1048576 ≤ t.getD i 0 ∧ t.getD i 0 ≤ 1048576)) : rightV ⟨s, t, o⟩ = false := rightV_not fun hp => h (hp.2.2.2.2 i hi)
set_option maxHeartbeats 2000000 in
theorem ref8Right_any (A A' : Option Addr) (n c n' c' : Nat) (s t : List Int) (o : Int) (w : World) (h : Nums w w.heap.size A n s) (h' : Nums w w.heap.size A' n' t) (hn : n ≤ 1048576) (hn' : n' ≤ 1048576) :
    Calls Try.prog 18 #[.agg #[.slice A n c, .slice A' n' c', .int .i64 o]] w (TellG (.bool (rightV ⟨s, t, o⟩)) w) := by
  have HS := Lib.hid (fun w' (hg : w.grownBy w' none) => ref7Size_any A n c _ s 1048576 w' (h.grow hg) hn)
  have HL := Lib.hid h.1
  have HL' := Lib.hid h'.1
  obtain ⟨w1, hw1⟩ : ∃ w1, w1 = w.alloc (.cells #[.slice A n c, .slice A' n' c', .int .i64 o] 24) := ⟨_, rfl⟩
  have HG1 := Lib.hid (show w.grownBy w1 none by rw [hw1]; exact World.grownBy_alloc _ _ _)
  have HX := Lib.hid (show Box w1 w.heap.size 24 #[.slice A n c, .slice A' n' c', .int .i64 o] by rw [hw1]; exact Box.fresh _ _ _)
  have H' := Lib.hid (h'.grow HG1.out)
  have HW1 := Lib.hid hw1
  have HFU := Lib.hid (show sizeB s 1048576 = full s from rfl)
  clear h h' hw1
  cases hf : full s with
  | false =>
    rw [HFU.out, hf] at HS
    have HR := Lib.hid (rightV_not (v := ⟨s, t, o⟩) fun hp => absurd hp.1 (by show ¬ full s = true; rw [hf]; simp))
    clear hf
    go_enter Try.func18, Try.ntmps18
    go_upto_region 1 with fail
    rw [← HW1.out]
    have x0 := HX.out.get 0
    go_wp2_with fail
    refine (HS.out _ HG1.out).mono ?_
    rintro e w2 ⟨rfl, m, rfl⟩
    go_wp2_with fail
    go_ret
    exact tellG_eq (by rw [HR.out]; rfl) (grown_drewN HG1.out _)
  | true =>
    rw [HFU.out, hf] at HS
    have HFT := Lib.hid hf
    clear hf
    have HNOT := Lib.hid (fun hp => rightV_not (v := ⟨s, t, o⟩) hp)
    by_cases hnn : n' = n
    · subst hnn
      have d0 : ((n' : Int) != (n' : Int)) = false := by simp
      by_cases h0 : o < 0
      · have d1 : decide (o < 0) = true := decide_eq_true h0
        have HR := Lib.hid (HNOT.out fun hp => by have := hp.2.2.1; exact absurd h0 (Int.not_lt.2 this))
        clear h0
        go_enter Try.func18, Try.ntmps18
        go_upto_region 1 with fail
        rw [← HW1.out]
        have x0 := HX.out.get 0
        have x1 := HX.out.get 1
        have x2 := HX.out.get 2
        go_wp2_with fail
        refine (HS.out _ HG1.out).mono ?_
        rintro e w2 ⟨rfl, m, rfl⟩
        go_wp2_with fail
        go_ret
        exact tellG_eq (by rw [HR.out]; rfl) (grown_drewN HG1.out _)
      · have d1 : decide (o < 0) = false := decide_eq_false h0
        by_cases h1 : 16777216 < o
        · have d2 : decide (16777216 < o) = true := decide_eq_true h1
          have HR := Lib.hid (HNOT.out fun hp => by have := hp.2.2.2.1; exact absurd h1 (Int.not_lt.2 this))
          clear h0 h1
          go_enter Try.func18, Try.ntmps18
          go_upto_region 1 with fail
          rw [← HW1.out]
          have x0 := HX.out.get 0
          have x1 := HX.out.get 1
          have x2 := HX.out.get 2
          go_wp2_with fail
          refine (HS.out _ HG1.out).mono ?_
          rintro e w2 ⟨rfl, m, rfl⟩
          go_wp2_with fail
          go_ret
          exact tellG_eq (by rw [HR.out]; rfl) (grown_drewN HG1.out _)
        · have d2 : decide (16777216 < o) = false := decide_eq_false h1
          go_enter Try.func18, Try.ntmps18
          go_upto_region 1 with fail
          rw [← HW1.out]
          have x0 := HX.out.get 0
          have x1 := HX.out.get 1
          have x2 := HX.out.get 2
          go_wp2_with fail
          refine (HS.out _ HG1.out).mono ?_
          rintro e w2 ⟨rfl, m, rfl⟩
          go_wp2_with fail
          obtain ⟨w2, hw2⟩ : ∃ w2, w2 = w1.drewN m := ⟨_, rfl⟩
          rw [← hw2]
          have HX2 : Hid (Box w2 _ _ _) := Lib.hid (by rw [hw2]; exact HX.out.drewN m)
          have HG2 : Hid (w.grownBy w2 none) := Lib.hid (by rw [hw2]; exact grown_drewN HG1.out _)
          have H2 : Hid (Nums w2 w1.heap.size A' n' t) := Lib.hid (by rw [hw2]; exact H'.out.drewN m)
          have HOO := Lib.hid (show 0 ≤ o ∧ o ≤ 16777216 by omega)
          clear x0 x1 x2 hw2 h0 h1 d1 d2 d0
          have x1 := HX2.out.get 1
          go_loop [5] (fun i => ∃ k : Nat, k ≤ n' ∧ i = .int .i64 k ∧ ∀ j, j < k → -1048576 ≤ t.getD j 0 ∧ t.getD j 0 ≤ 1048576) (fun i => n' - (intOf i).toNat)
          case atStart => exact ⟨0, Nat.zero_le _, rfl, fun j hj => by omega⟩
          case round =>
            obtain ⟨k, hk, rfl, hq⟩ := hrel
            have HQ := Lib.hid hq
            clear hq
            by_cases hlt : k < n'
            · obtain ⟨b, off, rfl, _, hc⟩ := H2.out.2.at_ hlt
              generalize hv : t.getD k 0 = z at *
              have HV := Lib.hid hv
              clear hv
              by_cases h0 : z < -1048576
              · have d0 : decide (z < -1048576) = true := decide_eq_true h0
                have HR := Lib.hid (rightV_str_no (s := s) (o := o) (i := k) (t := t) (by rw [HL'.out]; exact hlt) (by rw [HV.out]; omega))
                go_wp2_with fail
                go_ret
                exact tellG_eq (by rw [HR.out]; rfl) HG2.out
              · have d0 : decide (z < -1048576) = false := decide_eq_false h0
                by_cases h1 : 1048576 < z
                · have d1 : decide ((1048576 : Int) < z) = true := decide_eq_true h1
                  have HR := Lib.hid (rightV_str_no (s := s) (o := o) (i := k) (t := t) (by rw [HL'.out]; exact hlt) (by rw [HV.out]; omega))
                  go_wp2_with fail
                  go_ret
                  exact tellG_eq (by rw [HR.out]; rfl) HG2.out
                · have d1 : decide ((1048576 : Int) < z) = false := decide_eq_false h1
                  go_wp2_with fail
                  go_round
                  case rel => exact ⟨k + 1, by omega, by go_num, fun j hj => by
                    by_cases hjk : j = k
                    · subst hjk; rw [HV.out]; omega
                    · exact HQ.out j (by omega)⟩
                  case measure => simp [intOf]; omega
            · obtain rfl : k = n' := by omega
              have HR := Lib.hid (rightV_yes (v := ⟨s, t, o⟩) ⟨HFT.out, by show t.length = s.length; rw [HL.out, HL'.out], HOO.out.1, HOO.out.2, fun i hi => HQ.out i (by rw [HL'.out] at hi; exact hi)⟩)
              go_wp2_with fail
              go_ret
              exact tellG_eq (by rw [HR.out]; rfl) HG2.out
    · have d0 : ((n' : Int) != (n : Int)) = true := by simp; omega
      have HR := Lib.hid (HNOT.out fun hp => hnn (by rw [← HL.out, ← HL'.out]; exact hp.2.1))
      clear hnn
      go_enter Try.func18, Try.ntmps18
      go_upto_region 1 with fail
      rw [← HW1.out]
      have x0 := HX.out.get 0
      have x1 := HX.out.get 1
      have x2 := HX.out.get 2
      go_wp2_with fail
      refine (HS.out _ HG1.out).mono ?_
      rintro e w2 ⟨rfl, m, rfl⟩
      go_wp2_with fail
      go_ret
      exact tellG_eq (by rw [HR.out]; rfl) (grown_drewN HG1.out _)
set_option maxHeartbeats 2000000 in
theorem ref8size_any (A A' : Option Addr) (n c n' c' : Nat) (s t : List Int) (o : Int) (w : World) (h : Nums w w.heap.size A n s) (hn : n ≤ 1048576) :
    Calls Try.prog 49 #[.agg #[.slice A n c, .slice A' n' c', .int .i64 o]] w (TellG (.int .i64 (cellsV ⟨s, t, o⟩)) w) := by
  have HS := Lib.hid (fun w' (hg : w.grownBy w' none) => ref7Size_any A n c _ s 1048576 w' (h.grow hg) hn)
  obtain ⟨w1, hw1⟩ : ∃ w1, w1 = w.alloc (.cells #[.slice A n c, .slice A' n' c', .int .i64 o] 24) := ⟨_, rfl⟩
  have HG1 := Lib.hid (show w.grownBy w1 none by rw [hw1]; exact World.grownBy_alloc _ _ _)
  have HX := Lib.hid (show Box w1 w.heap.size 24 #[.slice A n c, .slice A' n' c', .int .i64 o] by rw [hw1]; exact Box.fresh _ _ _)
  have HW1 := Lib.hid hw1
  have HFU := Lib.hid (show sizeV s 1048576 = cellsV ⟨s, t, o⟩ from rfl)
  clear h hw1
  go_enter Try.func49, Try.ntmps49
  go_upto_region 1 with fail
  rw [← HW1.out]
  have x0 := HX.out.get 0
  go_wp2_with fail
  refine (HS.out _ HG1.out).mono ?_
  rintro e w2 ⟨rfl, m, rfl⟩
  rw [HFU.out]
  go_wp2_with fail
  go_ret
  exact tellG_eq rfl (grown_drewN HG1.out _)
theorem Box.three8 {w : World} {b : Nat} {t : TypeId} {x y z : Value} (h : Box w b t #[x, y, z]) (u v s : Value) : w.cell? ⟨b, 0, none⟩ = some x ∧ w.cell? ⟨b, 1, none⟩ = some y ∧ w.cell? ⟨b, 2, none⟩ = some z ∧ w.frozen? ⟨b, 0, none⟩ = false ∧ w.frozen? ⟨b, 1, none⟩ = false ∧ w.frozen? ⟨b, 2, none⟩ = false ∧
    (((w.setCell ⟨b, 0, none⟩ u).setCell ⟨b, 1, none⟩ v).setCell ⟨b, 2, none⟩ s).cell? ⟨b, 0, none⟩ = some u ∧ (((w.setCell ⟨b, 0, none⟩ u).setCell ⟨b, 1, none⟩ v).setCell ⟨b, 2, none⟩ s).cell? ⟨b, 1, none⟩ = some v ∧ (((w.setCell ⟨b, 0, none⟩ u).setCell ⟨b, 1, none⟩ v).setCell ⟨b, 2, none⟩ s).cell? ⟨b, 2, none⟩ = some s :=
  ⟨by rw [h.get]; rfl, by rw [h.get]; rfl, by rw [h.get]; rfl, h.free 0, h.free 1, h.free 2, by rw [(((h.put 0 u).put 1 v).put 2 s).get]; rfl, by rw [(((h.put 0 u).put 1 v).put 2 s).get]; rfl, by rw [(((h.put 0 u).put 1 v).put 2 s).get]; rfl⟩
theorem grown_three {w w' : World} {b : Nat} (hg : w.grownBy w' none) (hb : w.heap.size ≤ b) (u v s : Value) : w.grownBy (((w'.setCell ⟨b, 0, none⟩ u).setCell ⟨b, 1, none⟩ v).setCell ⟨b, 2, none⟩ s) none := grown_put (grown_put (grown_put hg (.inr hb) u) (.inr hb) v) (.inr hb) s
/-- a view's own variable, and the one of the answer. -/
theorem boxes8 (w : World) (t : TypeId) (a z : Array Value) : Box ((w.alloc (.cells a t)).alloc (.cells z t)) w.heap.size t a ∧ Box ((w.alloc (.cells a t)).alloc (.cells z t)) (w.heap.size + 1) t z ∧ w.grownBy ((w.alloc (.cells a t)).alloc (.cells z t)) none :=
  ⟨(Box.fresh w t a).alloc _, by have := Box.fresh (w.alloc (.cells a t)) t z; rw [show (w.alloc (.cells a t)).heap.size = w.heap.size + 1 by simp] at this; exact this, grown_alloc (World.grownBy_alloc w _ none) _⟩
def GaveVP (p : Vw × Bool) (w : World) (e : Ending) (w' : World) : Prop := ∃ A n c A' n' c', e = .returned (.tuple #[.agg #[.slice A n c, .slice A' n' c', .int .i64 p.1.off], .bool p.2]) ∧ NumsF w' A n c p.1.sh ∧ NumsF w' A' n' c' p.1.st ∧ w.grownBy w' none
theorem gaveVP_no {p : Vw × Bool} {w w' : World} (h : p = (zeroV, false)) (hg : w.grownBy w' none) : GaveVP p w (.returned (.tuple #[.agg #[.slice none 0 0, .slice none 0 0, .int .i64 0], .bool false])) w' := by
  subst h
  exact ⟨none, 0, 0, none, 0, 0, rfl, numsF_nil _, numsF_nil _, hg⟩
theorem gaveVP_yes {p : Vw × Bool} {A A' : Option Addr} {n c n' c' : Nat} {s t : List Int} {o : Int} {w w' : World} (h : p = (⟨s, t, o⟩, true)) (h1 : NumsF w' A n c s) (h2 : NumsF w' A' n' c' t) (hg : w.grownBy w' none) : GaveVP p w (.returned (.tuple #[.agg #[.slice A n c, .slice A' n' c', .int .i64 o], .bool true])) w' := by
  subst h
  exact ⟨_, _, _, _, _, _, rfl, h1, h2, hg⟩
/-- what fine tells of each part: the view's own, or nothing. -/
def fineA (b : Bool) (A : Option Addr) : Option Addr := if b = true then A else none
def fineN (b : Bool) (n : Nat) : Nat := if b = true then n else 0
def fineI (b : Bool) (o : Int) : Int := if b = true then o else 0
theorem fine_gave {s t : List Int} {o : Int} {A A' : Option Addr} {n c n' c' : Nat} {w w' : World} {b : Bool} (hb : rightV ⟨s, t, o⟩ = b) (h1 : NumsF w' A n c s) (h2 : NumsF w' A' n' c' t) (hg : w.grownBy w' none) :
    GaveVP (fineV ⟨s, t, o⟩) w (.returned (.tuple #[.agg #[.slice (fineA b A) (fineN b n) (fineN b c), .slice (fineA b A') (fineN b n') (fineN b c'), .int .i64 (fineI b o)], .bool b])) w' := by
  cases b with
  | false => exact gaveVP_no (fine_no hb) hg
  | true => exact gaveVP_yes (fine_yes hb) h1 h2 hg
end Go.Proofs.Ytdjenakmdjiknaa
end

/-! Layer 8: the reference's axis, Offset. -/
section
namespace Go.Proofs.Ytdjenakmdjiknaa
open Go.ChangeShapes Go.WideShapes Go.ChangeAt Go.RowKit
set_option linter.unusedVariables false
set_option maxRecDepth 100000

theorem box8 (w : World) (t : TypeId) (a : Array Value) : Box (w.alloc (.cells a t)) w.heap.size t a ∧ w.grownBy (w.alloc (.cells a t)) none := ⟨Box.fresh w t a, World.grownBy_alloc w _ none⟩
theorem offV_no {v : Vw} {l : List Int} (h : offB v l = false) : offV v l = 0 := if_neg (by rw [h]; exact Bool.false_ne_true)
theorem offV_yes {v : Vw} {l : List Int} (h : offB v l = true) : offV v l = offE v l v.sh.length := if_pos h
theorem tellG_two {x y : Int} {a b : Bool} {w w' : World} (h1 : x = y) (h2 : a = b) (hg : w.grownBy w' none) : TellG (.tuple #[.int .i64 y, .bool b]) w (.returned (.tuple #[.int .i64 x, .bool a])) w' := by
  subst h1; subst h2; exact ⟨rfl, hg⟩
end Go.Proofs.Ytdjenakmdjiknaa
end

/-! Layer 8: the reference's with. -/
section
namespace Go.Proofs.Ytdjenakmdjiknaa
open Go.ChangeShapes Go.WideShapes Go.ChangeAt Go.RowKit
set_option linter.unusedVariables false
set_option maxRecDepth 100000

theorem own_put_other {w : World} {B n c g j : Nat} {A : Option Addr} {zs : List Int} (h : OwnI w B A n c zs) (hg : A.map (·.block) ≠ some g) (u : Value) : OwnI (w.setCell ⟨g, j, none⟩ u) B A n c zs :=
  ⟨h.1, h.2.kept (grown_put (grown_refl w (some g)) (.inl rfl) u) (.inr (by rw [map_own]; exact hg))⟩
theorem own_three {w : World} {B n c g : Nat} {A : Option Addr} {zs : List Int} (h : OwnI w B A n c zs) (hg : g < B) (u v s : Value) : OwnI (((w.setCell ⟨g, 0, none⟩ u).setCell ⟨g, 1, none⟩ v).setCell ⟨g, 2, none⟩ s) B A n c zs := by
  have hne : A.map (·.block) ≠ some g := fun e => by
    have := (h.2.lt g (by rw [map_own]; exact e)).1
    omega
  exact own_put_other (own_put_other (own_put_other h hne _) hne _) hne _
theorem two_put {w1 w4 w5 : World} {A1 A2 : Option Addr} {n k1 n' k2 i : Nat} {s t : List Int} (x y : Int) (h1 : OwnI w4 w1.heap.size A1 n k1 s) (h2 : OwnI w5 w4.heap.size A2 n' k2 t) (h01 : w1.grownBy w4 none) (hg : w4.grownBy w5 none) (hi : i < n) (hi' : i < n') :
    ∃ r1 r2, A1 = some ⟨r1, 0, none⟩ ∧ A2 = some ⟨r2, 0, none⟩ ∧ w5.cell? ⟨r1, i, none⟩ = some (.int .i64 (s.getD i 0)) ∧ w5.frozen? ⟨r1, i, none⟩ = false ∧ (w5.setCell ⟨r1, i, none⟩ (.int .i64 x)).cell? ⟨r2, i, none⟩ = some (.int .i64 (t.getD i 0)) ∧ (w5.setCell ⟨r1, i, none⟩ (.int .i64 x)).frozen? ⟨r2, i, none⟩ = false ∧
      OwnI ((w5.setCell ⟨r1, i, none⟩ (.int .i64 x)).setCell ⟨r2, i, none⟩ (.int .i64 y)) w1.heap.size (some ⟨r1, 0, none⟩) n k1 (s.set i x) ∧ OwnI ((w5.setCell ⟨r1, i, none⟩ (.int .i64 x)).setCell ⟨r2, i, none⟩ (.int .i64 y)) w1.heap.size (some ⟨r2, 0, none⟩) n' k2 (t.set i y) ∧
      w1.grownBy ((w5.setCell ⟨r1, i, none⟩ (.int .i64 x)).setCell ⟨r2, i, none⟩ (.int .i64 y)) none := by
  obtain ⟨r1, e1, hb1, _, _⟩ := h1.at_ hi
  subst e1
  have h1' := h1.grow hg
  obtain ⟨_, e1, _, hc1, hf1⟩ := h1'.at_ hi
  injection e1 with e1; injection e1 with e1; subst e1
  have hlt : r1 < w4.heap.size := by
    obtain ⟨r, e, h3, _⟩ := own_some h1
    injection e with e; subst e
    exact h3
  obtain ⟨r2, e2, hb2, _, _⟩ := h2.at_ hi'
  subst e2
  have hne : r1 ≠ r2 := by omega
  have h2' := own_put_other (g := r1) (j := i) h2 (by intro e; injection e with e; exact hne e.symm) (.int .i64 x)
  obtain ⟨_, e2, _, hc2, hf2⟩ := h2'.at_ hi'
  injection e2 with e2; injection e2 with e2; subst e2
  have hsz := h01.size
  exact ⟨r1, r2, rfl, rfl, hc1, hf1, hc2, hf2, own_put_other (h1'.put i x) (by intro e; injection e with e; exact hne e) _, (h2'.put i y).lower hsz, grown_put (grown_put (grown_join h01 hg (.inr (by simp))) (.inr hb1) _) (.inr (by omega)) _⟩
theorem fits_none {A : Option Addr} {n c : Nat} (h : Fits A n c) : A = none → n = 0 ∧ c = 0 := fun e => by
  have h1 := h.1
  have h2 := h.2 e
  omega
/-- append of numbers in a region that isn't drawn. -/
theorem list_append_ints {ops : Array Oper} {rest : List Oper} {o : Oper} {a : Act} {w : World} {Q : Exit → Act → World → Prop} {base n c m c' B : Nat} {A A' : Option Addr} {xs ys : List Int} (hgd : o.guard = none) (d s : Operand)
    (ho : o.op = .call { callee := .builtin .append, args := #[d, s], argTypes := #[22, 22] }) (hd : a.eval d = .slice A n c) (hs : a.eval s = .slice A' m c') (hown : OwnI w base A n c xs) (hsrc : Nums w B A' m ys) (hnone : A' = none → m = 0 ∧ c' = 0) (hb : base ≤ w.heap.size) (hle : n + m ≤ 4194304)
    (hK : ∀ A1 c1 w1, Hid (OwnI w1 base A1 (n + m) c1 (xs ++ ys)) → Hid (w.grownBy w1 (A.map (·.block))) → wpList Try.prog ops Q rest (a.put o.dst (.slice A1 (n + m) c1)) w1) : wpList Try.prog ops Q (o :: rest) a w := by
  refine wpList_plain hgd fun K hK' => ?_
  obtain ⟨A1, c1, w1, hrun, h1, h2⟩ := run_append_ints hown hsrc hnone hb hle o.type
  unfold Oper.wp execOp
  simp only [ho, resolve, invoke, builtin, Sem.run_bind, Sem.run_pure, Result.andThen_ok, List.map_toArray, List.map_cons, List.map_nil, hd, hs, hrun]
  exact hK' _ _ (hK _ _ _ (Lib.hid h1) (Lib.hid h2))
theorem new8 (w : World) (o : Obj) : (w.alloc o).heap[w.heap.size]? = some o := heap_alloc_new w o
/-- a view is told whose rows are the call's own. -/
def GaveVO (v : Vw) (w : World) (e : Ending) (w' : World) : Prop := ∃ A n c A' n' c', e = .returned (.agg #[.slice A n c, .slice A' n' c', .int .i64 v.off]) ∧ OwnI w' w.heap.size A n c v.sh ∧ OwnI w' w.heap.size A' n' c' v.st ∧ w.grownBy w' none
end Go.Proofs.Ytdjenakmdjiknaa
end

/-! Layer 8: the reference's Offsets. -/
section
namespace Go.Proofs.Ytdjenakmdjiknaa
open Go.ChangeShapes Go.WideShapes Go.ChangeAt Go.RowKit
set_option linter.unusedVariables false
set_option maxRecDepth 100000

def offsTo (v : Vw) (x : Nat) : List Int := (List.range x).map fun k : Nat => offE v (atL v.sh (k : Int)) v.sh.length
theorem offsTo_len (v : Vw) (x : Nat) : (offsTo v x).length = x := by simp [offsTo]
theorem offsTo_snoc (v : Vw) (x : Nat) : offsTo v (x + 1) = offsTo v x ++ [offE v (atL v.sh (x : Int)) v.sh.length] := by simp [offsTo, List.range_succ]
theorem offs_at {v : Vw} (hr : rightV v = true) {k : Nat} (hk : (k : Int) < cellsV v) : atB v.sh (k : Int) = true ∧ offB v (atL v.sh (k : Int)) = true := by
  have h1 : atB v.sh (k : Int) = true := by
    unfold atB
    rw [(rightV_all hr).1, decide_eq_true (show 0 ≤ (k : Int) ∧ (k : Int) < prodL v.sh by rw [← cells_right hr]; omega)]
    rfl
  refine ⟨h1, ?_⟩
  have h2 := (place_of_at h1).1
  unfold placeB at h2
  simp only [Bool.and_eq_true] at h2
  unfold offB
  rw [hr, h2.2]
  rfl
theorem offB_has {v : Vw} {l : List Int} (h : offB v l = true) : hasB v.sh l = true := by
  unfold offB at h
  simp only [Bool.and_eq_true] at h
  exact h.2
set_option maxHeartbeats 4000000 in
theorem ref8Offsets_any (A A' : Option Addr) (n c n' c' : Nat) (s t : List Int) (o : Int) (w : World) (h : NumsF w A n c s) (h' : NumsF w A' n' c' t) (hn : n ≤ 1048576) (hn' : n' ≤ 1048576) (hr : rightV ⟨s, t, o⟩ = true) :
    Calls Try.prog 31 #[.agg #[.slice A n c, .slice A' n' c', .int .i64 o]] w (GaveInts (offsL ⟨s, t, o⟩) w) := by
  have HZ := Lib.hid (fun w' (hg : w.grownBy w' none) => ref8size_any A A' n c n' c' s t o w' (h.1.grow hg) hn)
  have HAT := Lib.hid (fun p w' (hg : w.grownBy w' none) => ref7At_any A n c s p w' (h.1.grow hg) hn)
  have H := Lib.hid h
  have H' := Lib.hid h'
  have HRT := Lib.hid hr
  have hcb : 0 ≤ cellsV ⟨s, t, o⟩ ∧ cellsV ⟨s, t, o⟩ ≤ 1048576 := by
    rw [cells_right hr]
    exact ⟨prod_nonneg fun z hz => by
      obtain ⟨i, hi, rfl⟩ := List.getElem_of_mem hz
      have := (rightV_len hr (i := i) hi).1
      simpa [List.getD, hi] using this, (full_all (rightV_all hr).1).2⟩
  have HOA := Lib.hid (fun (k : Nat) (hk : (k : Int) < cellsV ⟨s, t, o⟩) => offs_at hr hk)
  obtain ⟨C, hC⟩ : ∃ C : Nat, cellsV ⟨s, t, o⟩ = (C : Int) := ⟨(cellsV ⟨s, t, o⟩).toNat, by omega⟩
  have HOL := Lib.hid (show offsL ⟨s, t, o⟩ = offsTo ⟨s, t, o⟩ C by unfold offsL offsTo; rw [hC]; rfl)
  rw [hC] at HZ HOA hcb
  obtain ⟨w1, hw1⟩ : ∃ w1, w1 = w.alloc (.cells #[.slice A n c, .slice A' n' c', .int .i64 o] 24) := ⟨_, rfl⟩
  have hb := box8 w 24 #[.slice A n c, .slice A' n' c', .int .i64 o]
  rw [← hw1] at hb
  obtain ⟨hx, hg1⟩ := hb
  have HX := Lib.hid hx
  have HG1 := Lib.hid hg1
  have HW1 := Lib.hid hw1
  clear h h' hw1 hx hg1 hC hr
  go_enter Try.func31, Try.ntmps31
  go_upto_region 1 with fail
  rw [← HW1.out]
  go_wp2_with fail
  go_loopw [3, 4] (fun v i wr => ∃ (x : Nat) (B : Option Addr) (d : Nat), x ≤ C ∧ i = .int .i64 x ∧ v = .slice B x d ∧ OwnI wr w1.heap.size B x d (offsTo ⟨s, t, o⟩ x) ∧ w1.grownBy wr none) (fun _ i _ => C - (intOf i).toNat)
  case atStart => exact ⟨0, none, 0, Nat.zero_le _, rfl, rfl, OwnI.nil _ _, grown_refl _ _⟩
  case round =>
    obtain ⟨x, B, d, hx, rfl, rfl, ho, hg⟩ := hrel
    have HO := Lib.hid ho
    have HG := Lib.hid hg
    have HG2 := Lib.hid (grown_join HG1.out hg (.inr (by simp)))
    have HX2 := Lib.hid (HX.out.grown hg (by simp))
    clear ho hg
    have x0 := HX2.out.get 0
    have x1 := HX2.out.get 1
    have x2 := HX2.out.get 2
    go_wp2_with fail
    refine (HZ.out _ HG2.out).mono ?_
    rintro e w3 ⟨rfl, hg⟩
    have HG3 := Lib.hid (grown_join HG2.out hg (.inr (by simp)))
    have HG13 := Lib.hid (grown_join HG.out hg (.inr (by simp)))
    have HX3 := Lib.hid (HX2.out.grown hg (by simp))
    have HO3 := Lib.hid (HO.out.grow hg)
    clear x0 x1 x2 hg
    have x0 := HX3.out.get 0
    by_cases hlt : x < C
    · have HOX := Lib.hid (HOA.out x (by omega))
      go_wp2_with fail
      refine (HAT.out _ _ HG3.out).mono ?_
      rintro e w4 ⟨A2, c2, rfl, h4, hg⟩
      obtain ⟨n2, hn2⟩ : ∃ n2, n2 = (atL s (x : Int)).length := ⟨_, rfl⟩
      rw [← hn2] at h4 ⊢
      have HN2 := Lib.hid (show n2 = s.length by rw [hn2]; exact atL_length HOX.out.1)
      have H4 := Lib.hid h4
      have HG4 := Lib.hid (grown_join HG3.out hg (.inr (by simp)))
      have HG14 := Lib.hid (grown_join HG13.out hg (.inr (by simp)))
      have HX4 := Lib.hid (HX3.out.grown hg (by simp))
      have HO4 := Lib.hid (HO3.out.grow hg)
      clear x0 hg h4 hn2
      have x2 := HX4.out.get 2
      go_wp2_with fail
      obtain ⟨l, hl⟩ : ∃ l, l = atL s (x : Int) := ⟨_, rfl⟩
      have HLE := Lib.hid hl
      rw [← hl] at HOX H4
      have HHS := Lib.hid (has_all (offB_has HOX.out.2))
      have HOF := Lib.hid HOX.out.2
      clear x2 hl
      go_loopw [7, 8] (fun v i wr => ∃ k m : Nat, k ≤ n2 ∧ i = .int .i64 k ∧ v = .int .i64 (offE ⟨s, t, o⟩ l k) ∧ wr = w4.drewN m) (fun _ i _ => n2 - (intOf i).toNat)
      case atStart => exact ⟨0, 0, Nat.zero_le _, rfl, rfl, rfl⟩
      case round =>
        obtain ⟨k, m, hk, rfl, rfl, hwr⟩ := hrel
        have HG5 := Lib.hid (grown_drewN HG4.out m)
        by_cases hkt : k < n2
        · have hks : k < s.length := by rw [← HN2.out]; exact hkt
          have hk' : k < n' := by rw [← H'.out.len, (rightV_all HRT.out).2.1]; exact hks
          obtain ⟨b, off, rfl, _, hc⟩ := (H'.out.grow HG5.out).1.2.at_ hk'
          obtain ⟨b', off', rfl, _, hc'⟩ := (H4.out.drewN m).nums.2.at_ hkt
          have x1 := (HX4.out.drewN m).get 1
          have hb1 := offE_in HOF.out k (by show k ≤ s.length; omega)
          have hb2 := offE_in HOF.out (k + 1) (by show k + 1 ≤ s.length; omega)
          have hb3 := rightV_len HRT.out (i := k) hks
          have hb4 := rightV_str HRT.out (i := k) hks
          have hb5 := HHS.out.2.2 k hks
          have hb6 := times_in hb5.1 (by have := hb3.2; show l.getD k 0 ≤ 1048576; dsimp only at *; omega) hb4.1 hb4.2
          have hb7 : k ≤ 6 := by have := rightV_dims HRT.out; dsimp only at this; omega
          have HST := Lib.hid (show offE ⟨s, t, o⟩ l (k + 1) = offE ⟨s, t, o⟩ l k + l.getD k 0 * t.getD k 0 from rfl)
          rw [HST.out] at hb2
          dsimp only at hb6
          rw [← hwr] at hc hc' x1
          have HW := Lib.hid hwr
          clear hwr hb3 hb4 hb5
          generalize offE ⟨s, t, o⟩ l k = q at *
          generalize l.getD k 0 = u at *
          generalize t.getD k 0 = z at *
          have e1 : IntKind.i64.wrap (u * z) = u * z := IntWalk.i64_in _ (by omega)
          have e2 : IntKind.i64.wrap (q + u * z) = q + u * z := IntWalk.i64_in _ (by omega)
          have e3 : wrap64 (u * z) = u * z := IntWalk.wrap64_in _ (by omega)
          have e4 : wrap64 (q + u * z) = q + u * z := IntWalk.wrap64_in _ (by omega)
          clear hb1 hb2 hb6 hb7 hks
          go_wp2
          go_quiet (fail)
          go_wp2
          go_roundw
          case rel => exact ⟨k + 1, _, by omega, by go_num, by rw [HST.out], by rw [HW.out, World.drewN_drewN]⟩
          case measure => simp [intOf]; omega
        · obtain rfl : k = n2 := by omega
          subst hwr
          have HSN := Lib.hid (show offsTo ⟨s, t, o⟩ x ++ [offE ⟨s, t, o⟩ l k] = offsTo ⟨s, t, o⟩ (x + 1) by rw [offsTo_snoc, HLE.out, HN2.out])
          have hz14 := (grown_alloc (grown_drewN HG14.out m) (.cells #[.int .i64 (offE ⟨s, t, o⟩ l k)] 3)).size
          go_wp2_with (at_builtin; refine list_append_ints rfl (.tmp 42) (.tmp 44) rfl (by rfl) (by rfl) (base := w1.heap.size) (xs := offsTo ⟨s, t, o⟩ x) (ys := [offE ⟨s, t, o⟩ l k]) ((HO4.out.drewN m).grow (World.grownBy_alloc _ _ none)) (ints_one (one7 _ _)) (fun e => by cases e) hz14 (by omega) ?_; intro B5 d5 w5 ho5 hg5; have HG5' : Hid (w1.grownBy w5 none) := Lib.hid (grown_join (grown_alloc (grown_drewN HG14.out m) _) hg5.out (.inr fun b hb => (HO4.out.2.lt b (by rw [map_own]; exact hb)).1)); clear hg5)
          rw [HSN.out] at ho5
          go_roundw
          case rel => exact ⟨x + 1, B5, d5, by omega, by go_num, rfl, ho5.out, HG5'.out⟩
          case measure => simp [intOf]; omega
    · obtain rfl : x = C := by omega
      have HOC := Lib.hid (ints_as (offsTo_len ⟨s, t, o⟩ x).symm rfl HO3.out)
      go_wp2_with fail
      go_ret
      exact gave_ints HOL.out (HO3.out.lower HG1.out.size) HG3.out
end Go.Proofs.Ytdjenakmdjiknaa
end

/-! Layer 9: the reference's Collect; the law's ints, light. -/
section
namespace Go.Proofs.Ytdjenakmdjiknaa
open Go.ChangeShapes Go.WideShapes Go.ChangeAt Go.RowKit
set_option linter.unusedVariables false
set_option maxRecDepth 100000

/-- where all cells of a view stand; none of one that is not right. -/
def colL (v : Vw) : List Int := if rightV v = true then offsL v else []
theorem col_yes {v : Vw} (h : rightV v = true) : colL v = offsL v := if_pos h
theorem col_no {v : Vw} (h : rightV v = false) : colL v = [] := if_neg (by rw [h]; exact Bool.false_ne_true)
set_option maxHeartbeats 1000000 in
theorem ref9Collect_any (A A' : Option Addr) (n c n' c' : Nat) (s t : List Int) (o : Int) (w : World) (h : NumsF w A n c s) (h' : NumsF w A' n' c' t) (hn : n ≤ 1048576) (hn' : n' ≤ 1048576) :
    Calls Try.prog 13 #[.agg #[.slice A n c, .slice A' n' c', .int .i64 o]] w (GaveInts (colL ⟨s, t, o⟩) w) := by
  have HR := Lib.hid (fun w' (hg : w.grownBy w' none) => ref8Right_any A A' n c n' c' s t o w' (h.1.grow hg) (h'.1.grow hg) hn hn')
  have HO := Lib.hid (fun w' (hg : w.grownBy w' none) hr => ref8Offsets_any A A' n c n' c' s t o w' (h.grow hg) (h'.grow hg) hn hn' hr)
  obtain ⟨w1, hw1⟩ : ∃ w1, w1 = w.alloc (.cells #[.slice A n c, .slice A' n' c', .int .i64 o] 24) := ⟨_, rfl⟩
  have hb := box8 w 24 #[.slice A n c, .slice A' n' c', .int .i64 o]
  rw [← hw1] at hb
  obtain ⟨hx, hg1⟩ := hb
  have HX := Lib.hid hx
  have HG1 := Lib.hid hg1
  have HW1 := Lib.hid hw1
  clear h h' hw1 hx hg1
  cases hr : rightV ⟨s, t, o⟩ with
  | false =>
    rw [hr] at HR
    have HE := Lib.hid (col_no hr)
    clear hr
    go_enter Try.func13, Try.ntmps13
    go_upto_region 1 with fail
    rw [← HW1.out]
    have x0 := HX.out.get 0
    have x1 := HX.out.get 1
    have x2 := HX.out.get 2
    go_wp2_with fail
    refine (HR.out _ HG1.out).mono ?_
    rintro e w2 ⟨rfl, hg⟩
    have HG2 := Lib.hid (grown_join HG1.out hg (.inr (by simp)))
    clear hg x0 x1 x2
    go_wp2_with fail
    go_ret
    rw [HE.out]
    exact ⟨none, 0, rfl, OwnI.nil _ _, HG2.out⟩
  | true =>
    rw [hr] at HR
    have HE := Lib.hid (col_yes hr)
    have HOR := Lib.hid (fun w' (hg : w.grownBy w' none) => HO.out w' hg hr)
    clear hr HO
    go_enter Try.func13, Try.ntmps13
    go_upto_region 1 with fail
    rw [← HW1.out]
    have x0 := HX.out.get 0
    have x1 := HX.out.get 1
    have x2 := HX.out.get 2
    go_wp2_with fail
    refine (HR.out _ HG1.out).mono ?_
    rintro e w2 ⟨rfl, hg⟩
    have HG2 := Lib.hid (grown_join HG1.out hg (.inr (by simp)))
    have HX2 := Lib.hid (HX.out.grown hg (by simp))
    clear hg x0 x1 x2
    have x0 := HX2.out.get 0
    have x1 := HX2.out.get 1
    have x2 := HX2.out.get 2
    go_wp2_with fail
    refine (HOR.out _ HG2.out).mono ?_
    rintro e w3 ⟨B, d, rfl, ho, hg⟩
    have HB := Lib.hid (ho.lower HG2.out.size)
    have HG3 := Lib.hid (grown_join HG2.out hg (.inr (by simp)))
    clear hg ho x0 x1 x2
    rw [← HE.out] at HB ⊢
    go_wp2_with fail
    go_ret
    exact ⟨B, d, rfl, HB.out, HG3.out⟩
end Go.Proofs.Ytdjenakmdjiknaa
end
