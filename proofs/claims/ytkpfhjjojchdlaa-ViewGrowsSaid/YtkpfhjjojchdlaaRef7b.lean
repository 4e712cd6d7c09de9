/-
  Layer 7: the reference's Strides, At.
-/
import Derived.Test.YtkpfhjjojchdlaaRef7a
import Derived.Deep.CutBlock
namespace Go.Proofs.Ytkpfhjjojchdlaa
open Go.ChangeShapes Go.WideShapes Go.ChangeAt Go.RowKit
set_option linter.unusedVariables false
set_option maxRecDepth 100000

/-- a row of n numbers that is filled from its end on: the last x of them are there. -/
def fillL (n : Nat) (f : Nat → Int) (x : Nat) : List Int := (List.range n).map fun i => if n ≤ i + x then f i else 0
theorem fill_length (n : Nat) (f : Nat → Int) (x : Nat) : (fillL n f x).length = n := by simp [fillL]
theorem fill_start (n : Nat) (f : Nat → Int) : fillL n f 0 = List.replicate n 0 := by
  apply List.ext_getElem
  · simp [fillL]
  · intro i h1 h2
    have : i < n := by simpa [fillL] using h1
    simp [fillL, show ¬ n ≤ i by omega]
theorem fill_set {n : Nat} {f : Nat → Int} {x : Nat} (hx : x < n) : (fillL n f x).set (n - 1 - x) (f (n - 1 - x)) = fillL n f (x + 1) := by
  apply List.ext_getElem
  · simp [fillL]
  · intro i h1 h2
    have hi : i < n := by simpa [fillL] using h2
    rw [List.getElem_set]
    by_cases e : n - 1 - x = i
    · subst e
      simp [fillL, show n ≤ n - 1 - x + (x + 1) by omega]
    · rw [if_neg e]
      simp only [fillL, List.getElem_map, List.getElem_range]
      by_cases h : n ≤ i + x
      · rw [if_pos h, if_pos (by omega)]
      · rw [if_neg h, if_neg (by omega)]
theorem fill_end (n : Nat) (f : Nat → Int) : fillL n f n = (List.range n).map f := by
  apply List.ext_getElem
  · simp [fillL]
  · intro i h1 h2
    simp [fillL]
theorem stride_yes {s : List Int} (h : strB s = true) : stridesL s = fillL s.length (fun i => strE s (s.length - 1 - i)) s.length := by
  rw [fill_end]; unfold stridesL; rw [if_pos h]
theorem gave_ints {zs ys : List Int} {w w' : World} {A : Option Addr} {n c : Nat} (e : zs = ys) (h : OwnI w' w.heap.size A n c ys) (hg : w.grownBy w' none) : GaveInts zs w (.returned (.slice A n c)) w' := by
  subst e
  obtain rfl : zs.length = n := h.1
  exact ⟨A, c, rfl, h, hg⟩
/-- the strides are told; nil is told just where there are none. -/
def GaveStr (s : List Int) (w : World) (e : Ending) (w' : World) : Prop := ∃ A n c, e = .returned (.slice A n c) ∧ OwnI w' w.heap.size A n c (stridesL s) ∧ w.grownBy w' none ∧ A.isNone = !strB s
theorem GaveStr.ints {s : List Int} {w w' : World} {e : Ending} (h : GaveStr s w e w') : GaveInts (stridesL s) w e w' := by
  obtain ⟨A, n, c, rfl, ho, hg, _⟩ := h
  exact gave_ints rfl ho hg
theorem gave_str {s ys : List Int} {w w' : World} {A : Option Addr} {n c : Nat} (e : stridesL s = ys) (hA : A.isNone = !strB s) (h : OwnI w' w.heap.size A n c ys) (hg : w.grownBy w' none) : GaveStr s w (.returned (.slice A n c)) w' := by
  subst e; exact ⟨A, n, c, rfl, h, hg, hA⟩
theorem gave_intsB {zs ys : List Int} {b d : Bool} {w w' : World} {A : Option Addr} {n c : Nat} (e : zs = ys) (hb : b = d) (h : OwnI w' w.heap.size A n c ys) (hg : w.grownBy w' none) : GaveIntsB zs b w (.returned (.tuple #[.slice A n c, .bool d])) w' := by
  subst e; subst hb
  obtain rfl : zs.length = n := h.1
  exact ⟨A, c, rfl, h, hg⟩
theorem gave_noneB {zs : List Int} {b : Bool} {w w' : World} (e : zs = []) (hb : b = false) (hg : w.grownBy w' none) : GaveIntsB zs b w (.returned (.tuple #[.slice none 0 0, .bool false])) w' :=
  gave_intsB e hb (OwnI.nil _ _) hg
theorem cell_kept7 {w : World} {b i : Nat} {v : Value} (h : w.cell? ⟨b, i, none⟩ = some v) {g : Nat} (hne : b ≠ g) (j : Nat) (u : Value) : (w.setCell ⟨g, j, none⟩ u).cell? ⟨b, i, none⟩ = some v := by
  rw [World.cell?_setCell_other]
  · exact h
  · intro e; injection e with e; exact hne e.symm
set_option maxHeartbeats 2000000 in
theorem ref7StridesN_any (A : Option Addr) (n c : Nat) (s : List Int) (w : World) (h : Nums w w.heap.size A n s) (hn : n ≤ 1048576) :
    Calls Try.prog 41 #[.slice A n c] w (GaveStr s w) := by
  have HR := Lib.hid (ref7Right_any A n c _ s w h hn)
  have H := Lib.hid h
  have HL := Lib.hid h.1
  clear h
  have HNO := Lib.hid (show strB s = false → stridesL s = [] from fun hb => by unfold stridesL; rw [hb]; rfl)
  cases hr : rightS s with
  | false =>
    rw [hr] at HR
    have HBF := Lib.hid (show strB s = false by unfold strB; rw [hr]; rfl)
    have HE := Lib.hid (HNO.out HBF.out)
    clear hr
    go_enter Try.func41, Try.ntmps41
    go_wp2_with fail
    refine HR.out.mono ?_
    rintro e w1 ⟨rfl, rfl⟩
    go_wp2_with fail
    go_ret
    exact gave_str HE.out (by rw [HBF.out]; rfl) (OwnI.nil _ _) (grown_refl _ _)
  | true =>
    rw [hr] at HR
    have hn6 : n ≤ 6 := by rw [← HL.out]; exact (right_all hr).2
    have HST := Lib.hid (show ∀ j, strE s (j + 1) = strE s j * max 1 (s.getD (n - 1 - j) 0) from fun j => by rw [strE, HL.out])
    have HSB := Lib.hid (show ∀ b, decide (strE s (n - 1) ≤ 1048576) = b → strB s = b from fun b hb => by unfold strB; rw [hr, HL.out, hb]; rfl)
    have HRA := Lib.hid (fun i hi => right_at hr (i := i) hi)
    obtain ⟨Z, hmk, hZ⟩ := ints_zeros w n (by omega)
    have HZ := Lib.hid hZ
    obtain ⟨g, hg⟩ : ∃ g, g = w.heap.size := ⟨_, rfl⟩
    have HG0 := Lib.hid hg
    have HF := Lib.hid (show strB s = true → stridesL s = fillL n (fun i => strE s (n - 1 - i)) n from fun hb => by rw [stride_yes hb, HL.out])
    clear hr hZ hg
    go_enter Try.func41, Try.ntmps41
    go_wp2_with fail
    refine HR.out.mono ?_
    rintro e w1 ⟨rfl, rfl⟩
    go_wp2_with fail
    rw [← HG0.out]
    go_loopw [4, 5] (fun v i wr => ∃ x : Nat, (x < n ∨ x = 0) ∧ i = .int .i64 ((n : Int) - 1 - x) ∧ v = .int .i64 (strE s x) ∧ strE s x ≤ 1048576 ∧ OwnI wr w1.heap.size (some ⟨g, 0, none⟩) n n (fillL n (fun i => strE s (n - 1 - i)) x) ∧ w1.grownBy wr none) (fun _ i _ => (intOf i + 1).toNat)
    case atStart => exact ⟨0, .inr rfl, by simp, rfl, by rw [strE]; omega, by rw [fill_start, HG0.out]; exact HZ.out w1 _ (Nat.le_refl _), World.grownBy_alloc _ _ _⟩
    case round =>
      obtain ⟨x, hx, rfl, rfl, hle, ho, hg⟩ := hrel
      have HO := Lib.hid ho
      have HG := Lib.hid hg
      have hpos := str_pos s x
      clear ho
      by_cases hlt : x < n
      · obtain ⟨y, hy⟩ : ∃ y, y = n - 1 - x := ⟨_, rfl⟩
        have e1 : (n : Int) - 1 - (x : Int) = (y : Int) := by omega
        have hyn : y < n := by omega
        rw [e1]
        obtain ⟨r, hr, _, c0, f0⟩ := HO.out.at_ hyn
        injection hr with hr
        injection hr with hr
        subst hr
        obtain ⟨b, off, rfl, hb0, k0⟩ := (H.out.keep hg (Nat.le_refl _)).2.at_ hyn
        have hb0 : b ≠ g := by rw [HG0.out]; omega
        have HSX := Lib.hid (HST.out x)
        rw [show n - 1 - x = y from hy.symm] at HSX
        have hz0 := HRA.out y (by rw [HL.out]; exact hyn)
        have HFS := Lib.hid (show (fillL n (fun i => strE s (n - 1 - i)) x).set y (strE s x) = fillL n (fun i => strE s (n - 1 - i)) (x + 1) by
          have := fill_set (f := fun i => strE s (n - 1 - i)) hlt
          rw [show n - 1 - x = y from hy.symm, show n - 1 - y = x by omega] at this
          exact this)
        have HPU := Lib.hid (HO.out.put y (strE s x))
        rw [HFS.out] at HPU
        have HGP := Lib.hid (grown_put (j := y) HG.out (.inr (show w1.heap.size ≤ g by rw [HG0.out]; exact Nat.le_refl _)) (.int .i64 (strE s x)))
        generalize s.getD y 0 = z at *
        have kz := cell_kept7 k0 hb0 y (.int .i64 (strE s x))
        obtain ⟨W2, hW2⟩ : ∃ W2, W2 = wr.setCell ⟨g, y, none⟩ (.int .i64 (strE s x)) := ⟨_, rfl⟩
        rw [← hW2] at HPU HGP kz
        have HY := Lib.hid hy
        have HW2 := Lib.hid hW2
        clear hy hW2
        have d0 : decide ((0 : Int) ≤ (y : Int)) = true := by simp
        go_upto_region 9 with fail
        rw [← HW2.out]
        clear c0 f0 k0
        by_cases hy0 : y = 0
        · have d1 : ((y : Int) == 0) = true := by simp; exact hy0
          have HX1 := Lib.hid (show x + 1 = n by have := HY.out; omega)
          have HSY := Lib.hid (HSB.out true (by rw [decide_eq_true_eq, show n - 1 = x by have := HX1.out; omega]; exact hle))
          rw [HX1.out] at HPU
          clear hy0
          go_wp2
          go_ret
          exact gave_str (HF.out HSY.out) (by rw [HSY.out]; rfl) HPU.out HGP.out
        · have d1 : ((y : Int) == 0) = false := by simp; omega
          have HX1 := Lib.hid (show x + 1 < n by have := HY.out; omega)
          clear hy0
          generalize hP : strE s x = P at *
          have HP := Lib.hid hP
          clear hP
          obtain ⟨k, hk⟩ : ∃ k, k = max 1 z := ⟨_, rfl⟩
          have hk1 : 1 ≤ k := by omega
          rw [← hk] at HSX
          have hmx : (if 1 < z then z else 1) = k := by
            by_cases h : 1 < z
            · rw [if_pos h]; omega
            · rw [if_neg h]; omega
          have HSM := Lib.hid (str_mono s (i := x + 1) (n - 1) (by have := HX1.out; omega))
          have HQL := Lib.hid (quo_lt k P 1048576 hpos)
          have HKP := Lib.hid (Int.mul_comm k P)
          clear hk
          by_cases hgo : P * k ≤ 1048576
          · have hd1 : k ≤ 1048576 / P := Int.not_lt.1 fun h => by
              have h1 := HQL.out.1 h
              rw [HKP.out] at h1
              exact absurd hgo (Int.not_le.2 h1)
            have hw1 : IntKind.i64.wrap (P * k) = P * k := IntWalk.i64_in _ (by have := Int.mul_nonneg (show 0 ≤ P by omega) (show 0 ≤ k by omega); omega)
            have hw2 : wrap64 (P * k) = P * k := IntWalk.wrap64_in _ (by have := Int.mul_nonneg (show 0 ≤ P by omega) (show 0 ≤ k by omega); omega)
            have HGO := Lib.hid hgo
            clear hgo
            go_wp2
            go_roundw
            case rel => exact ⟨x + 1, .inl HX1.out, congrArg (Value.int .i64) (by have := HY.out; have := HX1.out; omega), congrArg (Value.int .i64) (by rw [HSX.out]), by rw [HSX.out]; exact HGO.out, HPU.out, HGP.out⟩
            case measure => simp [intOf]
          · have hd1 : 1048576 / P < k := HQL.out.2 (by rw [HKP.out]; exact Int.not_le.1 hgo)
            have HBF := Lib.hid (HSB.out false (by rw [decide_eq_false_iff_not]; have := HSM.out; rw [HSX.out] at this; omega))
            have HNB := Lib.hid (HNO.out HBF.out)
            clear hgo
            go_wp2
            go_ret
            exact gave_str HNB.out (by rw [HBF.out]; rfl) (OwnI.nil _ _) HGP.out
      · obtain rfl : n = 0 := by omega
        obtain rfl : x = 0 := by omega
        have HSY := Lib.hid (HSB.out true (decide_eq_true (show strE s 0 ≤ 1048576 by rw [strE]; omega)))
        go_wp2
        go_ret
        exact gave_str (HF.out HSY.out) (by rw [HSY.out]; rfl) HO.out HG.out
theorem ref7Strides_any (A : Option Addr) (n c : Nat) (s : List Int) (w : World) (h : Nums w w.heap.size A n s) (hn : n ≤ 1048576) :
    Calls Try.prog 41 #[.slice A n c] w (GaveInts (stridesL s) w) := (ref7StridesN_any A n c s w h hn).mono fun _ _ h => h.ints
theorem at_yes {s : List Int} {p : Int} (h : atB s p = true) : atL s p = fillL s.length (digE s p) s.length := by
  rw [fill_end]; unfold atL; rw [if_pos h]
set_option maxHeartbeats 2000000 in
theorem ref7At_any (A : Option Addr) (n c : Nat) (s : List Int) (p : Int) (w : World) (h : Nums w w.heap.size A n s) (hn : n ≤ 1048576) :
    Calls Try.prog 85 #[.slice A n c, .int .i64 p] w (GaveIntsB (atL s p) (atB s p) w) := by
  have HSI := Lib.hid (ref7Size_any A n c _ s 1048576 w h hn)
  have H := Lib.hid h
  have HL := Lib.hid h.1
  clear h
  have HAN := Lib.hid (show atB s p = false → atL s p = [] from fun hb => by unfold atL; rw [hb]; rfl)
  have HAB := Lib.hid (show ∀ b, full s = b → atB s p = (b && decide (0 ≤ p ∧ p < prodL s)) from fun b hb => by unfold atB; rw [hb])
  have HFU := Lib.hid (show sizeB s 1048576 = full s from rfl)
  have HSY := Lib.hid (fun (hb : sizeB s 1048576 = true) => size_yes hb)
  cases hf : full s with
  | false =>
    rw [HFU.out, hf] at HSI
    have HNB := Lib.hid (show atB s p = false by rw [HAB.out _ hf]; rfl)
    have HNL := Lib.hid (HAN.out HNB.out)
    clear hf
    go_enter Try.func85, Try.ntmps85
    go_wp2_with fail
    refine HSI.out.mono ?_
    rintro e w1 ⟨rfl, m1, rfl⟩
    go_wp2_with fail
    go_ret2
    exact gave_noneB HNL.out HNB.out (grown_drewN (grown_refl _ _) _)
  | true =>
    rw [HFU.out, hf, HSY.out hf] at HSI
    have HFA := Lib.hid (full_all hf)
    by_cases hp : 0 ≤ p ∧ p < prodL s
    · have HY := Lib.hid (show atB s p = true by rw [HAB.out _ hf]; simp only [Bool.true_and, decide_eq_true_eq]; exact hp)
      have HYL := Lib.hid (at_yes HY.out)
      have HON := Lib.hid (at_ones HY.out)
      have HRI := Lib.hid (fun j hj => rest_in HON.out hp.1 hp.2 j hj)
      have HRS := Lib.hid (show ∀ j, restE s p (j + 1) = restE s p j / s.getD (n - 1 - j) 0 from fun j => by rw [restE, HL.out])
      have HDG := Lib.hid (show ∀ i, digE s p i = restE s p (n - 1 - i) % s.getD i 0 from fun i => by rw [digE, HL.out])
      have hn6 : n ≤ 6 := by rw [← HL.out]; exact (right_all HFA.out.1).2
      have h1 := hp.1
      have h2 := hp.2
      have hle := HFA.out.2
      obtain ⟨Z, hmk, hZ⟩ := ints_zeros w n (by omega)
      have HZ := Lib.hid hZ
      obtain ⟨g, hg⟩ : ∃ g, g = w.heap.size := ⟨_, rfl⟩
      have HG0 := Lib.hid hg
      have HPL := Lib.hid (fun j => prodL_mono s j HON.out)
      have HPM := Lib.hid hle
      rw [HL.out] at HYL
      clear hf hp hZ hg
      go_enter Try.func85, Try.ntmps85
      go_wp2_with fail
      refine HSI.out.mono ?_
      rintro e w1 ⟨rfl, m1, rfl⟩
      go_wp2_with fail
      rw [← HG0.out]
      go_loopw [1, 9] (fun v i wr => ∃ x : Nat, x ≤ n ∧ i = .int .i64 ((n : Int) - 1 - x) ∧ v = .int .i64 (restE s p x) ∧ OwnI wr w.heap.size (some ⟨g, 0, none⟩) n n (fillL n (digE s p) x) ∧ w.grownBy wr none) (fun _ i _ => (intOf i + 1).toNat)
      case atStart => exact ⟨0, Nat.zero_le _, by simp, rfl, by rw [fill_start, HG0.out]; exact HZ.out (w.drewN m1) _ (Nat.le_refl _), grown_alloc (grown_drewN (grown_refl _ _) _) _⟩
      case round =>
        obtain ⟨x, hx, rfl, rfl, ho, hg⟩ := hrel
        have HO := Lib.hid ho
        have HG := Lib.hid hg
        clear ho
        by_cases hlt : x < n
        · obtain ⟨y, hy⟩ : ∃ y, y = n - 1 - x := ⟨_, rfl⟩
          have e1 : (n : Int) - 1 - (x : Int) = (y : Int) := by omega
          have hyn : y < n := by omega
          rw [e1]
          obtain ⟨r, hr, _, c0, f0⟩ := HO.out.at_ hyn
          injection hr with hr
          injection hr with hr
          subst hr
          obtain ⟨b, off, rfl, hb0, k0⟩ := (H.out.keep hg (Nat.le_refl _)).2.at_ hyn
          have hb0 : b ≠ g := by rw [HG0.out]; omega
          have hri := HRI.out x (by rw [HL.out]; omega)
          have hri2 := HPL.out (s.length - x)
          have HRX := Lib.hid (HRS.out x)
          have HDX := Lib.hid (HDG.out y)
          rw [show n - 1 - x = y from hy.symm] at HRX
          rw [show n - 1 - y = x by omega] at HDX
          have hz1 := getD_one HON.out (k := y) (by rw [HL.out]; exact hyn)
          have hz2 := right_at HFA.out.1 (i := y) (by rw [HL.out]; exact hyn)
          have HFS := Lib.hid (show (fillL n (digE s p) x).set y (digE s p y) = fillL n (digE s p) (x + 1) by
            have := fill_set (f := digE s p) hlt
            rw [show n - 1 - x = y from hy.symm] at this
            exact this)
          have HPU := Lib.hid (HO.out.put y (digE s p y))
          rw [HFS.out] at HPU
          have HGP := Lib.hid (grown_put (j := y) HG.out (.inr (show w.heap.size ≤ g by rw [HG0.out]; exact Nat.le_refl _)) (.int .i64 (digE s p y)))
          have kz := cell_kept7 k0 hb0 y (.int .i64 (digE s p y))
          rw [HDX.out] at HPU HGP kz
          generalize restE s p x = v at *
          generalize s.getD y 0 = z at *
          obtain ⟨rm, hrm⟩ : ∃ rm, rm = v % z := ⟨_, rfl⟩
          obtain ⟨qt, hqt⟩ : ∃ qt, qt = v / z := ⟨_, rfl⟩
          have hrm1 : 0 ≤ rm ∧ rm < z := by rw [hrm]; exact ⟨Int.emod_nonneg _ (by omega), Int.emod_lt_of_pos _ (by omega)⟩
          have hqt1 : 0 ≤ qt ∧ qt ≤ v := by rw [hqt]; exact ⟨Int.ediv_nonneg (by omega) (by omega), Int.ediv_le_self _ (by omega)⟩
          have m1 : v % z = rm := hrm.symm
          have m2 : v.tmod z = rm := by rw [IntWalk.rem_in _ _ (by omega)]; exact m1
          have m3 : v / z = qt := hqt.symm
          have m4 : v.tdiv z = qt := by rw [Int.tdiv_eq_ediv_of_nonneg (by omega)]; exact m3
          have m5 : (z == 0) = false := by simp; omega
          have m6 : IntKind.i64.wrap qt = qt := IntWalk.i64_in _ (by omega)
          have m7 : wrap64 qt = qt := IntWalk.wrap64_in _ (by omega)
          have m8 : IntKind.i64.wrap rm = rm := IntWalk.i64_in _ (by omega)
          have m9 : wrap64 rm = rm := IntWalk.wrap64_in _ (by omega)
          rw [m1] at HPU HGP kz
          rw [m3] at HRX
          obtain ⟨W2, hW2⟩ : ∃ W2, W2 = wr.setCell ⟨g, y, none⟩ (.int .i64 rm) := ⟨_, rfl⟩
          rw [← hW2] at HPU HGP kz
          have HY := Lib.hid hy
          have HW2 := Lib.hid hW2
          have d0 : decide ((0 : Int) ≤ (y : Int)) = true := by simp
          clear hy hW2 hrm hqt hri hri2 hb0
          go_upto_region 9 with fail
          rw [← HW2.out]
          clear c0 f0 k0
          go_wp2
          go_roundw
          case rel => exact ⟨x + 1, by omega, congrArg (Value.int .i64) (by have := HY.out; omega), by rw [HRX.out], HPU.out, HGP.out⟩
          case measure => simp [intOf]
        · obtain rfl : x = n := by omega
          have d0 : decide ((0 : Int) ≤ (x : Int) - 1 - (x : Int)) = false := by simp; omega
          go_wp2
          go_ret2
          exact gave_intsB HYL.out HY.out HO.out HG.out
    · have HNB := Lib.hid (show atB s p = false by rw [HAB.out _ hf]; simp only [Bool.true_and, decide_eq_false_iff_not]; exact hp)
      have HNL := Lib.hid (HAN.out HNB.out)
      have hp2 : p < 0 ∨ prodL s ≤ p := by omega
      clear hf hp
      rcases hp2 with hp2 | hp2
      · have d0 : decide (p < 0) = true := decide_eq_true hp2
        go_enter Try.func85, Try.ntmps85
        go_wp2_with fail
        refine HSI.out.mono ?_
        rintro e w1 ⟨rfl, m1, rfl⟩
        go_wp2_with fail
        go_ret2
        exact gave_noneB HNL.out HNB.out (grown_drewN (grown_refl _ _) _)
      · have d1 : decide (prodL s ≤ p) = true := decide_eq_true hp2
        by_cases h0 : p < 0
        · have d0 : decide (p < 0) = true := decide_eq_true h0
          go_enter Try.func85, Try.ntmps85
          go_wp2_with fail
          refine HSI.out.mono ?_
          rintro e w1 ⟨rfl, m1, rfl⟩
          go_wp2_with fail
          go_ret2
          exact gave_noneB HNL.out HNB.out (grown_drewN (grown_refl _ _) _)
        · have d0 : decide (p < 0) = false := decide_eq_false h0
          go_enter Try.func85, Try.ntmps85
          go_wp2_with fail
          refine HSI.out.mono ?_
          rintro e w1 ⟨rfl, m1, rfl⟩
          go_wp2_with fail
          go_ret2
          exact gave_noneB HNL.out HNB.out (grown_drewN (grown_refl _ _) _)
end Go.Proofs.Ytkpfhjjojchdlaa
