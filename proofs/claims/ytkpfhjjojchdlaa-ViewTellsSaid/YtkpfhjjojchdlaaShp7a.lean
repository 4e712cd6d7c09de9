/-
  Layer 7, the program's own: fits, reaches, named, every, Right, Has, Size.
-/
import Derived.Test.YtkpfhjjojchdlaaRef7d
import Derived.Test.YtkpfhjjojchdlaaRef7w
import Derived.Test.YtkpfhjjojchdlaaSays7
namespace Go.Proofs.Ytkpfhjjojchdlaa
open Go.ChangeShapes Go.WideShapes Go.ChangeAt Go.RowKit
set_option linter.unusedVariables false
set_option maxRecDepth 100000

theorem own7_fits (x z : Int) (w : World) : Calls Try.prog 86 #[.int .i64 x, .int .i64 z] w fun e w' => e = .returned (.bool (decide (0 ≤ z ∧ z ≤ 1048576))) ∧ w' = w := by
  by_cases h0 : 0 ≤ z
  · by_cases h1 : z ≤ 1048576
    · have d0 : decide (0 ≤ z) = true := decide_eq_true h0
      have d1 : decide (z ≤ 1048576) = true := decide_eq_true h1
      have HB := Lib.hid (decide_eq_true (show 0 ≤ z ∧ z ≤ 1048576 from ⟨h0, h1⟩))
      go_enter Try.func86, Try.ntmps86
      go_wp2
      go_ret
      first | exact ⟨congrArg (fun b => Ending.returned (.bool b)) HB.out.symm, rfl⟩ | exact ⟨rfl, rfl⟩
    · have d0 : decide (0 ≤ z) = true := decide_eq_true h0
      have d1 : decide (z ≤ 1048576) = false := decide_eq_false h1
      have HB := Lib.hid (decide_eq_false (show ¬ (0 ≤ z ∧ z ≤ 1048576) from fun h => h1 h.2))
      go_enter Try.func86, Try.ntmps86
      go_wp2
      go_ret
      first | exact ⟨congrArg (fun b => Ending.returned (.bool b)) HB.out.symm, rfl⟩ | exact ⟨rfl, rfl⟩
  · have d0 : decide (0 ≤ z) = false := decide_eq_false h0
    have HB := Lib.hid (decide_eq_false (show ¬ (0 ≤ z ∧ z ≤ 1048576) from fun h => h0 h.1))
    go_enter Try.func86, Try.ntmps86
    go_wp2
    go_ret
    first | exact ⟨congrArg (fun b => Ending.returned (.bool b)) HB.out.symm, rfl⟩ | exact ⟨rfl, rfl⟩
theorem own7_named (A : Option Addr) (n c : Nat) (x : Int) (w : World) : Calls Try.prog 90 #[.slice A n c, .int .i64 x] w fun e w' => e = .returned (.bool (decide (0 ≤ x ∧ x < n))) ∧ w' = w := by
  by_cases h0 : 0 ≤ x
  · by_cases h1 : x < n
    · have d0 : decide (0 ≤ x) = true := decide_eq_true h0
      have d1 : decide (x < (n : Int)) = true := decide_eq_true h1
      have HB := Lib.hid (decide_eq_true (show 0 ≤ x ∧ x < n from ⟨h0, h1⟩))
      go_enter Try.func90, Try.ntmps90
      go_wp2
      go_ret
      first | exact ⟨congrArg (fun b => Ending.returned (.bool b)) HB.out.symm, rfl⟩ | exact ⟨rfl, rfl⟩
    · have d0 : decide (0 ≤ x) = true := decide_eq_true h0
      have d1 : decide (x < (n : Int)) = false := decide_eq_false h1
      have HB := Lib.hid (decide_eq_false (show ¬ (0 ≤ x ∧ x < n) from fun h => h1 h.2))
      go_enter Try.func90, Try.ntmps90
      go_wp2
      go_ret
      first | exact ⟨congrArg (fun b => Ending.returned (.bool b)) HB.out.symm, rfl⟩ | exact ⟨rfl, rfl⟩
  · have d0 : decide (0 ≤ x) = false := decide_eq_false h0
    have HB := Lib.hid (decide_eq_false (show ¬ (0 ≤ x ∧ x < n) from fun h => h0 h.1))
    go_enter Try.func90, Try.ntmps90
    go_wp2
    go_ret
    first | exact ⟨congrArg (fun b => Ending.returned (.bool b)) HB.out.symm, rfl⟩ | exact ⟨rfl, rfl⟩
theorem own7_reaches (A : Option Addr) (n c B i : Nat) (s : List Int) (z : Int) (w : World) (h : Nums w B A n s) (hi : i < n) (hn : n ≤ 1048576) :
    Calls Try.prog 72 #[.slice A n c, .int .i64 i, .int .i64 z] w fun e w' => e = .returned (.bool (decide (0 ≤ z ∧ z < s.getD i 0))) ∧ w' = w := by
  obtain ⟨b, off, rfl, _, hc⟩ := h.2.at_ hi
  clear h
  generalize s.getD i 0 = v at *
  by_cases h0 : 0 ≤ z
  · by_cases h1 : z < v
    · have d0 : decide (0 ≤ z) = true := decide_eq_true h0
      have d1 : decide (z < v) = true := decide_eq_true h1
      have HB := Lib.hid (decide_eq_true (show 0 ≤ z ∧ z < v from ⟨h0, h1⟩))
      go_enter Try.func72, Try.ntmps72
      go_wp2
      go_ret
      first | exact ⟨congrArg (fun b => Ending.returned (.bool b)) HB.out.symm, rfl⟩ | exact ⟨rfl, rfl⟩
    · have d0 : decide (0 ≤ z) = true := decide_eq_true h0
      have d1 : decide (z < v) = false := decide_eq_false h1
      have HB := Lib.hid (decide_eq_false (show ¬ (0 ≤ z ∧ z < v) from fun h => h1 h.2))
      go_enter Try.func72, Try.ntmps72
      go_wp2
      go_ret
      first | exact ⟨congrArg (fun b => Ending.returned (.bool b)) HB.out.symm, rfl⟩ | exact ⟨rfl, rfl⟩
  · have d0 : decide (0 ≤ z) = false := decide_eq_false h0
    have HB := Lib.hid (decide_eq_false (show ¬ (0 ≤ z ∧ z < v) from fun h => h0 h.1))
    go_enter Try.func72, Try.ntmps72
    go_wp2
    go_ret
    first | exact ⟨congrArg (fun b => Ending.returned (.bool b)) HB.out.symm, rfl⟩ | exact ⟨rfl, rfl⟩
/-- it is so of all numbers, each with its place. -/
def everyB (s : List Int) (n : Nat) (so : Nat → Int → Bool) : Bool := decide (∀ i, i < n → so i (s.getD i 0) = true)
theorem every_no {s : List Int} {n : Nat} {so : Nat → Int → Bool} {k : Nat} (hk : k < n) (h : so k (s.getD k 0) = false) : everyB s n so = false := decide_eq_false fun hh => by
  have := hh k hk
  rw [h] at this
  cases this
def fitS : Nat → Int → Bool := fun _ z => decide (0 ≤ z ∧ z ≤ 1048576)
def reachS (t : List Int) : Nat → Int → Bool := fun i z => decide (0 ≤ z ∧ z < t.getD i 0)
set_option maxHeartbeats 1000000 in
theorem own7_every_fits (A : Option Addr) (n c B : Nat) (s : List Int) (w : World) (h : Nums w B A n s) (hn : n ≤ 1048576) :
    Calls Try.prog 71 #[.slice A n c, (.func (.func 86) #[] #[])] w fun e w' => e = .returned (.bool (everyB s n fitS)) ∧ w' = w := by
  have H := Lib.hid h
  have HF := Lib.hid (fun (k : Nat) (hk : k < n) (z : Int) => (show Calls Try.prog 86 #[.int .i64 k, .int .i64 z] w fun e w' => e = .returned (.bool (fitS k z)) ∧ w' = w from own7_fits k z w))
  have HE := Lib.hid (fun (k : Nat) (hk : k < n) (hh : fitS k (s.getD k 0) = false) => every_no (n := n) hk hh)
  have HY := Lib.hid (show (∀ i, i < n → fitS i (s.getD i 0) = true) → everyB s n fitS = true from fun hh => decide_eq_true hh)
  clear h
  go_enter Try.func71, Try.ntmps71
  go_wp2
  go_loop [9] (fun i => ∃ k : Nat, k ≤ n ∧ i = .int .i64 k ∧ ∀ j, j < k → fitS j (s.getD j 0) = true) (fun i => n - (intOf i).toNat)
  case atStart => exact ⟨0, Nat.zero_le _, rfl, fun j hj => by omega⟩
  case round =>
    obtain ⟨k, hk, rfl, hq⟩ := hrel
    have HQ := Lib.hid hq
    clear hq
    by_cases hlt : k < n
    · obtain ⟨b, off, rfl, _, hc⟩ := H.out.2.at_ hlt
      have HC := Lib.hid (HF.out k hlt (s.getD k 0))
      have HNO := Lib.hid (HE.out k hlt)
      have HNX := Lib.hid (show fitS k (s.getD k 0) = true → ∀ j, j < k + 1 → fitS j (s.getD j 0) = true from fun hb j hj => by
        by_cases hjk : j = k
        · subst hjk; exact hb
        · exact HQ.out j (by omega))
      generalize s.getD k 0 = v at *
      go_wp2_with fail
      refine HC.out.mono ?_
      rintro e w1 ⟨rfl, rfl⟩
      clear HC
      generalize fitS k v = ok at *
      cases ok with
      | true =>
        go_wp2
        go_round
        case rel => exact ⟨k + 1, by omega, by go_num, HNX.out (by first | rfl | trivial)⟩
        case measure => simp [intOf]; omega
      | false =>
        go_wp2
        go_ret
        exact ⟨congrArg (fun b => Ending.returned (.bool b)) (HNO.out (by first | rfl | trivial)).symm, rfl⟩
    · obtain rfl : k = n := by omega
      go_wp2
      go_ret
      exact ⟨congrArg (fun b => Ending.returned (.bool b)) (HY.out HQ.out).symm, rfl⟩
set_option maxHeartbeats 1000000 in
theorem own7_every_reaches (A : Option Addr) (n c B : Nat) (s : List Int) (A' : Option Addr) (c' B' : Nat) (t : List Int) (w : World) (h : Nums w B A n s) (hn : n ≤ 1048576) (h' : Nums w B' A' n t) :
    Calls Try.prog 71 #[.slice A n c, (.func (.func 72) #[.slice A' n c'] #[])] w fun e w' => e = .returned (.bool (everyB s n (reachS t))) ∧ w' = w := by
  have H := Lib.hid h
  have HF := Lib.hid (fun (k : Nat) (hk : k < n) (z : Int) => (show Calls Try.prog 72 #[.slice A' n c', .int .i64 k, .int .i64 z] w fun e w' => e = .returned (.bool (reachS t k z)) ∧ w' = w from own7_reaches A' n c' B' k t z w h' (by omega) (by omega)))
  have HE := Lib.hid (fun (k : Nat) (hk : k < n) (hh : (reachS t) k (s.getD k 0) = false) => every_no (n := n) hk hh)
  have HY := Lib.hid (show (∀ i, i < n → (reachS t) i (s.getD i 0) = true) → everyB s n (reachS t) = true from fun hh => decide_eq_true hh)
  clear h
  go_enter Try.func71, Try.ntmps71
  go_wp2
  go_loop [9] (fun i => ∃ k : Nat, k ≤ n ∧ i = .int .i64 k ∧ ∀ j, j < k → (reachS t) j (s.getD j 0) = true) (fun i => n - (intOf i).toNat)
  case atStart => exact ⟨0, Nat.zero_le _, rfl, fun j hj => by omega⟩
  case round =>
    obtain ⟨k, hk, rfl, hq⟩ := hrel
    have HQ := Lib.hid hq
    clear hq
    by_cases hlt : k < n
    · obtain ⟨b, off, rfl, _, hc⟩ := H.out.2.at_ hlt
      have HC := Lib.hid (HF.out k hlt (s.getD k 0))
      have HNO := Lib.hid (HE.out k hlt)
      have HNX := Lib.hid (show (reachS t) k (s.getD k 0) = true → ∀ j, j < k + 1 → (reachS t) j (s.getD j 0) = true from fun hb j hj => by
        by_cases hjk : j = k
        · subst hjk; exact hb
        · exact HQ.out j (by omega))
      generalize s.getD k 0 = v at *
      go_wp2_with fail
      refine HC.out.mono ?_
      rintro e w1 ⟨rfl, rfl⟩
      clear HC
      generalize reachS t k v = ok at *
      cases ok with
      | true =>
        go_wp2
        go_round
        case rel => exact ⟨k + 1, by omega, by go_num, HNX.out (by first | rfl | trivial)⟩
        case measure => simp [intOf]; omega
      | false =>
        go_wp2
        go_ret
        exact ⟨congrArg (fun b => Ending.returned (.bool b)) (HNO.out (by first | rfl | trivial)).symm, rfl⟩
    · obtain rfl : k = n := by omega
      go_wp2
      go_ret
      exact ⟨congrArg (fun b => Ending.returned (.bool b)) (HY.out HQ.out).symm, rfl⟩
theorem fit_right {s : List Int} {n : Nat} (hn : s.length = n) (h6 : n ≤ 6) : everyB s n fitS = rightS s := by
  subst hn
  cases hb : everyB s s.length fitS with
  | true => exact right_by (fun i hi => of_decide_eq_true (of_decide_eq_true hb i hi)) (by rw [eq_comm, decide_eq_true_eq]; exact h6)
  | false =>
    cases hr : rightS s with
    | false => rfl
    | true =>
      have := of_decide_eq_false hb
      exact absurd (fun i hi => decide_eq_true (right_at hr hi)) this
theorem right_long {s : List Int} {n : Nat} (hn : s.length = n) (h6 : ¬ n ≤ 6) : rightS s = false := decide_eq_false fun h => by rw [hn] at h; exact h6 h.2
theorem reach_has {s t : List Int} {n : Nat} (hr : rightS s = true) (hn : t.length = n) (hs : s.length = n) : everyB t n (reachS s) = hasB s t := by
  subst hn
  cases hb : everyB t t.length (reachS s) with
  | true => exact (has_by hr hs.symm fun i hi => of_decide_eq_true (of_decide_eq_true hb i (by omega))).symm
  | false =>
    have := of_decide_eq_false hb
    exact (has_not fun h => this fun i hi => decide_eq_true (h.2.2 i (by omega))).symm
theorem own7_right (A : Option Addr) (n c B : Nat) (s : List Int) (w : World) (h : Nums w B A n s) (hn : n ≤ 1048576) :
    Calls Try.prog 66 #[.slice A n c] w fun e w' => e = .returned (.bool (rightS s)) ∧ w' = w := by
  have HE := Lib.hid (own7_every_fits A n c B s w h hn)
  have hl := h.1
  clear h
  by_cases h6 : n ≤ 6
  · have d0 : decide ((n : Int) ≤ 6) = true := decide_eq_true (by omega)
    have d1 : decide (n ≤ 6) = true := decide_eq_true h6
    have HR := Lib.hid (fit_right hl h6)
    clear hl h6
    go_enter Try.func66, Try.ntmps66
    go_wp2_with fail
    refine HE.out.mono ?_
    rintro e w1 ⟨rfl, rfl⟩
    rw [HR.out]
    go_wp2_with fail
    go_ret
    first | exact ⟨rfl, rfl⟩ | (simp; done)
  · have d0 : decide ((n : Int) ≤ 6) = false := decide_eq_false (by omega)
    have d1 : decide (n ≤ 6) = false := decide_eq_false h6
    have HR := Lib.hid (right_long hl h6)
    clear hl h6
    go_enter Try.func66, Try.ntmps66
    go_wp2_with fail
    go_ret
    exact ⟨by rw [HR.out]; rfl, rfl⟩
set_option maxHeartbeats 1000000 in
theorem own7_has (A A' : Option Addr) (n c B n' c' B' : Nat) (s t : List Int) (w : World) (h : Nums w B A n s) (h' : Nums w B' A' n' t) (hn : n ≤ 1048576) (hn' : n' ≤ 1048576) :
    Calls Try.prog 43 #[.slice A n c, .slice A' n' c'] w fun e w' => e = .returned (.bool (hasB s t)) ∧ w' = w := by
  have HR := Lib.hid (own7_right A n c B s w h hn)
  have hl := h.1
  have hl' := h'.1
  cases hr : rightS s with
  | false =>
    rw [hr] at HR
    have HN := Lib.hid (show hasB s t = false from has_not (by rw [hr]; rintro ⟨h, _⟩; cases h))
    clear hr h h' hl hl'
    go_enter Try.func43, Try.ntmps43
    go_wp2_with fail
    refine HR.out.mono ?_
    rintro e w1 ⟨rfl, rfl⟩
    go_wp2_with fail
    go_ret
    exact ⟨by rw [HN.out]; rfl, rfl⟩
  | true =>
    rw [hr] at HR
    by_cases hnn : n' = n
    · subst hnn
      have HE := Lib.hid (own7_every_reaches A' n' c' B' t A c B s w h' hn h)
      have HB := Lib.hid (reach_has hr hl' hl)
      rw [HB.out] at HE
      clear HB
      generalize hasB s t = ok at *
      clear hr h h' hl hl'
      go_enter Try.func43, Try.ntmps43
      go_wp2_with fail
      refine HR.out.mono ?_
      rintro e w1 ⟨rfl, rfl⟩
      go_wp2_with fail
      refine HE.out.mono ?_
      rintro e w2 ⟨rfl, rfl⟩
      go_wp2_with fail
      go_ret
      first | exact ⟨rfl, rfl⟩ | (simp; done)
    · have HN := Lib.hid (show hasB s t = false from has_not (by rintro ⟨_, h, _⟩; rw [hl', hl] at h; exact hnn h))
      have d0 : ((n' : Int) == (n : Int)) = false := by simp; omega
      have d1 : (n' == n) = false := by simp; omega
      clear hr h h' hl hl' hnn
      go_enter Try.func43, Try.ntmps43
      go_wp2_with fail
      refine HR.out.mono ?_
      rintro e w1 ⟨rfl, rfl⟩
      go_wp2_with fail
      go_ret
      exact ⟨by rw [HN.out]; rfl, rfl⟩
set_option maxHeartbeats 1000000 in
theorem own7_size (A : Option Addr) (n c B : Nat) (s : List Int) (most : Int) (w : World) (h : Nums w B A n s) (hn : n ≤ 1048576) (hm : I64 most) :
    Calls Try.prog 48 #[.slice A n c, .int .i64 most] w fun e w' => e = .returned (.tuple #[.int .i64 (sizeV s most), .bool (sizeB s most)]) ∧ w' = w := by
  have HR := Lib.hid (own7_right A n c B s w h hn)
  have HSB := Lib.hid (show ∀ b, rightS s = b → sizeB s most = (b && prB (min most 1048576) s) from fun b hb => by unfold sizeB; rw [hb])
  cases hr : rightS s with
  | false =>
    rw [hr] at HR
    have HS := Lib.hid (show sizeB s most = false by rw [HSB.out _ hr]; rfl)
    have HV := Lib.hid (size_no HS.out)
    clear hr h
    go_enter Try.func48, Try.ntmps48
    go_wp2_with fail
    refine HR.out.mono ?_
    rintro e w1 ⟨rfl, rfl⟩
    go_wp2_with fail
    go_ret2
    exact ⟨by rw [HS.out, HV.out]; rfl, rfl⟩
  | true =>
    rw [hr] at HR
    have HP := Lib.hid (product_any (min most 1048576) A n c s w h.ints (by omega) (by omega) (right_i64 hr))
    have HS := Lib.hid (show sizeB s most = prB (min most 1048576) s by rw [HSB.out _ hr]; rfl)
    have HV := Lib.hid (show sizeV s most = pr (min most 1048576) s by
      unfold sizeV pr
      rw [HS.out])
    clear hr h
    generalize hmo : min most 1048576 = m0 at *
    have HMO := Lib.hid hmo
    clear hmo
    go_enter Try.func48, Try.ntmps48
    go_wp2_with fail
    refine HR.out.mono ?_
    rintro e w1 ⟨rfl, rfl⟩
    go_wp2_with fail
    · obtain rfl : m0 = 1048576 := by have := HMO.out; omega
      refine HP.out.mono ?_
      rintro e w2 ⟨rfl, rfl⟩
      go_wp2_with fail
      go_ret2
      exact ⟨by rw [HV.out, HS.out]; rfl, rfl⟩
    · obtain rfl : m0 = most := by have := HMO.out; omega
      refine HP.out.mono ?_
      rintro e w2 ⟨rfl, rfl⟩
      go_wp2_with fail
      go_ret2
      exact ⟨by rw [HV.out, HS.out]; rfl, rfl⟩
end Go.Proofs.Ytkpfhjjojchdlaa
