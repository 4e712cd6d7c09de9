/-
  Layer 8, the program's own: beyond, ContainsFunc, Right, size, axes. · Layer 8, the program's own: Offset, Bounds, Fits, Dense.
-/
import Derived.Test.YtkpfhjjojchdlaaStr7
import Derived.Test.YtkpfhjjojchdlaaSays8
import Derived.Test.YtkpfhjjojchdlaaAt7

/-! Layer 8, the program's own: beyond, ContainsFunc, Right, size, axes. -/
section
namespace Go.Proofs.Ytkpfhjjojchdlaa
open Go.ChangeShapes Go.WideShapes Go.ChangeAt Go.RowKit
set_option linter.unusedVariables false
set_option maxRecDepth 100000

def farB (x : Int) : Bool := decide (x < -1048576 ∨ 1048576 < x)
theorem own8_beyond (x : Int) (w : World) : Calls Try.prog 50 #[.int .i64 x] w fun e w' => e = .returned (.bool (farB x)) ∧ w' = w := by
  by_cases h0 : x < -1048576
  · have d0 : decide (x < -1048576) = true := decide_eq_true h0
    have HB := Lib.hid (show farB x = true from decide_eq_true (.inl h0))
    go_enter Try.func50, Try.ntmps50
    go_wp2
    go_ret
    exact ⟨congrArg (fun b => Ending.returned (.bool b)) HB.out.symm, rfl⟩
  · have d0 : decide (x < -1048576) = false := decide_eq_false h0
    by_cases h1 : 1048576 < x
    · have d1 : decide ((1048576 : Int) < x) = true := decide_eq_true h1
      have HB := Lib.hid (show farB x = true from decide_eq_true (.inr h1))
      go_enter Try.func50, Try.ntmps50
      go_wp2
      go_ret
      exact ⟨congrArg (fun b => Ending.returned (.bool b)) HB.out.symm, rfl⟩
    · have d1 : decide ((1048576 : Int) < x) = false := decide_eq_false h1
      have HB := Lib.hid (show farB x = false from decide_eq_false (by omega))
      go_enter Try.func50, Try.ntmps50
      go_wp2
      go_ret
      exact ⟨congrArg (fun b => Ending.returned (.bool b)) HB.out.symm, rfl⟩
/-- one of the first n is too far. -/
def farL (t : List Int) (n : Nat) : Bool := decide (¬ ∀ i, i < n → farB (t.getD i 0) = false)
theorem far_yes {t : List Int} {n k : Nat} (hk : k < n) (h : farB (t.getD k 0) = true) : farL t n = true := decide_eq_true fun hh => by
  have := hh k hk
  rw [h] at this
  cases this
theorem far_no {t : List Int} {n : Nat} (h : ∀ i, i < n → farB (t.getD i 0) = false) : farL t n = false := decide_eq_false fun hh => hh h
set_option maxHeartbeats 1000000 in
theorem own8_index (A : Option Addr) (n c B : Nat) (t : List Int) (w : World) (h : Nums w B A n t) (hn : n ≤ 1048576) :
    Calls Try.prog 74 #[.slice A n c, (.func (.func 50) #[] #[])] w fun e w' => (∃ z : Int, e = .returned (.int .i64 z) ∧ decide (0 ≤ z) = farL t n) ∧ w' = w := by
  have H := Lib.hid h
  have HY := Lib.hid (fun (k : Nat) (hk : k < n) (hh : farB (t.getD k 0) = true) => far_yes (n := n) hk hh)
  have HN := Lib.hid (show (∀ i, i < n → farB (t.getD i 0) = false) → farL t n = false from fun hh => far_no hh)
  clear h
  go_enter Try.func74, Try.ntmps74
  go_wp2
  go_loop [8] (fun i => ∃ k : Nat, k ≤ n ∧ i = .int .i64 k ∧ ∀ j, j < k → farB (t.getD j 0) = false) (fun i => n - (intOf i).toNat)
  case atStart => exact ⟨0, Nat.zero_le _, rfl, fun j hj => by omega⟩
  case round =>
    obtain ⟨k, hk, rfl, hq⟩ := hrel
    have HQ := Lib.hid hq
    clear hq
    by_cases hlt : k < n
    · obtain ⟨b, off, rfl, _, hc⟩ := H.out.2.at_ hlt
      have HC := Lib.hid (own8_beyond (t.getD k 0) w)
      have HYE := Lib.hid (HY.out k hlt)
      have HNX := Lib.hid (show farB (t.getD k 0) = false → ∀ j, j < k + 1 → farB (t.getD j 0) = false from fun hb j hj => by
        by_cases hjk : j = k
        · subst hjk; exact hb
        · exact HQ.out j (by omega))
      generalize t.getD k 0 = v at *
      go_wp2_with fail
      refine HC.out.mono ?_
      rintro e w1 ⟨rfl, rfl⟩
      clear HC
      generalize farB v = ok at *
      cases ok with
      | false =>
        go_wp2
        go_round
        case rel => exact ⟨k + 1, by omega, by go_num, HNX.out (by first | rfl | trivial)⟩
        case measure => simp [intOf]; omega
      | true =>
        go_wp2
        go_ret
        exact ⟨⟨(k : Int), rfl, by rw [HYE.out (by first | rfl | trivial)]; simp⟩, rfl⟩
    · obtain rfl : k = n := by omega
      go_wp2
      go_ret
      exact ⟨⟨-1, rfl, by rw [HN.out HQ.out]; rfl⟩, rfl⟩
theorem own8_contains (A : Option Addr) (n c B : Nat) (t : List Int) (w : World) (h : Nums w B A n t) (hn : n ≤ 1048576) :
    Calls Try.prog 49 #[.slice A n c, (.func (.func 50) #[] #[])] w fun e w' => e = .returned (.bool (farL t n)) ∧ w' = w := by
  have HI := Lib.hid (own8_index A n c B t w h hn)
  clear h
  go_enter Try.func49, Try.ntmps49
  go_wp2_with fail
  refine HI.out.mono ?_
  rintro e w1 ⟨⟨z, rfl, hz⟩, rfl⟩
  go_wp2_with fail
  go_ret
  first | exact ⟨rfl, rfl⟩ | exact ⟨congrArg (fun b => Ending.returned (.bool b)) hz, rfl⟩
/-! ### Right -/
theorem far_right {s t : List Int} {o : Int} {n : Nat} (hf : full s = true) (ht : t.length = n) (hs : s.length = n) (h0 : 0 ≤ o) (h1 : o ≤ 16777216) : (!farL t n) = rightV ⟨s, t, o⟩ := by
  subst ht
  cases hb : farL t t.length with
  | false =>
    have := of_decide_eq_false hb
    exact (rightV_yes (v := ⟨s, t, o⟩) ⟨hf, hs.symm, h0, h1, fun i hi => by
      have h2 := of_decide_eq_false (Decidable.of_not_not this i hi)
      show -1048576 ≤ t.getD i 0 ∧ t.getD i 0 ≤ 1048576
      omega⟩).symm
  | true =>
    have := of_decide_eq_true hb
    exact (rightV_not (v := ⟨s, t, o⟩) fun hp => this fun i hi => decide_eq_false (by
      have h2 : -1048576 ≤ t.getD i 0 ∧ t.getD i 0 ≤ 1048576 := hp.2.2.2.2 i hi
      omega)).symm
set_option maxHeartbeats 2000000 in
theorem own8_right (A A' : Option Addr) (n c n' c' : Nat) (s t : List Int) (o : Int) (w : World) (h : NumsF w A n c s) (h' : NumsF w A' n' c' t) (hn : n ≤ 1048576) (hn' : n' ≤ 1048576) :
    Calls Try.prog 18 #[.agg #[.slice A n c, .slice A' n' c', .int .i64 o]] w (TellG (.bool (rightV ⟨s, t, o⟩)) w) := by
  have HS := Lib.hid (fun w' (hg : w.grownBy w' none) => own7_size A n c _ s 1048576 w' (h.1.grow hg) hn (by unfold I64; omega))
  have HC := Lib.hid (fun w' (hg : w.grownBy w' none) => own8_contains A' n' c' _ t w' (h'.1.grow hg) hn')
  have HL := Lib.hid h.1.1
  have HL' := Lib.hid h'.1.1
  obtain ⟨w1, hw1⟩ : ∃ w1, w1 = w.alloc (.cells #[.slice A n c, .slice A' n' c', .int .i64 o] 29) := ⟨_, rfl⟩
  have HG1 := Lib.hid (show w.grownBy w1 none by rw [hw1]; exact World.grownBy_alloc _ _ _)
  have HX := Lib.hid (show Box w1 w.heap.size 29 #[.slice A n c, .slice A' n' c', .int .i64 o] by rw [hw1]; exact Box.fresh _ _ _)
  have HW1 := Lib.hid hw1
  have HFU := Lib.hid (show sizeB s 1048576 = full s from rfl)
  clear h h' hw1
  have HNOT := Lib.hid (fun hp => rightV_not (v := ⟨s, t, o⟩) hp)
  have HYES := Lib.hid (fun hf ht hs h0 h1 => far_right (s := s) (t := t) (o := o) (n := n) hf ht hs h0 h1)
  go_enter Try.func18, Try.ntmps18
  go_upto_region 1 with fail
  rw [← HW1.out]
  have x0 := HX.out.get 0
  have x1 := HX.out.get 1
  have x2 := HX.out.get 2
  cases hf : full s with
  | false =>
    rw [HFU.out, hf] at HS
    have HR := Lib.hid (HNOT.out fun hp => absurd hp.1 (by show ¬ full s = true; rw [hf]; simp))
    clear hf
    go_wp2_with fail
    refine (HS.out _ HG1.out).mono ?_
    rintro e w2 ⟨rfl, rfl⟩
    go_wp2_with fail
    go_ret
    exact tellG_eq (by rw [HR.out]; rfl) HG1.out
  | true =>
    rw [HFU.out, hf] at HS
    have HFT := Lib.hid hf
    clear hf
    by_cases hnn : n' = n
    · subst hnn
      have e0 : ((n' : Int) == (n' : Int)) = true := by simp
      by_cases h0 : 0 ≤ o
      · have d0 : decide (0 ≤ o) = true := decide_eq_true h0
        by_cases h1 : o ≤ 16777216
        · have d1 : decide (o ≤ 16777216) = true := decide_eq_true h1
          have HR := Lib.hid (HYES.out HFT.out HL'.out HL.out h0 h1)
          clear h0 h1
          go_wp2_with fail
          refine (HS.out _ HG1.out).mono ?_
          rintro e w2 ⟨rfl, rfl⟩
          go_wp2_with fail
          refine (HC.out _ HG1.out).mono ?_
          rintro e w3 ⟨rfl, rfl⟩
          generalize hfb : farL t n' = fb at *
          go_wp2_with fail
          go_ret
          exact tellG_eq (by rw [← HR.out]; rfl) HG1.out
        · have d1 : decide (o ≤ 16777216) = false := decide_eq_false h1
          have HR := Lib.hid (HNOT.out fun hp => by have := hp.2.2.2.1; exact absurd this h1)
          clear h0 h1
          go_wp2_with fail
          refine (HS.out _ HG1.out).mono ?_
          rintro e w2 ⟨rfl, rfl⟩
          go_wp2_with fail
          go_ret
          exact tellG_eq (by rw [HR.out]; rfl) HG1.out
      · have d0 : decide (0 ≤ o) = false := decide_eq_false h0
        have HR := Lib.hid (HNOT.out fun hp => by have := hp.2.2.1; exact absurd this h0)
        clear h0
        go_wp2_with fail
        refine (HS.out _ HG1.out).mono ?_
        rintro e w2 ⟨rfl, rfl⟩
        go_wp2_with fail
        go_ret
        exact tellG_eq (by rw [HR.out]; rfl) HG1.out
    · have e0 : ((n' : Int) == (n : Int)) = false := by simp; omega
      have HR := Lib.hid (HNOT.out fun hp => hnn (by rw [← HL.out, ← HL'.out]; exact hp.2.1))
      clear hnn
      go_wp2_with fail
      refine (HS.out _ HG1.out).mono ?_
      rintro e w2 ⟨rfl, rfl⟩
      go_wp2_with fail
      go_ret
      exact tellG_eq (by rw [HR.out]; rfl) HG1.out
set_option maxHeartbeats 2000000 in
theorem own8_size (A A' : Option Addr) (n c n' c' : Nat) (s t : List Int) (o : Int) (w : World) (h : NumsF w A n c s) (hn : n ≤ 1048576) :
    Calls Try.prog 45 #[.agg #[.slice A n c, .slice A' n' c', .int .i64 o]] w (TellG (.int .i64 (cellsV ⟨s, t, o⟩)) w) := by
  have HS := Lib.hid (fun w' (hg : w.grownBy w' none) => own7_size A n c _ s 1048576 w' (h.1.grow hg) hn (by unfold I64; omega))
  obtain ⟨w1, hw1⟩ : ∃ w1, w1 = w.alloc (.cells #[.slice A n c, .slice A' n' c', .int .i64 o] 29) := ⟨_, rfl⟩
  have HG1 := Lib.hid (show w.grownBy w1 none by rw [hw1]; exact World.grownBy_alloc _ _ _)
  have HX := Lib.hid (show Box w1 w.heap.size 29 #[.slice A n c, .slice A' n' c', .int .i64 o] by rw [hw1]; exact Box.fresh _ _ _)
  have HW1 := Lib.hid hw1
  have HFU := Lib.hid (show sizeV s 1048576 = cellsV ⟨s, t, o⟩ from rfl)
  clear h hw1
  go_enter Try.func45, Try.ntmps45
  go_upto_region 1 with fail
  rw [← HW1.out]
  have x0 := HX.out.get 0
  go_wp2_with fail
  refine (HS.out _ HG1.out).mono ?_
  rintro e w2 ⟨rfl, rfl⟩
  rw [HFU.out]
  go_wp2_with fail
  go_ret
  exact tellG_eq rfl HG1.out
/-! ### axes -/
def axN (v : Vw) (x : Int) : Int := if axisB v x = true then v.sh.getD x.toNat 0 else 0
def axS (v : Vw) (x : Int) : Int := if axisB v x = true then v.st.getD x.toNat 0 else 0
/-- what the function that axes hands back has caught. -/
structure Axes (w : World) (b1 b2 : Nat) (v : Vw) : Prop where
  yes : Box w b1 4 #[.bool (rightV v)]
  it : ∃ A n c A' n' c', Box w b2 29 #[.slice A n c, .slice A' n' c', .int .i64 v.off] ∧ NumsF w A n c v.sh ∧ NumsF w A' n' c' v.st ∧ n ≤ 1048576 ∧ n' ≤ 1048576
theorem Axes.grow {w w' : World} {b1 b2 : Nat} {v : Vw} (h : Axes w b1 b2 v) (hg : w.grownBy w' none) : Axes w' b1 b2 v := by
  obtain ⟨A, n, c, A', n', c', h1, h2, h3, h4⟩ := h.it
  exact ⟨h.yes.grown hg (by simp), ⟨A, n, c, A', n', c', h1.grown hg (by simp), h2.grow hg, h3.grow hg, h4⟩⟩
def GaveAx (v : Vw) (w : World) (e : Ending) (w' : World) : Prop := ∃ b1 b2 : Nat, e = .returned (.func (.func 73) #[] #[.pointer (some ⟨b1, 0, none⟩), .pointer (some ⟨b2, 0, none⟩)]) ∧ Axes w' b1 b2 v ∧ w.grownBy w' none
set_option maxHeartbeats 2000000 in
theorem own8_axes (A A' : Option Addr) (n c n' c' : Nat) (s t : List Int) (o : Int) (w : World) (h : NumsF w A n c s) (h' : NumsF w A' n' c' t) (hn : n ≤ 1048576) (hn' : n' ≤ 1048576) :
    Calls Try.prog 46 #[.agg #[.slice A n c, .slice A' n' c', .int .i64 o]] w (GaveAx ⟨s, t, o⟩ w) := by
  have HR := Lib.hid (fun w' (hg : w.grownBy w' none) => own8_right A A' n c n' c' s t o w' (h.grow hg) (h'.grow hg) hn hn')
  have H := Lib.hid h
  have H' := Lib.hid h'
  obtain ⟨w1, hw1⟩ : ∃ w1, w1 = w.alloc (.cells #[.slice A n c, .slice A' n' c', .int .i64 o] 29) := ⟨_, rfl⟩
  have HG1 := Lib.hid (show w.grownBy w1 none by rw [hw1]; exact World.grownBy_alloc _ _ _)
  have HX := Lib.hid (show Box w1 w.heap.size 29 #[.slice A n c, .slice A' n' c', .int .i64 o] by rw [hw1]; exact Box.fresh _ _ _)
  have HW1 := Lib.hid hw1
  clear h h' hw1
  go_enter Try.func46, Try.ntmps46
  go_upto_region 1 with fail
  rw [← HW1.out]
  have x0 := HX.out.get 0
  have x1 := HX.out.get 1
  have x2 := HX.out.get 2
  go_wp2_with fail
  refine (HR.out _ HG1.out).mono ?_
  rintro e w2 ⟨rfl, hg⟩
  have HG2 := Lib.hid (grown_join HG1.out hg (.inr (by simp)))
  have HX2 := Lib.hid (HX.out.grown hg (by simp))
  clear x0 x1 x2 hg
  generalize hrv : rightV ⟨s, t, o⟩ = rb at *
  have HRV := Lib.hid hrv
  clear hrv
  have HGE := Lib.hid (grown_alloc HG2.out (.cells #[.bool rb] 4))
  go_wp2_with fail
  go_ret
  refine ⟨w2.heap.size, w.heap.size, rfl, ⟨?_, A, n, c, A', n', c', ?_, H.out.grow HGE.out, H'.out.grow HGE.out, hn, hn'⟩, HGE.out⟩
  · rw [HRV.out]; exact Box.fresh _ _ _
  · exact HX2.out.alloc _
set_option maxHeartbeats 2000000 in
theorem own8_axis (b1 b2 : Nat) (v : Vw) (x : Int) (w : World) (h : Axes w b1 b2 v) :
    Calls Try.prog 73 #[.int .i64 x, .pointer (some ⟨b1, 0, none⟩), .pointer (some ⟨b2, 0, none⟩)] w (TellG (.tuple #[.int .i64 (axN v x), .int .i64 (axS v x), .bool (axisB v x)]) w) := by
  obtain ⟨hy, A, n, c, A', n', c', hb, hs, ht, hn, hn'⟩ := h
  obtain ⟨s, t, o⟩ := v
  dsimp only at hb hs ht
  have HL := Lib.hid hs.1.1
  have HL' := Lib.hid ht.1.1
  have HAX := Lib.hid (show ∀ b, rightV ⟨s, t, o⟩ = b → axisB ⟨s, t, o⟩ x = (b && decide (0 ≤ x ∧ x < (n : Int))) from fun b hb => by unfold axisB; rw [hb, ← hs.1.1])
  have HNN := Lib.hid (show axisB ⟨s, t, o⟩ x = false → axN ⟨s, t, o⟩ x = 0 ∧ axS ⟨s, t, o⟩ x = 0 from fun hh => by unfold axN axS; rw [if_neg (by rw [hh]; simp), if_neg (by rw [hh]; simp)]; exact ⟨rfl, rfl⟩)
  have HYY := Lib.hid (show axisB ⟨s, t, o⟩ x = true → axN ⟨s, t, o⟩ x = s.getD x.toNat 0 ∧ axS ⟨s, t, o⟩ x = t.getD x.toNat 0 from fun hh => by unfold axN axS; rw [if_pos hh, if_pos hh]; exact ⟨rfl, rfl⟩)
  have HRL := Lib.hid (show rightV ⟨s, t, o⟩ = true → n' = n from fun hr => by have := (rightV_all hr).2.1; dsimp only at this; rw [hs.1.1, ht.1.1] at this; exact this)
  have HS := Lib.hid hs
  have HT := Lib.hid ht
  have y0 := hy.get 0
  have x0 := hb.get 0
  have x1 := hb.get 1
  clear hs ht hy hb
  cases hr : rightV ⟨s, t, o⟩ with
  | false =>
    rw [hr] at y0
    have HF := Lib.hid (HAX.out _ hr)
    rw [Bool.false_and] at HF
    have HZ := Lib.hid (HNN.out HF.out)
    clear hr
    go_enter Try.func73, Try.ntmps73
    go_wp2_with fail
    exact bodyPost_ret (v := .tuple #[.int .i64 0, .int .i64 0, .bool false]) (by simp [results, Try.results73, go_sem]) rfl (tellG_three HZ.out.1.symm HZ.out.2.symm HF.out.symm (grown_refl _ _))
  | true =>
    rw [hr] at y0
    obtain rfl := HRL.out hr
    by_cases hx : 0 ≤ x
    · by_cases hx1 : x < (n' : Int)
      · have HF := Lib.hid (show axisB ⟨s, t, o⟩ x = true by rw [HAX.out _ hr, Bool.true_and]; exact decide_eq_true ⟨hx, hx1⟩)
        have HZ := Lib.hid (HYY.out HF.out)
        obtain ⟨k, rfl⟩ : ∃ k : Nat, x = (k : Int) := ⟨x.toNat, by omega⟩
        have hk : k < n' := by omega
        obtain ⟨b, off, rfl, _, hc⟩ := HS.out.1.2.at_ hk
        obtain ⟨b', off', rfl, _, hc'⟩ := HT.out.1.2.at_ hk
        have d0 : decide ((k : Int) < 0) = false := decide_eq_false (by omega)
        have d1 : decide ((n' : Int) ≤ (k : Int)) = false := decide_eq_false (by omega)
        have d2 : decide (n' ≤ k) = false := decide_eq_false (by omega)
        have hz1 : axN ⟨s, t, o⟩ (k : Int) = s.getD k 0 := HZ.out.1
        have hz2 : axS ⟨s, t, o⟩ (k : Int) = t.getD k 0 := HZ.out.2
        have HZ1 := Lib.hid hz1
        have HZ2 := Lib.hid hz2
        clear hr hx hx1 HZ hz1 hz2
        generalize s.getD k 0 = u at *
        generalize t.getD k 0 = v at *
        go_enter Try.func73, Try.ntmps73
        go_wp2_with fail
        go_quiet (fail)
        all_goals
          go_wp2_with fail
          exact bodyPost_ret (v := .tuple #[.int .i64 u, .int .i64 v, .bool true]) (by simp [results, Try.results73, go_sem]) rfl (tellG_three HZ1.out.symm HZ2.out.symm HF.out.symm <| by first | exact grown_refl _ _ | exact grown_drewN (grown_refl _ _) _ | exact grown_drew (grown_refl _ _))
      · have HF := Lib.hid (show axisB ⟨s, t, o⟩ x = false by rw [HAX.out _ hr, Bool.true_and]; exact decide_eq_false fun hh => hx1 hh.2)
        have HZ := Lib.hid (HNN.out HF.out)
        have d0 : decide (x < 0) = false := decide_eq_false (by omega)
        have d1 : decide ((n' : Int) ≤ x) = true := decide_eq_true (by omega)
        clear hr
        go_enter Try.func73, Try.ntmps73
        go_wp2_with fail
        exact bodyPost_ret (v := .tuple #[.int .i64 0, .int .i64 0, .bool false]) (by simp [results, Try.results73, go_sem]) rfl (tellG_three HZ.out.1.symm HZ.out.2.symm HF.out.symm (grown_refl _ _))
    · have HF := Lib.hid (show axisB ⟨s, t, o⟩ x = false by rw [HAX.out _ hr, Bool.true_and]; exact decide_eq_false fun hh => hx hh.1)
      have HZ := Lib.hid (HNN.out HF.out)
      have d0 : decide (x < 0) = true := decide_eq_true (by omega)
      clear hr
      go_enter Try.func73, Try.ntmps73
      go_wp2_with fail
      exact bodyPost_ret (v := .tuple #[.int .i64 0, .int .i64 0, .bool false]) (by simp [results, Try.results73, go_sem]) rfl (tellG_three HZ.out.1.symm HZ.out.2.symm HF.out.symm (grown_refl _ _))
end Go.Proofs.Ytkpfhjjojchdlaa
end

/-! Layer 8, the program's own: Offset, Bounds, Fits, Dense. -/
section
namespace Go.Proofs.Ytkpfhjjojchdlaa
open Go.ChangeShapes Go.WideShapes Go.ChangeAt Go.RowKit
set_option linter.unusedVariables false
set_option maxRecDepth 100000

set_option maxHeartbeats 2000000 in
theorem own8_offset (A A' A2 : Option Addr) (n c n' c' n2 c2 : Nat) (s t l : List Int) (o : Int) (w : World) (h : NumsF w A n c s) (h' : NumsF w A' n' c' t) (ha : NumsF w A2 n2 c2 l) (hn : n ≤ 1048576) (hn' : n' ≤ 1048576) (hn2 : n2 ≤ 1048576) :
    Calls Try.prog 12 #[.agg #[.slice A n c, .slice A' n' c', .int .i64 o], .slice A2 n2 c2] w (TellG (.tuple #[.int .i64 (offV ⟨s, t, o⟩ l), .bool (offB ⟨s, t, o⟩ l)]) w) := by
  have HR := Lib.hid (fun w' (hg : w.grownBy w' none) => own8_right A A' n c n' c' s t o w' (h.grow hg) (h'.grow hg) hn hn')
  have HA := Lib.hid (fun w' (hg : w.grownBy w' none) => own7_has A A2 n c _ n2 c2 _ s l w' (h.1.grow hg) (ha.1.grow hg) hn hn2)
  have H' := Lib.hid h'
  have H2 := Lib.hid ha
  have HL := Lib.hid h.len
  have HL2 := Lib.hid ha.len
  obtain ⟨w1, hw1⟩ : ∃ w1, w1 = w.alloc (.cells #[.slice A n c, .slice A' n' c', .int .i64 o] 29) := ⟨_, rfl⟩
  have hb := box8 w 29 #[.slice A n c, .slice A' n' c', .int .i64 o]
  rw [← hw1] at hb
  obtain ⟨hx, hg1⟩ := hb
  have HX := Lib.hid hx
  have HG1 := Lib.hid hg1
  have HW1 := Lib.hid hw1
  have HOB := Lib.hid (show ∀ b d, rightV ⟨s, t, o⟩ = b → hasB s l = d → offB ⟨s, t, o⟩ l = (b && d) from fun b d hb hd => by unfold offB; rw [hb, hd])
  have HNV := Lib.hid (fun (hb : offB ⟨s, t, o⟩ l = false) => offV_no hb)
  have HYV := Lib.hid (fun (hb : offB ⟨s, t, o⟩ l = true) => offV_yes hb)
  clear h h' ha hw1 hx hg1
  cases hr : rightV ⟨s, t, o⟩ with
  | false =>
    rw [hr] at HR
    have HF := Lib.hid (show offB ⟨s, t, o⟩ l = false by rw [HOB.out _ _ hr rfl]; rfl)
    have HV := Lib.hid (HNV.out HF.out)
    clear hr
    go_enter Try.func12, Try.ntmps12
    go_upto_region 1 with fail
    rw [← HW1.out]
    have x0 := HX.out.get 0
    have x1 := HX.out.get 1
    have x2 := HX.out.get 2
    go_wp2_with fail
    refine (HR.out _ HG1.out).mono ?_
    rintro e w2 ⟨rfl, hg⟩
    have HG2 := Lib.hid (grown_join HG1.out hg (.inr (by simp)))
    have HX2 := Lib.hid (HX.out.grown hg (by simp))
    clear hg x0 x1 x2
    have x0 := HX2.out.get 0
    have x1 := HX2.out.get 1
    have x2 := HX2.out.get 2
    go_wp2_with fail
    go_ret2
    exact tellG_two HV.out.symm HF.out.symm HG2.out
  | true =>
    rw [hr] at HR
    cases hh : hasB s l with
    | false =>
      rw [hh] at HA
      have HF := Lib.hid (show offB ⟨s, t, o⟩ l = false by rw [HOB.out _ _ hr hh]; rfl)
      have HV := Lib.hid (HNV.out HF.out)
      clear hr hh
      go_enter Try.func12, Try.ntmps12
      go_upto_region 1 with fail
      rw [← HW1.out]
      have x0 := HX.out.get 0
      have x1 := HX.out.get 1
      have x2 := HX.out.get 2
      go_wp2_with fail
      refine (HR.out _ HG1.out).mono ?_
      rintro e w2 ⟨rfl, hg⟩
      have HG2 := Lib.hid (grown_join HG1.out hg (.inr (by simp)))
      have HX2 := Lib.hid (HX.out.grown hg (by simp))
      clear hg x0 x1 x2
      have x0 := HX2.out.get 0
      have x1 := HX2.out.get 1
      have x2 := HX2.out.get 2
      go_wp2_with fail
      refine (HA.out _ HG2.out).mono ?_
      rintro e w3 ⟨rfl, rfl⟩
      go_wp2_with fail
      go_ret2
      exact tellG_two HV.out.symm HF.out.symm HG2.out
    | true =>
      rw [hh] at HA
      have HF := Lib.hid (show offB ⟨s, t, o⟩ l = true by rw [HOB.out _ _ hr hh]; rfl)
      have HV := Lib.hid (HYV.out HF.out)
      have HRT := Lib.hid hr
      have HHS := Lib.hid (has_all hh)
      clear hr hh
      have HNN := Lib.hid (show n2 = n by rw [← HL2.out, ← HL.out]; exact HHS.out.2.1)
      have hnn : n' = n2 := by rw [← H'.out.len, (rightV_all HRT.out).2.1, ← HHS.out.2.1, HL2.out]
      subst hnn
      go_enter Try.func12, Try.ntmps12
      go_upto_region 1 with fail
      rw [← HW1.out]
      have x0 := HX.out.get 0
      have x1 := HX.out.get 1
      have x2 := HX.out.get 2
      go_wp2_with fail
      refine (HR.out _ HG1.out).mono ?_
      rintro e w2 ⟨rfl, hg⟩
      have HG2 := Lib.hid (grown_join HG1.out hg (.inr (by simp)))
      have HX2 := Lib.hid (HX.out.grown hg (by simp))
      clear hg x0 x1 x2
      have x0 := HX2.out.get 0
      have x1 := HX2.out.get 1
      have x2 := HX2.out.get 2
      go_wp2_with fail
      refine (HA.out _ HG2.out).mono ?_
      rintro e w3 ⟨rfl, rfl⟩
      go_wp2_with fail
      go_loop [6, 24] (fun v i => ∃ k : Nat, k ≤ n' ∧ i = .int .i64 k ∧ v = .int .i64 (offE ⟨s, t, o⟩ l k)) (fun _ i => n' - (intOf i).toNat)
      case atStart => exact ⟨0, Nat.zero_le _, rfl, rfl⟩
      case round =>
        obtain ⟨k, hk, rfl, rfl⟩ := hrel
        clear x0 x1 x2
        by_cases hlt : k < n'
        · obtain ⟨b, off, rfl, _, hc⟩ := (H'.out.grow HG2.out).1.2.at_ hlt
          obtain ⟨b', off', rfl, _, hc'⟩ := (H2.out.grow HG2.out).1.2.at_ hlt
          have hks : k < s.length := by rw [HL.out, ← HNN.out]; exact hlt
          have hb1 := offE_in HF.out k (by show k ≤ s.length; omega)
          have hb2 := offE_in HF.out (k + 1) (by show k + 1 ≤ s.length; omega)
          have hb3 := (rightV_len HRT.out (i := k) hks)
          have hb4 := (rightV_str HRT.out (i := k) hks)
          have hb5 := HHS.out.2.2 k hks
          have hb6 := times_in hb5.1 (by have := hb3.2; show l.getD k 0 ≤ 1048576; dsimp only at *; omega) hb4.1 hb4.2
          have hb7 : k ≤ 6 := by have := rightV_dims HRT.out; dsimp only at this; omega
          have HST := Lib.hid (show offE ⟨s, t, o⟩ l (k + 1) = offE ⟨s, t, o⟩ l k + l.getD k 0 * t.getD k 0 from rfl)
          rw [HST.out] at hb2
          dsimp only at hb6
          clear hb3 hb4 hb5
          generalize offE ⟨s, t, o⟩ l k = x at *
          generalize l.getD k 0 = u at *
          generalize t.getD k 0 = z at *
          have e1 : IntKind.i64.wrap (u * z) = u * z := IntWalk.i64_in _ (by omega)
          have e2 : IntKind.i64.wrap (x + u * z) = x + u * z := IntWalk.i64_in _ (by omega)
          have e3 : wrap64 (u * z) = u * z := IntWalk.wrap64_in _ (by omega)
          have e4 : wrap64 (x + u * z) = x + u * z := IntWalk.wrap64_in _ (by omega)
          clear hb1 hb2 hb6 hb7 hks
          go_wp2_with fail
          go_round
          case rel => exact ⟨k + 1, by omega, by go_num, by rw [HST.out]⟩
          case measure => simp [intOf]; omega
        · obtain rfl : k = n' := by omega
          go_wp2_with fail
          go_ret2
          exact tellG_two (by rw [HV.out]; show _ = offE _ l s.length; rw [HL.out, ← HNN.out]) HF.out.symm HG2.out
/-! ### Bounds -/
theorem axis_at {v : Vw} (hr : rightV v = true) {k : Nat} (hk : k < v.sh.length) : axN v (k : Int) = v.sh.getD k 0 ∧ axS v (k : Int) = v.st.getD k 0 ∧ axisB v (k : Int) = true := by
  have h : axisB v (k : Int) = true := by unfold axisB; rw [hr, Bool.true_and]; exact decide_eq_true ⟨by omega, by omega⟩
  unfold axN axS
  rw [if_pos h, if_pos h]
  exact ⟨rfl, rfl, h⟩
set_option maxHeartbeats 4000000 in
theorem own8_bounds (A A' : Option Addr) (n c n' c' : Nat) (s t : List Int) (o : Int) (w : World) (h : NumsF w A n c s) (h' : NumsF w A' n' c' t) (hn : n ≤ 1048576) (hn' : n' ≤ 1048576) :
    Calls Try.prog 14 #[.agg #[.slice A n c, .slice A' n' c', .int .i64 o]] w (TellG (.tuple #[.int .i64 (lowV ⟨s, t, o⟩), .int .i64 (highV ⟨s, t, o⟩), .bool (someB ⟨s, t, o⟩)]) w) := by
  have HR := Lib.hid (fun w' (hg : w.grownBy w' none) => own8_right A A' n c n' c' s t o w' (h.grow hg) (h'.grow hg) hn hn')
  have HZ := Lib.hid (fun w' (hg : w.grownBy w' none) => own8_size A A' n c n' c' s t o w' (h.grow hg) hn)
  have HAX := Lib.hid (fun w' (hg : w.grownBy w' none) => own8_axes A A' n c n' c' s t o w' (h.grow hg) (h'.grow hg) hn hn')
  have HL := Lib.hid h.len
  obtain ⟨w1, hw1⟩ : ∃ w1, w1 = w.alloc (.cells #[.slice A n c, .slice A' n' c', .int .i64 o] 29) := ⟨_, rfl⟩
  have hb := box8 w 29 #[.slice A n c, .slice A' n' c', .int .i64 o]
  rw [← hw1] at hb
  obtain ⟨hx, hg1⟩ := hb
  have HX := Lib.hid hx
  have HG1 := Lib.hid hg1
  have HW1 := Lib.hid hw1
  have HOB := Lib.hid (show ∀ b d, rightV ⟨s, t, o⟩ = b → decide (cellsV ⟨s, t, o⟩ ≠ 0) = d → someB ⟨s, t, o⟩ = (b && d) from fun b d hb hd => by unfold someB; rw [hb, hd])
  have HNV := Lib.hid (fun (hb : someB ⟨s, t, o⟩ = false) => lowV_no hb)
  have HYV := Lib.hid (fun (hb : someB ⟨s, t, o⟩ = true) => lowV_yes hb)
  clear h h' hw1 hx hg1
  cases hr : rightV ⟨s, t, o⟩ with
  | false =>
    rw [hr] at HR
    have HF := Lib.hid (show someB ⟨s, t, o⟩ = false by rw [HOB.out _ _ hr rfl]; rfl)
    have HV := Lib.hid (HNV.out HF.out)
    clear hr
    go_enter Try.func14, Try.ntmps14
    go_upto_region 1 with fail
    rw [← HW1.out]
    have x0 := HX.out.get 0
    have x1 := HX.out.get 1
    have x2 := HX.out.get 2
    go_wp2_with fail
    refine (HR.out _ HG1.out).mono ?_
    rintro e w2 ⟨rfl, hg⟩
    have HG2 := Lib.hid (grown_join HG1.out hg (.inr (by simp)))
    have HX2 := Lib.hid (HX.out.grown hg (by simp))
    clear hg x0 x1 x2
    have x0 := HX2.out.get 0
    have x1 := HX2.out.get 1
    have x2 := HX2.out.get 2
    go_wp2_with fail
    exact bodyPost_ret (v := .tuple #[.int .i64 0, .int .i64 0, .bool false]) (by simp [results, Try.results14, go_sem]) rfl (tellG_three HV.out.1.symm HV.out.2.symm HF.out.symm HG2.out)
  | true =>
    rw [hr] at HR
    by_cases hz : cellsV ⟨s, t, o⟩ = 0
    · have HF := Lib.hid (show someB ⟨s, t, o⟩ = false by rw [HOB.out _ _ hr (decide_eq_false (fun h => h hz))]; rfl)
      have HV := Lib.hid (HNV.out HF.out)
      rw [hz] at HZ
      clear hr hz
      go_enter Try.func14, Try.ntmps14
      go_upto_region 1 with fail
      rw [← HW1.out]
      have x0 := HX.out.get 0
      have x1 := HX.out.get 1
      have x2 := HX.out.get 2
      go_wp2_with fail
      refine (HR.out _ HG1.out).mono ?_
      rintro e w2 ⟨rfl, hg⟩
      have HG2 := Lib.hid (grown_join HG1.out hg (.inr (by simp)))
      have HX2 := Lib.hid (HX.out.grown hg (by simp))
      clear hg x0 x1 x2
      have x0 := HX2.out.get 0
      have x1 := HX2.out.get 1
      have x2 := HX2.out.get 2
      go_wp2_with fail
      refine (HZ.out _ HG2.out).mono ?_
      rintro e w3 ⟨rfl, hg⟩
      have HG3 := Lib.hid (grown_join HG2.out hg (.inr (by simp)))
      have HX3 := Lib.hid (HX2.out.grown hg (by simp))
      clear hg x0 x1 x2
      have x0 := HX3.out.get 0
      have x1 := HX3.out.get 1
      have x2 := HX3.out.get 2
      go_wp2_with fail
      exact bodyPost_ret (v := .tuple #[.int .i64 0, .int .i64 0, .bool false]) (by simp [results, Try.results14, go_sem]) rfl (tellG_three HV.out.1.symm HV.out.2.symm HF.out.symm HG3.out)
    · have HF := Lib.hid (show someB ⟨s, t, o⟩ = true by rw [HOB.out _ _ hr (decide_eq_true hz)]; rfl)
      have HV := Lib.hid (HYV.out HF.out)
      have HRT := Lib.hid hr
      clear hr
      generalize cellsV ⟨s, t, o⟩ = cc at *
      have d0 : (cc == 0) = false := by simp [hz]
      clear hz
      go_enter Try.func14, Try.ntmps14
      go_upto_region 1 with fail
      rw [← HW1.out]
      have x0 := HX.out.get 0
      have x1 := HX.out.get 1
      have x2 := HX.out.get 2
      go_wp2_with fail
      refine (HR.out _ HG1.out).mono ?_
      rintro e w2 ⟨rfl, hg⟩
      have HG2 := Lib.hid (grown_join HG1.out hg (.inr (by simp)))
      have HX2 := Lib.hid (HX.out.grown hg (by simp))
      clear hg x0 x1 x2
      have x0 := HX2.out.get 0
      have x1 := HX2.out.get 1
      have x2 := HX2.out.get 2
      go_wp2_with fail
      refine (HZ.out _ HG2.out).mono ?_
      rintro e w3 ⟨rfl, hg⟩
      have HG3 := Lib.hid (grown_join HG2.out hg (.inr (by simp)))
      have HX3 := Lib.hid (HX2.out.grown hg (by simp))
      clear hg x0 x1 x2
      have x0 := HX3.out.get 0
      have x1 := HX3.out.get 1
      have x2 := HX3.out.get 2
      go_wp2_with fail
      refine (HAX.out _ HG3.out).mono ?_
      rintro e w4 ⟨b1, b2, rfl, hax, hg⟩
      have HAXS := Lib.hid hax
      have HG4 := Lib.hid (grown_join HG3.out hg (.inr (by simp)))
      have HX4 := Lib.hid (HX3.out.grown hg (by simp))
      clear hg hax x0 x1 x2
      have x0 := HX4.out.get 0
      have x1 := HX4.out.get 1
      have x2 := HX4.out.get 2
      go_wp2_with fail
      go_quiet (fail)
      go_wp2_with fail
      go_loopw [6, 7, 29] (fun lo hi i wr => ∃ k : Nat, k ≤ n ∧ i = .int .i64 k ∧ lo = .int .i64 (lowE ⟨s, t, o⟩ k) ∧ hi = .int .i64 (highE ⟨s, t, o⟩ k) ∧ w4.grownBy wr none) (fun _ _ i _ => n - (intOf i).toNat)
      case atStart => exact ⟨0, Nat.zero_le _, rfl, rfl, rfl, by first | exact grown_refl _ _ | exact grown_drewN (grown_refl _ _) _ | exact grown_drew (grown_refl _ _)⟩
      case round =>
        obtain ⟨k, hk, rfl, rfl, rfl, hgw⟩ := hrel
        have HGW := Lib.hid hgw
        have HG5 := Lib.hid (grown_join HG4.out hgw (.inr (by simp)))
        clear x0 x1 x2 hgw
        by_cases hlt : k < n
        · have hks : k < s.length := by rw [HL.out]; exact hlt
          have HAC := Lib.hid (own8_axis b1 b2 _ (k : Int) wr (HAXS.out.grow HGW.out))
          have HAT := Lib.hid (axis_at HRT.out (k := k) hks)
          have hat1 : axN ⟨s, t, o⟩ (k : Int) = s.getD k 0 := HAT.out.1
          have hat2 : axS ⟨s, t, o⟩ (k : Int) = t.getD k 0 := HAT.out.2.1
          rw [hat1, hat2, HAT.out.2.2] at HAC
          have hb1 := lowhigh_in HF.out k (by show k ≤ s.length; omega)
          have hb2 := lowhigh_in HF.out (k + 1) (by show k + 1 ≤ s.length; omega)
          have hb3 := rightV_len HRT.out (i := k) hks
          have hb4 := rightV_str HRT.out (i := k) hks
          have hb5 := some_ones HF.out k hks
          have hb6 := times_in (a := s.getD k 0 - 1) (z := t.getD k 0) (by dsimp only at *; omega) (by dsimp only at *; omega) hb4.1 hb4.2
          have hb7 : k ≤ 6 := by have := rightV_dims HRT.out; dsimp only at this; omega
          have HSL := Lib.hid (show lowE ⟨s, t, o⟩ (k + 1) = lowE ⟨s, t, o⟩ k + min ((s.getD k 0 - 1) * t.getD k 0) 0 from rfl)
          have HSH := Lib.hid (show highE ⟨s, t, o⟩ (k + 1) = highE ⟨s, t, o⟩ k + max ((s.getD k 0 - 1) * t.getD k 0) 0 from rfl)
          rw [HSL.out, HSH.out] at hb2
          dsimp only at hb3
          clear hb4 hb5 hat1 hat2
          generalize lowE ⟨s, t, o⟩ k = x at *
          generalize highE ⟨s, t, o⟩ k = y at *
          generalize s.getD k 0 = u at *
          generalize t.getD k 0 = z at *
          have e0 : IntKind.i64.wrap (u - 1) = u - 1 := IntWalk.i64_in _ (by omega)
          have e1 : IntKind.i64.wrap ((u - 1) * z) = (u - 1) * z := IntWalk.i64_in _ (by omega)
          have f0 : wrap64 (u - 1) = u - 1 := IntWalk.wrap64_in _ (by omega)
          have f1 : wrap64 ((u - 1) * z) = (u - 1) * z := IntWalk.wrap64_in _ (by omega)
          have HML := Lib.hid (show wrap64 (x + if (u - 1) * z < 0 then (u - 1) * z else 0) = x + min ((u - 1) * z) 0 by
            rw [show (if (u - 1) * z < 0 then (u - 1) * z else 0) = min ((u - 1) * z) 0 by split <;> omega]; exact IntWalk.wrap64_in _ (by omega))
          have HMH := Lib.hid (show wrap64 (y + if 0 < (u - 1) * z then (u - 1) * z else 0) = y + max ((u - 1) * z) 0 by
            rw [show (if 0 < (u - 1) * z then (u - 1) * z else 0) = max ((u - 1) * z) 0 by split <;> omega]; exact IntWalk.wrap64_in _ (by omega))
          clear hb1 hb2 hb3 hb6 hb7 hks
          go_wp2_with fail
          refine HAC.out.mono ?_
          rintro e w5 ⟨rfl, hg⟩
          have HG6 := Lib.hid (grown_join HGW.out hg (.inr (by simp)))
          clear hg
          go_wp2_with fail
          go_roundw
          case rel => exact ⟨k + 1, by omega, by go_num, by rw [HSL.out, ← HML.out], by rw [HSH.out, ← HMH.out], HG6.out⟩
          case measure => simp [intOf]; omega
        · obtain rfl : k = n := by omega
          go_wp2_with fail
          exact bodyPost_ret (v := .tuple #[.int .i64 (lowE ⟨s, t, o⟩ k), .int .i64 (highE ⟨s, t, o⟩ k), .bool true]) (by simp [results, Try.results14, go_sem]) rfl (tellG_three (by rw [HV.out.1]; show _ = lowE _ s.length; rw [HL.out]) (by rw [HV.out.2]; show _ = highE _ s.length; rw [HL.out]) HF.out.symm HG5.out)
/-! ### Fits -/
theorem fits_eq {v : Vw} {x lo hi : Int} {b d : Bool} (hb : rightV v = b) (hd : someB v = d) (hl : lowV v = lo) (hh : highV v = hi) : fitsB v x = (b && (!d || decide (0 ≤ lo ∧ hi < x))) := by unfold fitsB; rw [hb, hd, hl, hh]
set_option maxHeartbeats 2000000 in
theorem own8_fits (A A' : Option Addr) (n c n' c' : Nat) (s t : List Int) (o x : Int) (w : World) (h : NumsF w A n c s) (h' : NumsF w A' n' c' t) (hn : n ≤ 1048576) (hn' : n' ≤ 1048576) :
    Calls Try.prog 19 #[.agg #[.slice A n c, .slice A' n' c', .int .i64 o], .int .i64 x] w (TellG (.bool (fitsB ⟨s, t, o⟩ x)) w) := by
  have HR := Lib.hid (fun w' (hg : w.grownBy w' none) => own8_right A A' n c n' c' s t o w' (h.grow hg) (h'.grow hg) hn hn')
  have HB := Lib.hid (fun w' (hg : w.grownBy w' none) => own8_bounds A A' n c n' c' s t o w' (h.grow hg) (h'.grow hg) hn hn')
  obtain ⟨w1, hw1⟩ : ∃ w1, w1 = w.alloc (.cells #[.slice A n c, .slice A' n' c', .int .i64 o] 29) := ⟨_, rfl⟩
  have hb := box8 w 29 #[.slice A n c, .slice A' n' c', .int .i64 o]
  rw [← hw1] at hb
  obtain ⟨hx, hg1⟩ := hb
  have HX := Lib.hid hx
  have HG1 := Lib.hid hg1
  have HW1 := Lib.hid hw1
  have HFE := Lib.hid (fun b d lo hi hb hd hl hh => fits_eq (v := ⟨s, t, o⟩) (x := x) (b := b) (d := d) (lo := lo) (hi := hi) hb hd hl hh)
  clear h h' hw1 hx hg1
  generalize hlo : lowV ⟨s, t, o⟩ = lo at *
  generalize hhi : highV ⟨s, t, o⟩ = hi at *
  cases hr : rightV ⟨s, t, o⟩ with
  | false =>
    rw [hr] at HR
    generalize hs : someB ⟨s, t, o⟩ = sm at *
    have HF := Lib.hid (show fitsB ⟨s, t, o⟩ x = false by rw [HFE.out _ _ _ _ hr rfl rfl rfl]; rfl)
    clear hr hs hlo hhi
    go_enter Try.func19, Try.ntmps19
    go_upto_region 1 with fail
    rw [← HW1.out]
    have x0 := HX.out.get 0
    have x1 := HX.out.get 1
    have x2 := HX.out.get 2
    go_wp2_with fail
    refine (HB.out _ HG1.out).mono ?_
    rintro e w2 ⟨rfl, hg⟩
    have HG2 := Lib.hid (grown_join HG1.out hg (.inr (by simp)))
    have HX2 := Lib.hid (HX.out.grown hg (by simp))
    clear hg x0 x1 x2
    have x0 := HX2.out.get 0
    have x1 := HX2.out.get 1
    have x2 := HX2.out.get 2
    go_wp2_with fail
    refine (HR.out _ HG2.out).mono ?_
    rintro e w3 ⟨rfl, hg⟩
    have HG3 := Lib.hid (grown_join HG2.out hg (.inr (by simp)))
    clear hg x0 x1 x2
    go_wp2_with fail
    go_ret
    exact tellG_eq (by rw [HF.out]; rfl) HG3.out
  | true =>
    rw [hr] at HR
    cases hs : someB ⟨s, t, o⟩ with
    | false =>
      rw [hs] at HB
      have HF := Lib.hid (show fitsB ⟨s, t, o⟩ x = true by rw [HFE.out _ _ _ _ hr hs rfl rfl]; rfl)
      clear hr hs hlo hhi
      go_enter Try.func19, Try.ntmps19
      go_upto_region 1 with fail
      rw [← HW1.out]
      have x0 := HX.out.get 0
      have x1 := HX.out.get 1
      have x2 := HX.out.get 2
      go_wp2_with fail
      refine (HB.out _ HG1.out).mono ?_
      rintro e w2 ⟨rfl, hg⟩
      have HG2 := Lib.hid (grown_join HG1.out hg (.inr (by simp)))
      have HX2 := Lib.hid (HX.out.grown hg (by simp))
      clear hg x0 x1 x2
      have x0 := HX2.out.get 0
      have x1 := HX2.out.get 1
      have x2 := HX2.out.get 2
      go_wp2_with fail
      refine (HR.out _ HG2.out).mono ?_
      rintro e w3 ⟨rfl, hg⟩
      have HG3 := Lib.hid (grown_join HG2.out hg (.inr (by simp)))
      clear hg x0 x1 x2
      go_wp2_with fail
      go_ret
      exact tellG_eq (by rw [HF.out]; rfl) HG3.out
    | true =>
      rw [hs] at HB
      have HFF := Lib.hid (show fitsB ⟨s, t, o⟩ x = decide (0 ≤ lo ∧ hi < x) by rw [HFE.out _ _ _ _ hr hs rfl rfl]; rfl)
      clear hr hs hlo hhi
      by_cases h0 : 0 ≤ lo
      · have d0 : decide (0 ≤ lo) = true := decide_eq_true h0
        by_cases h1 : hi < x
        · have d1 : decide (hi < x) = true := decide_eq_true h1
          have HF := Lib.hid (show fitsB ⟨s, t, o⟩ x = true by rw [HFF.out]; exact decide_eq_true ⟨h0, h1⟩)
          clear h0 h1
          go_enter Try.func19, Try.ntmps19
          go_upto_region 1 with fail
          rw [← HW1.out]
          have x0 := HX.out.get 0
          have x1 := HX.out.get 1
          have x2 := HX.out.get 2
          go_wp2_with fail
          refine (HB.out _ HG1.out).mono ?_
          rintro e w2 ⟨rfl, hg⟩
          have HG2 := Lib.hid (grown_join HG1.out hg (.inr (by simp)))
          have HX2 := Lib.hid (HX.out.grown hg (by simp))
          clear hg x0 x1 x2
          have x0 := HX2.out.get 0
          have x1 := HX2.out.get 1
          have x2 := HX2.out.get 2
          go_wp2_with fail
          refine (HR.out _ HG2.out).mono ?_
          rintro e w3 ⟨rfl, hg⟩
          have HG3 := Lib.hid (grown_join HG2.out hg (.inr (by simp)))
          clear hg x0 x1 x2
          go_wp2_with fail
          go_ret
          exact tellG_eq (by rw [HF.out]; rfl) HG3.out
        · have d1 : decide (hi < x) = false := decide_eq_false h1
          have HF := Lib.hid (show fitsB ⟨s, t, o⟩ x = false by rw [HFF.out]; exact decide_eq_false fun h => h1 h.2)
          clear h0 h1
          go_enter Try.func19, Try.ntmps19
          go_upto_region 1 with fail
          rw [← HW1.out]
          have x0 := HX.out.get 0
          have x1 := HX.out.get 1
          have x2 := HX.out.get 2
          go_wp2_with fail
          refine (HB.out _ HG1.out).mono ?_
          rintro e w2 ⟨rfl, hg⟩
          have HG2 := Lib.hid (grown_join HG1.out hg (.inr (by simp)))
          have HX2 := Lib.hid (HX.out.grown hg (by simp))
          clear hg x0 x1 x2
          have x0 := HX2.out.get 0
          have x1 := HX2.out.get 1
          have x2 := HX2.out.get 2
          go_wp2_with fail
          refine (HR.out _ HG2.out).mono ?_
          rintro e w3 ⟨rfl, hg⟩
          have HG3 := Lib.hid (grown_join HG2.out hg (.inr (by simp)))
          clear hg x0 x1 x2
          go_wp2_with fail
          go_ret
          exact tellG_eq (by rw [HF.out]; rfl) HG3.out
      · have d0 : decide (0 ≤ lo) = false := decide_eq_false h0
        have HF := Lib.hid (show fitsB ⟨s, t, o⟩ x = false by rw [HFF.out]; exact decide_eq_false fun h => h0 h.1)
        clear h0
        go_enter Try.func19, Try.ntmps19
        go_upto_region 1 with fail
        rw [← HW1.out]
        have x0 := HX.out.get 0
        have x1 := HX.out.get 1
        have x2 := HX.out.get 2
        go_wp2_with fail
        refine (HB.out _ HG1.out).mono ?_
        rintro e w2 ⟨rfl, hg⟩
        have HG2 := Lib.hid (grown_join HG1.out hg (.inr (by simp)))
        have HX2 := Lib.hid (HX.out.grown hg (by simp))
        clear hg x0 x1 x2
        have x0 := HX2.out.get 0
        have x1 := HX2.out.get 1
        have x2 := HX2.out.get 2
        go_wp2_with fail
        refine (HR.out _ HG2.out).mono ?_
        rintro e w3 ⟨rfl, hg⟩
        have HG3 := Lib.hid (grown_join HG2.out hg (.inr (by simp)))
        clear hg x0 x1 x2
        go_wp2_with fail
        go_ret
        exact tellG_eq (by rw [HF.out]; rfl) HG3.out
/-! ### Dense -/
theorem beh_str {v : Vw} (h : someB v = true) : ∀ j, j ≤ v.sh.length → behE v j = strE v.sh j
  | 0, _ => rfl
  | j + 1, hj => by
    have h1 := some_ones h (v.sh.length - 1 - j) (by omega)
    rw [behE, strE, beh_str h j (by omega), show max 1 (v.sh.getD (v.sh.length - 1 - j) 0) = v.sh.getD (v.sh.length - 1 - j) 0 by omega]
theorem dense_some {v : Vw} (h : someB v = true) : denseB v = decide (denseP v v.sh.length) := by
  unfold someB at h
  simp only [Bool.and_eq_true, decide_eq_true_eq] at h
  unfold denseB
  rw [h.1, decide_eq_false h.2]
  rfl
theorem dense_front_no {v : Vw} (h : someB v = true) {i : Nat} (hi : i < v.sh.length) (h1 : v.sh.getD i 0 ≠ 1) (h2 : v.st.getD i 0 ≠ strE v.sh (v.sh.length - 1 - i)) : denseB v = false := by
  rw [dense_some h]
  refine decide_eq_false fun hp => ?_
  have h3 := hp (v.sh.length - 1 - i) (by omega)
  rw [show v.sh.length - 1 - (v.sh.length - 1 - i) = i by omega, beh_str h _ (by omega)] at h3
  exact h3.elim h1 h2
theorem dense_front_yes {v : Vw} (h : someB v = true) (hp : ∀ i, i < v.sh.length → v.sh.getD i 0 = 1 ∨ v.st.getD i 0 = strE v.sh (v.sh.length - 1 - i)) : denseB v = true := by
  rw [dense_some h]
  refine decide_eq_true fun j hj => ?_
  rw [beh_str h _ (by omega)]
  have h3 := hp (v.sh.length - 1 - j) (by omega)
  rw [show v.sh.length - 1 - (v.sh.length - 1 - j) = j by omega] at h3
  exact h3
theorem some_tab {v : Vw} {n : Nat} (hn : v.sh.length = n) (h : someB v = true) : stridesL v.sh = tabI7 n fun j => strE v.sh (n - 1 - j) := by
  refine str_tab hn (str_full ?_ fun z hz => ?_)
  · unfold someB at h
    simp only [Bool.and_eq_true] at h
    exact (rightV_all h.1).1
  · obtain ⟨i, hi, rfl⟩ := List.getElem_of_mem hz
    have := some_ones h i hi
    simpa [List.getD, hi] using this
set_option maxHeartbeats 4000000 in
theorem own8_dense (A A' : Option Addr) (n c n' c' : Nat) (s t : List Int) (o : Int) (w : World) (h : NumsF w A n c s) (h' : NumsF w A' n' c' t) (hn : n ≤ 1048576) (hn' : n' ≤ 1048576) :
    Calls Try.prog 34 #[.agg #[.slice A n c, .slice A' n' c', .int .i64 o]] w (TellG (.bool (denseB ⟨s, t, o⟩)) w) := by
  have HR := Lib.hid (fun w' (hg : w.grownBy w' none) => own8_right A A' n c n' c' s t o w' (h.grow hg) (h'.grow hg) hn hn')
  have HZ := Lib.hid (fun w' (hg : w.grownBy w' none) => own8_size A A' n c n' c' s t o w' (h.grow hg) hn)
  have HAX := Lib.hid (fun w' (hg : w.grownBy w' none) => own8_axes A A' n c n' c' s t o w' (h.grow hg) (h'.grow hg) hn hn')
  have HST := Lib.hid (fun w' (hg : w.grownBy w' none) => own7_strides A n c s w' (h.1.grow hg) hn)
  have HL := Lib.hid h.len
  obtain ⟨w1, hw1⟩ : ∃ w1, w1 = w.alloc (.cells #[.slice A n c, .slice A' n' c', .int .i64 o] 29) := ⟨_, rfl⟩
  have hb := box8 w 29 #[.slice A n c, .slice A' n' c', .int .i64 o]
  rw [← hw1] at hb
  obtain ⟨hx, hg1⟩ := hb
  have HX := Lib.hid hx
  have HG1 := Lib.hid hg1
  have HW1 := Lib.hid hw1
  have HDB := Lib.hid (show ∀ b d, rightV ⟨s, t, o⟩ = b → decide (cellsV ⟨s, t, o⟩ = 0) = d → denseB ⟨s, t, o⟩ = (b && (d || decide (denseP ⟨s, t, o⟩ s.length))) from fun b d hb hd => by unfold denseB; rw [hb, hd])
  clear h h' hw1 hx hg1
  cases hr : rightV ⟨s, t, o⟩ with
  | false =>
    rw [hr] at HR
    have HF := Lib.hid (show denseB ⟨s, t, o⟩ = false by rw [HDB.out _ _ hr rfl]; rfl)
    clear hr
    go_enter Try.func34, Try.ntmps34
    go_upto_region 1 with fail
    rw [← HW1.out]
    have x0 := HX.out.get 0
    have x1 := HX.out.get 1
    have x2 := HX.out.get 2
    go_wp2_with fail
    refine (HR.out _ HG1.out).mono ?_
    rintro e w2 ⟨rfl, hg⟩
    have HG2 := Lib.hid (grown_join HG1.out hg (.inr (by simp)))
    have HX2 := Lib.hid (HX.out.grown hg (by simp))
    clear hg x0 x1 x2
    have x0 := HX2.out.get 0
    have x1 := HX2.out.get 1
    have x2 := HX2.out.get 2
    go_wp2_with fail
    refine (HR.out _ HG2.out).mono ?_
    rintro e w3 ⟨rfl, hg⟩
    have HG3 := Lib.hid (grown_join HG2.out hg (.inr (by simp)))
    clear hg x0 x1 x2
    go_wp2_with fail
    go_ret
    exact tellG_eq (by rw [HF.out]; rfl) HG3.out
  | true =>
    rw [hr] at HR
    by_cases hz : cellsV ⟨s, t, o⟩ = 0
    · have HF := Lib.hid (show denseB ⟨s, t, o⟩ = true by rw [HDB.out _ _ hr (decide_eq_true hz)]; rfl)
      rw [hz] at HZ
      clear hr hz
      go_enter Try.func34, Try.ntmps34
      go_upto_region 1 with fail
      rw [← HW1.out]
      have x0 := HX.out.get 0
      have x1 := HX.out.get 1
      have x2 := HX.out.get 2
      go_wp2_with fail
      refine (HR.out _ HG1.out).mono ?_
      rintro e w2 ⟨rfl, hg⟩
      have HG2 := Lib.hid (grown_join HG1.out hg (.inr (by simp)))
      have HX2 := Lib.hid (HX.out.grown hg (by simp))
      clear hg x0 x1 x2
      have x0 := HX2.out.get 0
      have x1 := HX2.out.get 1
      have x2 := HX2.out.get 2
      go_wp2_with fail
      refine (HZ.out _ HG2.out).mono ?_
      rintro e w3 ⟨rfl, hg⟩
      have HG3 := Lib.hid (grown_join HG2.out hg (.inr (by simp)))
      have HX3 := Lib.hid (HX2.out.grown hg (by simp))
      clear hg x0 x1 x2
      have x0 := HX3.out.get 0
      have x1 := HX3.out.get 1
      have x2 := HX3.out.get 2
      go_wp2_with fail
      refine (HR.out _ HG3.out).mono ?_
      rintro e w4 ⟨rfl, hg⟩
      have HG4 := Lib.hid (grown_join HG3.out hg (.inr (by simp)))
      clear hg x0 x1 x2
      go_wp2_with fail
      go_ret
      exact tellG_eq (by rw [HF.out]; rfl) HG4.out
    · have HSM := Lib.hid (show someB ⟨s, t, o⟩ = true by unfold someB; rw [hr, decide_eq_true hz]; rfl)
      have HRT := Lib.hid hr
      have HTB := Lib.hid (show stridesL s = tabI7 n fun j => strE s (n - 1 - j) from some_tab (v := ⟨s, t, o⟩) HL.out HSM.out)
      have HNO := Lib.hid (show ∀ i, i < n → s.getD i 0 ≠ 1 → t.getD i 0 ≠ strE s (n - 1 - i) → denseB ⟨s, t, o⟩ = false from fun i hi h1 h2 => dense_front_no HSM.out (i := i) (by show i < s.length; rw [HL.out]; exact hi) h1 (by show _ ≠ strE s (s.length - 1 - i); rw [HL.out]; exact h2))
      have HYE := Lib.hid (show (∀ i, i < n → s.getD i 0 = 1 ∨ t.getD i 0 = strE s (n - 1 - i)) → denseB ⟨s, t, o⟩ = true from fun hp => dense_front_yes HSM.out fun i hi => by show _ ∨ _ = strE s (s.length - 1 - i); rw [HL.out]; exact hp i (by rw [← HL.out]; exact hi))
      clear hr
      generalize cellsV ⟨s, t, o⟩ = cc at *
      have d0 : (cc == 0) = false := by simp [hz]
      clear hz
      go_enter Try.func34, Try.ntmps34
      go_upto_region 1 with fail
      rw [← HW1.out]
      have x0 := HX.out.get 0
      have x1 := HX.out.get 1
      have x2 := HX.out.get 2
      go_wp2_with fail
      refine (HR.out _ HG1.out).mono ?_
      rintro e w2 ⟨rfl, hg⟩
      have HG2 := Lib.hid (grown_join HG1.out hg (.inr (by simp)))
      have HX2 := Lib.hid (HX.out.grown hg (by simp))
      clear hg x0 x1 x2
      have x0 := HX2.out.get 0
      have x1 := HX2.out.get 1
      have x2 := HX2.out.get 2
      go_wp2_with fail
      refine (HZ.out _ HG2.out).mono ?_
      rintro e w3 ⟨rfl, hg⟩
      have HG3 := Lib.hid (grown_join HG2.out hg (.inr (by simp)))
      have HX3 := Lib.hid (HX2.out.grown hg (by simp))
      clear hg x0 x1 x2
      have x0 := HX3.out.get 0
      have x1 := HX3.out.get 1
      have x2 := HX3.out.get 2
      go_wp2_with fail
      refine (HAX.out _ HG3.out).mono ?_
      rintro e w4 ⟨b1, b2, rfl, hax, hg⟩
      have HAXS := Lib.hid hax
      have HG4 := Lib.hid (grown_join HG3.out hg (.inr (by simp)))
      have HX4 := Lib.hid (HX3.out.grown hg (by simp))
      clear hg hax x0 x1 x2
      have x0 := HX4.out.get 0
      have x1 := HX4.out.get 1
      have x2 := HX4.out.get 2
      go_wp2_with fail
      refine (HST.out _ HG4.out).mono ?_
      rintro e w5 ⟨A3, c3, rfl, ho, hg⟩
      rw [HTB.out, tabI_length7] at ho ⊢
      have HO := Lib.hid ho
      have HG5 := Lib.hid (grown_join HG4.out hg (.inr (by simp)))
      have HAX5 := Lib.hid (HAXS.out.grow hg)
      clear hg ho x0 x1 x2
      go_wp2_with fail
      go_loopw [25] (fun i wr => ∃ k : Nat, k ≤ n ∧ i = .int .i64 k ∧ (∀ j, j < k → s.getD j 0 = 1 ∨ t.getD j 0 = strE s (n - 1 - j)) ∧ w5.grownBy wr none) (fun i _ => n - (intOf i).toNat)
      case atStart => exact ⟨0, Nat.zero_le _, rfl, fun j hj => by omega, grown_refl _ _⟩
      case round =>
        obtain ⟨k, hk, rfl, hq, hgw⟩ := hrel
        have HQ := Lib.hid hq
        have HGW := Lib.hid hgw
        have HG6 := Lib.hid (grown_join HG5.out hgw (.inr (by simp)))
        clear hgw hq
        by_cases hlt : k < n
        · have hks : k < s.length := by rw [HL.out]; exact hlt
          obtain ⟨r, rfl, _, c0, _⟩ := (HO.out.grow HGW.out).at_ hlt
          rw [tabI_get7 _ _ _ hlt] at c0
          have HAC := Lib.hid (own8_axis b1 b2 _ (k : Int) wr (HAX5.out.grow HGW.out))
          have HAT := Lib.hid (axis_at HRT.out (k := k) hks)
          have hat1 : axN ⟨s, t, o⟩ (k : Int) = s.getD k 0 := HAT.out.1
          have hat2 : axS ⟨s, t, o⟩ (k : Int) = t.getD k 0 := HAT.out.2.1
          rw [hat1, hat2, HAT.out.2.2] at HAC
          have HNOK := Lib.hid (HNO.out k hlt)
          have HNX := Lib.hid (show (s.getD k 0 = 1 ∨ t.getD k 0 = strE s (n - 1 - k)) → ∀ j, j < k + 1 → s.getD j 0 = 1 ∨ t.getD j 0 = strE s (n - 1 - j) from fun hb j hj => by
            by_cases hjk : j = k
            · subst hjk; exact hb
            · exact HQ.out j (by omega))
          clear hks hat1 hat2
          generalize s.getD k 0 = u at *
          generalize t.getD k 0 = z at *
          generalize strE s (n - 1 - k) = v at *
          by_cases hu : u = 1
          · have d1 : (u != 1) = false := by simp [hu]
            have HNXT := Lib.hid (HNX.out (.inl hu))
            clear hu
            go_wp2_with fail
            refine HAC.out.mono ?_
            rintro e w6 ⟨rfl, hg⟩
            have HG7 := Lib.hid (grown_join HGW.out hg (.inr (by simp)))
            clear hg
            go_wp2_with fail
            go_roundw
            case rel => exact ⟨k + 1, by omega, by go_num, HNXT.out, HG7.out⟩
            case measure => simp [intOf]; omega
          · have d1 : (u != 1) = true := by simp [hu]
            by_cases hz : z = v
            · have d2 : (z != v) = false := by simp [hz]
              have HNXT := Lib.hid (HNX.out (.inr hz))
              clear hu hz
              go_wp2_with fail
              refine HAC.out.mono ?_
              rintro e w6 ⟨rfl, hg⟩
              have HG7 := Lib.hid (grown_join HGW.out hg (.inr (by simp)))
              clear hg
              go_wp2_with fail
              go_roundw
              case rel => exact ⟨k + 1, by omega, by go_num, HNXT.out, HG7.out⟩
              case measure => simp [intOf]; omega
            · have d2 : (z != v) = true := by simp [hz]
              have HF := Lib.hid (HNOK.out hu hz)
              clear hu hz
              go_wp2_with fail
              refine HAC.out.mono ?_
              rintro e w6 ⟨rfl, hg⟩
              have HG7 := Lib.hid (grown_join HG6.out hg (.inr (by simp)))
              clear hg
              go_wp2_with fail
              go_ret
              exact tellG_eq (by rw [HF.out]; rfl) HG7.out
        · obtain rfl : k = n := by omega
          have HF := Lib.hid (HYE.out HQ.out)
          go_wp2_with fail
          go_ret
          exact tellG_eq (by rw [HF.out]; rfl) HG6.out
end Go.Proofs.Ytkpfhjjojchdlaa
end
