/-
  Texts of this claim, one behind the other.
-/
import Derived.LaidEqlPtr
import Derived.Test.YtdjenakmdjiknaaPack1
import Derived.Test.YtdjenakmdjiknaaPack2
import Derived.Test.YtdjenakmdjiknaaPack3
import Derived.Test.YtdjenakmdjiknaaPack4
import Derived.Test.YtdjenakmdjiknaaPack5
import Derived.Test.YtdjenakmdjiknaaPack6
import Derived.Test.YtdjenakmdjiknaaPack7
import Derived.Test.YtdjenakmdjiknaaPack8

/-! Layer 8, the program's own: beyond, ContainsFunc, Right, size, axes. · Layer 8, the program's own: Offset, Bounds, Fits, Dense. -/
section
/-! Layer 8, the program's own: beyond, ContainsFunc, Right, size, axes. -/
section
namespace Go.Proofs.Ytdjenakmdjiknaa
open Go.ChangeShapes Go.WideShapes Go.ChangeAt Go.RowKit
set_option linter.unusedVariables false
set_option maxRecDepth 100000

def farB (x : Int) : Bool := decide (x < -1048576 ∨ 1048576 < x)
theorem own8_beyond (x : Int) (w : World) : Calls Try.prog 37 #[.int .i64 x] w fun e w' => e = .returned (.bool (farB x)) ∧ w' = w := by
  by_cases h0 : x < -1048576
  · have d0 : decide (x < -1048576) = true := decide_eq_true h0
    have HB := Lib.hid (show farB x = true from decide_eq_true (.inl h0))
    go_enter Try.func37, Try.ntmps37
    go_wp2
    go_ret
    exact ⟨congrArg (fun b => Ending.returned (.bool b)) HB.out.symm, rfl⟩
  · have d0 : decide (x < -1048576) = false := decide_eq_false h0
    by_cases h1 : 1048576 < x
    · have d1 : decide ((1048576 : Int) < x) = true := decide_eq_true h1
      have HB := Lib.hid (show farB x = true from decide_eq_true (.inr h1))
      go_enter Try.func37, Try.ntmps37
      go_wp2
      go_ret
      exact ⟨congrArg (fun b => Ending.returned (.bool b)) HB.out.symm, rfl⟩
    · have d1 : decide ((1048576 : Int) < x) = false := decide_eq_false h1
      have HB := Lib.hid (show farB x = false from decide_eq_false (by omega))
      go_enter Try.func37, Try.ntmps37
      go_wp2
      go_ret
      exact ⟨congrArg (fun b => Ending.returned (.bool b)) HB.out.symm, rfl⟩
/-- one of the first n is too far. -/
def farL (t : List Int) (n : Nat) : Bool := decide (¬ ∀ i, i < n → farB (t.getD i 0) = false)
theorem far_yes {t : List Int} {n k : Nat} (hk : k < n) (h : farB (t.getD k 0) = true) : farL t n = true := decide_eq_true fun hh => by
  have := hh k hk
  rw [h] at this
  cases this
theorem far_no {t : List Int} {n : Nat} (h : ∀ i, i < n → farB (t.getD i 0) = false) : farL t n = false := decide_eq_false fun hh => hh h
set_option maxHeartbeats 1000000 in
theorem own8_index (A : Option Addr) (n c B : Nat) (t : List Int) (w : World) (h : Nums w B A n t) (hn : n ≤ 1048576) :
    Calls Try.prog 53 #[.slice A n c, (.func (.func 37) #[] #[])] w fun e w' => (∃ z : Int, e = .returned (.int .i64 z) ∧ decide (0 ≤ z) = farL t n) ∧ w' = w := by
  have H := Lib.hid h
  have HY := Lib.hid (fun (k : Nat) (hk : k < n) (hh : farB (t.getD k 0) = true) => far_yes (n := n) hk hh)
  have HN := Lib.hid (show (∀ i, i < n → farB (t.getD i 0) = false) → farL t n = false from fun hh => far_no hh)
  clear h
  go_enter Try.func53, Try.ntmps53
  go_wp2
  go_loop [8] (fun i => ∃ k : Nat, k ≤ n ∧ i = .int .i64 k ∧ ∀ j, j < k → farB (t.getD j 0) = false) (fun i => n - (intOf i).toNat)
  case atStart => exact ⟨0, Nat.zero_le _, rfl, fun j hj => by omega⟩
  case round =>
    obtain ⟨k, hk, rfl, hq⟩ := hrel
    have HQ := Lib.hid hq
    clear hq
    by_cases hlt : k < n
    · obtain ⟨b, off, rfl, _, hc⟩ := H.out.2.at_ hlt
      have HC := Lib.hid (own8_beyond (t.getD k 0) w)
      have HYE := Lib.hid (HY.out k hlt)
      have HNX := Lib.hid (show farB (t.getD k 0) = false → ∀ j, j < k + 1 → farB (t.getD j 0) = false from fun hb j hj => by
        by_cases hjk : j = k
        · subst hjk; exact hb
        · exact HQ.out j (by omega))
      generalize t.getD k 0 = v at *
      go_wp2_with fail
      refine HC.out.mono ?_
      rintro e w1 ⟨rfl, rfl⟩
      clear HC
      generalize farB v = ok at *
      cases ok with
      | false =>
        go_wp2
        go_round
        case rel => exact ⟨k + 1, by omega, by go_num, HNX.out (by first | rfl | trivial)⟩
        case measure => simp [intOf]; omega
      | true =>
        go_wp2
        go_ret
        exact ⟨⟨(k : Int), rfl, by rw [HYE.out (by first | rfl | trivial)]; simp⟩, rfl⟩
    · obtain rfl : k = n := by omega
      go_wp2
      go_ret
      exact ⟨⟨-1, rfl, by rw [HN.out HQ.out]; rfl⟩, rfl⟩
theorem own8_contains (A : Option Addr) (n c B : Nat) (t : List Int) (w : World) (h : Nums w B A n t) (hn : n ≤ 1048576) :
    Calls Try.prog 36 #[.slice A n c, (.func (.func 37) #[] #[])] w fun e w' => e = .returned (.bool (farL t n)) ∧ w' = w := by
  have HI := Lib.hid (own8_index A n c B t w h hn)
  clear h
  go_enter Try.func36, Try.ntmps36
  go_wp2_with fail
  refine HI.out.mono ?_
  rintro e w1 ⟨⟨z, rfl, hz⟩, rfl⟩
  go_wp2_with fail
  go_ret
  first | exact ⟨rfl, rfl⟩ | exact ⟨congrArg (fun b => Ending.returned (.bool b)) hz, rfl⟩
/-! ### Right -/
theorem far_right {s t : List Int} {o : Int} {n : Nat} (hf : full s = true) (ht : t.length = n) (hs : s.length = n) (h0 : 0 ≤ o) (h1 : o ≤ 16777216) : (!farL t n) = rightV ⟨s, t, o⟩ := by
  subst ht
  cases hb : farL t t.length with
  | false =>
    have := of_decide_eq_false hb
    exact (rightV_yes (v := ⟨s, t, o⟩) ⟨hf, hs.symm, h0, h1, fun i hi => by
      have h2 := of_decide_eq_false (Decidable.of_not_not this i hi)
      show -1048576 ≤ t.getD i 0 ∧ t.getD i 0 ≤ 1048576
      omega⟩).symm
  | true =>
    have := of_decide_eq_true hb
    exact (rightV_not (v := ⟨s, t, o⟩) fun hp => this fun i hi => decide_eq_false (by
      have h2 : -1048576 ≤ t.getD i 0 ∧ t.getD i 0 ≤ 1048576 := hp.2.2.2.2 i hi
      omega)).symm
set_option maxHeartbeats 2000000 in
theorem own8_right (A A' : Option Addr) (n c n' c' : Nat) (s t : List Int) (o : Int) (w : World) (h : NumsF w A n c s) (h' : NumsF w A' n' c' t) (hn : n ≤ 1048576) (hn' : n' ≤ 1048576) :
    Calls Try.prog 17 #[.agg #[.slice A n c, .slice A' n' c', .int .i64 o]] w (TellG (.bool (rightV ⟨s, t, o⟩)) w) := by
  have HS := Lib.hid (fun w' (hg : w.grownBy w' none) => own7_size A n c _ s 1048576 w' (h.1.grow hg) hn (by unfold I64; omega))
  have HC := Lib.hid (fun w' (hg : w.grownBy w' none) => own8_contains A' n' c' _ t w' (h'.1.grow hg) hn')
  have HL := Lib.hid h.1.1
  have HL' := Lib.hid h'.1.1
  obtain ⟨w1, hw1⟩ : ∃ w1, w1 = w.alloc (.cells #[.slice A n c, .slice A' n' c', .int .i64 o] 34) := ⟨_, rfl⟩
  have HG1 := Lib.hid (show w.grownBy w1 none by rw [hw1]; exact World.grownBy_alloc _ _ _)
  have HX := Lib.hid (show Box w1 w.heap.size 34 #[.slice A n c, .slice A' n' c', .int .i64 o] by rw [hw1]; exact Box.fresh _ _ _)
  have HW1 := Lib.hid hw1
  have HFU := Lib.hid (show sizeB s 1048576 = full s from rfl)
  clear h h' hw1
  have HNOT := Lib.hid (fun hp => rightV_not (v := ⟨s, t, o⟩) hp)
  have HYES := Lib.hid (fun hf ht hs h0 h1 => far_right (s := s) (t := t) (o := o) (n := n) hf ht hs h0 h1)
  go_enter Try.func17, Try.ntmps17
  go_upto_region 1 with fail
  rw [← HW1.out]
  have x0 := HX.out.get 0
  have x1 := HX.out.get 1
  have x2 := HX.out.get 2
  cases hf : full s with
  | false =>
    rw [HFU.out, hf] at HS
    have HR := Lib.hid (HNOT.out fun hp => absurd hp.1 (by show ¬ full s = true; rw [hf]; simp))
    clear hf
    go_wp2_with fail
    refine (HS.out _ HG1.out).mono ?_
    rintro e w2 ⟨rfl, rfl⟩
    go_wp2_with fail
    go_ret
    exact tellG_eq (by rw [HR.out]; rfl) HG1.out
  | true =>
    rw [HFU.out, hf] at HS
    have HFT := Lib.hid hf
    clear hf
    by_cases hnn : n' = n
    · subst hnn
      have e0 : ((n' : Int) == (n' : Int)) = true := by simp
      by_cases h0 : 0 ≤ o
      · have d0 : decide (0 ≤ o) = true := decide_eq_true h0
        by_cases h1 : o ≤ 16777216
        · have d1 : decide (o ≤ 16777216) = true := decide_eq_true h1
          have HR := Lib.hid (HYES.out HFT.out HL'.out HL.out h0 h1)
          clear h0 h1
          go_wp2_with fail
          refine (HS.out _ HG1.out).mono ?_
          rintro e w2 ⟨rfl, rfl⟩
          go_wp2_with fail
          refine (HC.out _ HG1.out).mono ?_
          rintro e w3 ⟨rfl, rfl⟩
          generalize hfb : farL t n' = fb at *
          go_wp2_with fail
          go_ret
          exact tellG_eq (by rw [← HR.out]; rfl) HG1.out
        · have d1 : decide (o ≤ 16777216) = false := decide_eq_false h1
          have HR := Lib.hid (HNOT.out fun hp => by have := hp.2.2.2.1; exact absurd this h1)
          clear h0 h1
          go_wp2_with fail
          refine (HS.out _ HG1.out).mono ?_
          rintro e w2 ⟨rfl, rfl⟩
          go_wp2_with fail
          go_ret
          exact tellG_eq (by rw [HR.out]; rfl) HG1.out
      · have d0 : decide (0 ≤ o) = false := decide_eq_false h0
        have HR := Lib.hid (HNOT.out fun hp => by have := hp.2.2.1; exact absurd this h0)
        clear h0
        go_wp2_with fail
        refine (HS.out _ HG1.out).mono ?_
        rintro e w2 ⟨rfl, rfl⟩
        go_wp2_with fail
        go_ret
        exact tellG_eq (by rw [HR.out]; rfl) HG1.out
    · have e0 : ((n' : Int) == (n : Int)) = false := by simp; omega
      have HR := Lib.hid (HNOT.out fun hp => hnn (by rw [← HL.out, ← HL'.out]; exact hp.2.1))
      clear hnn
      go_wp2_with fail
      refine (HS.out _ HG1.out).mono ?_
      rintro e w2 ⟨rfl, rfl⟩
      go_wp2_with fail
      go_ret
      exact tellG_eq (by rw [HR.out]; rfl) HG1.out
/-! ### axes -/
def axN (v : Vw) (x : Int) : Int := if axisB v x = true then v.sh.getD x.toNat 0 else 0
def axS (v : Vw) (x : Int) : Int := if axisB v x = true then v.st.getD x.toNat 0 else 0
/-- what the function that axes hands back has caught. -/
structure Axes (w : World) (b1 b2 : Nat) (v : Vw) : Prop where
  yes : Box w b1 4 #[.bool (rightV v)]
  it : ∃ A n c A' n' c', Box w b2 34 #[.slice A n c, .slice A' n' c', .int .i64 v.off] ∧ NumsF w A n c v.sh ∧ NumsF w A' n' c' v.st ∧ n ≤ 1048576 ∧ n' ≤ 1048576
theorem Axes.grow {w w' : World} {b1 b2 : Nat} {v : Vw} (h : Axes w b1 b2 v) (hg : w.grownBy w' none) : Axes w' b1 b2 v := by
  obtain ⟨A, n, c, A', n', c', h1, h2, h3, h4⟩ := h.it
  exact ⟨h.yes.grown hg (by simp), ⟨A, n, c, A', n', c', h1.grown hg (by simp), h2.grow hg, h3.grow hg, h4⟩⟩
end Go.Proofs.Ytdjenakmdjiknaa
end

/-! Layer 8, the program's own: Offset, Bounds, Fits, Dense. -/
section
namespace Go.Proofs.Ytdjenakmdjiknaa
open Go.ChangeShapes Go.WideShapes Go.ChangeAt Go.RowKit
set_option linter.unusedVariables false
set_option maxRecDepth 100000

set_option maxHeartbeats 2000000 in
theorem own8_offset (A A' A2 : Option Addr) (n c n' c' n2 c2 : Nat) (s t l : List Int) (o : Int) (w : World) (h : NumsF w A n c s) (h' : NumsF w A' n' c' t) (ha : NumsF w A2 n2 c2 l) (hn : n ≤ 1048576) (hn' : n' ≤ 1048576) (hn2 : n2 ≤ 1048576) :
    Calls Try.prog 21 #[.agg #[.slice A n c, .slice A' n' c', .int .i64 o], .slice A2 n2 c2] w (TellG (.tuple #[.int .i64 (offV ⟨s, t, o⟩ l), .bool (offB ⟨s, t, o⟩ l)]) w) := by
  have HR := Lib.hid (fun w' (hg : w.grownBy w' none) => own8_right A A' n c n' c' s t o w' (h.grow hg) (h'.grow hg) hn hn')
  have HA := Lib.hid (fun w' (hg : w.grownBy w' none) => own7_has A A2 n c _ n2 c2 _ s l w' (h.1.grow hg) (ha.1.grow hg) hn hn2)
  have H' := Lib.hid h'
  have H2 := Lib.hid ha
  have HL := Lib.hid h.len
  have HL2 := Lib.hid ha.len
  obtain ⟨w1, hw1⟩ : ∃ w1, w1 = w.alloc (.cells #[.slice A n c, .slice A' n' c', .int .i64 o] 34) := ⟨_, rfl⟩
  have hb := box8 w 34 #[.slice A n c, .slice A' n' c', .int .i64 o]
  rw [← hw1] at hb
  obtain ⟨hx, hg1⟩ := hb
  have HX := Lib.hid hx
  have HG1 := Lib.hid hg1
  have HW1 := Lib.hid hw1
  have HOB := Lib.hid (show ∀ b d, rightV ⟨s, t, o⟩ = b → hasB s l = d → offB ⟨s, t, o⟩ l = (b && d) from fun b d hb hd => by unfold offB; rw [hb, hd])
  have HNV := Lib.hid (fun (hb : offB ⟨s, t, o⟩ l = false) => offV_no hb)
  have HYV := Lib.hid (fun (hb : offB ⟨s, t, o⟩ l = true) => offV_yes hb)
  clear h h' ha hw1 hx hg1
  cases hr : rightV ⟨s, t, o⟩ with
  | false =>
    rw [hr] at HR
    have HF := Lib.hid (show offB ⟨s, t, o⟩ l = false by rw [HOB.out _ _ hr rfl]; rfl)
    have HV := Lib.hid (HNV.out HF.out)
    clear hr
    go_enter Try.func21, Try.ntmps21
    go_upto_region 1 with fail
    rw [← HW1.out]
    have x0 := HX.out.get 0
    have x1 := HX.out.get 1
    have x2 := HX.out.get 2
    go_wp2_with fail
    refine (HR.out _ HG1.out).mono ?_
    rintro e w2 ⟨rfl, hg⟩
    have HG2 := Lib.hid (grown_join HG1.out hg (.inr (by simp)))
    have HX2 := Lib.hid (HX.out.grown hg (by simp))
    clear hg x0 x1 x2
    have x0 := HX2.out.get 0
    have x1 := HX2.out.get 1
    have x2 := HX2.out.get 2
    go_wp2_with fail
    go_ret2
    exact tellG_two HV.out.symm HF.out.symm HG2.out
  | true =>
    rw [hr] at HR
    cases hh : hasB s l with
    | false =>
      rw [hh] at HA
      have HF := Lib.hid (show offB ⟨s, t, o⟩ l = false by rw [HOB.out _ _ hr hh]; rfl)
      have HV := Lib.hid (HNV.out HF.out)
      clear hr hh
      go_enter Try.func21, Try.ntmps21
      go_upto_region 1 with fail
      rw [← HW1.out]
      have x0 := HX.out.get 0
      have x1 := HX.out.get 1
      have x2 := HX.out.get 2
      go_wp2_with fail
      refine (HR.out _ HG1.out).mono ?_
      rintro e w2 ⟨rfl, hg⟩
      have HG2 := Lib.hid (grown_join HG1.out hg (.inr (by simp)))
      have HX2 := Lib.hid (HX.out.grown hg (by simp))
      clear hg x0 x1 x2
      have x0 := HX2.out.get 0
      have x1 := HX2.out.get 1
      have x2 := HX2.out.get 2
      go_wp2_with fail
      refine (HA.out _ HG2.out).mono ?_
      rintro e w3 ⟨rfl, rfl⟩
      go_wp2_with fail
      go_ret2
      exact tellG_two HV.out.symm HF.out.symm HG2.out
    | true =>
      rw [hh] at HA
      have HF := Lib.hid (show offB ⟨s, t, o⟩ l = true by rw [HOB.out _ _ hr hh]; rfl)
      have HV := Lib.hid (HYV.out HF.out)
      have HRT := Lib.hid hr
      have HHS := Lib.hid (has_all hh)
      clear hr hh
      have HNN := Lib.hid (show n2 = n by rw [← HL2.out, ← HL.out]; exact HHS.out.2.1)
      have hnn : n' = n2 := by rw [← H'.out.len, (rightV_all HRT.out).2.1, ← HHS.out.2.1, HL2.out]
      subst hnn
      go_enter Try.func21, Try.ntmps21
      go_upto_region 1 with fail
      rw [← HW1.out]
      have x0 := HX.out.get 0
      have x1 := HX.out.get 1
      have x2 := HX.out.get 2
      go_wp2_with fail
      refine (HR.out _ HG1.out).mono ?_
      rintro e w2 ⟨rfl, hg⟩
      have HG2 := Lib.hid (grown_join HG1.out hg (.inr (by simp)))
      have HX2 := Lib.hid (HX.out.grown hg (by simp))
      clear hg x0 x1 x2
      have x0 := HX2.out.get 0
      have x1 := HX2.out.get 1
      have x2 := HX2.out.get 2
      go_wp2_with fail
      refine (HA.out _ HG2.out).mono ?_
      rintro e w3 ⟨rfl, rfl⟩
      go_wp2_with fail
      go_loop [6, 24] (fun v i => ∃ k : Nat, k ≤ n' ∧ i = .int .i64 k ∧ v = .int .i64 (offE ⟨s, t, o⟩ l k)) (fun _ i => n' - (intOf i).toNat)
      case atStart => exact ⟨0, Nat.zero_le _, rfl, rfl⟩
      case round =>
        obtain ⟨k, hk, rfl, rfl⟩ := hrel
        clear x0 x1 x2
        by_cases hlt : k < n'
        · obtain ⟨b, off, rfl, _, hc⟩ := (H'.out.grow HG2.out).1.2.at_ hlt
          obtain ⟨b', off', rfl, _, hc'⟩ := (H2.out.grow HG2.out).1.2.at_ hlt
          have hks : k < s.length := by rw [HL.out, ← HNN.out]; exact hlt
          have hb1 := offE_in HF.out k (by show k ≤ s.length; omega)
          have hb2 := offE_in HF.out (k + 1) (by show k + 1 ≤ s.length; omega)
          have hb3 := (rightV_len HRT.out (i := k) hks)
          have hb4 := (rightV_str HRT.out (i := k) hks)
          have hb5 := HHS.out.2.2 k hks
          have hb6 := times_in hb5.1 (by have := hb3.2; show l.getD k 0 ≤ 1048576; dsimp only at *; omega) hb4.1 hb4.2
          have hb7 : k ≤ 6 := by have := rightV_dims HRT.out; dsimp only at this; omega
          have HST := Lib.hid (show offE ⟨s, t, o⟩ l (k + 1) = offE ⟨s, t, o⟩ l k + l.getD k 0 * t.getD k 0 from rfl)
          rw [HST.out] at hb2
          dsimp only at hb6
          clear hb3 hb4 hb5
          generalize offE ⟨s, t, o⟩ l k = x at *
          generalize l.getD k 0 = u at *
          generalize t.getD k 0 = z at *
          have e1 : IntKind.i64.wrap (u * z) = u * z := IntWalk.i64_in _ (by omega)
          have e2 : IntKind.i64.wrap (x + u * z) = x + u * z := IntWalk.i64_in _ (by omega)
          have e3 : wrap64 (u * z) = u * z := IntWalk.wrap64_in _ (by omega)
          have e4 : wrap64 (x + u * z) = x + u * z := IntWalk.wrap64_in _ (by omega)
          clear hb1 hb2 hb6 hb7 hks
          go_wp2_with fail
          go_round
          case rel => exact ⟨k + 1, by omega, by go_num, by rw [HST.out]⟩
          case measure => simp [intOf]; omega
        · obtain rfl : k = n' := by omega
          go_wp2_with fail
          go_ret2
          exact tellG_two (by rw [HV.out]; show _ = offE _ l s.length; rw [HL.out, ← HNN.out]) HF.out.symm HG2.out
/-! ### Bounds -/
theorem axis_at {v : Vw} (hr : rightV v = true) {k : Nat} (hk : k < v.sh.length) : axN v (k : Int) = v.sh.getD k 0 ∧ axS v (k : Int) = v.st.getD k 0 ∧ axisB v (k : Int) = true := by
  have h : axisB v (k : Int) = true := by unfold axisB; rw [hr, Bool.true_and]; exact decide_eq_true ⟨by omega, by omega⟩
  unfold axN axS
  rw [if_pos h, if_pos h]
  exact ⟨rfl, rfl, h⟩
/-! ### Fits -/
theorem fits_eq {v : Vw} {x lo hi : Int} {b d : Bool} (hb : rightV v = b) (hd : someB v = d) (hl : lowV v = lo) (hh : highV v = hi) : fitsB v x = (b && (!d || decide (0 ≤ lo ∧ hi < x))) := by unfold fitsB; rw [hb, hd, hl, hh]
/-! ### Dense -/
theorem beh_str {v : Vw} (h : someB v = true) : ∀ j, j ≤ v.sh.length → behE v j = strE v.sh j
  | 0, _ => rfl
  | j + 1, hj => by
    have h1 := some_ones h (v.sh.length - 1 - j) (by omega)
    rw [behE, strE, beh_str h j (by omega), show max 1 (v.sh.getD (v.sh.length - 1 - j) 0) = v.sh.getD (v.sh.length - 1 - j) 0 by omega]
theorem dense_some {v : Vw} (h : someB v = true) : denseB v = decide (denseP v v.sh.length) := by
  unfold someB at h
  simp only [Bool.and_eq_true, decide_eq_true_eq] at h
  unfold denseB
  rw [h.1, decide_eq_false h.2]
  rfl
theorem dense_front_no {v : Vw} (h : someB v = true) {i : Nat} (hi : i < v.sh.length) (h1 : v.sh.getD i 0 ≠ 1) (h2 : v.st.getD i 0 ≠ strE v.sh (v.sh.length - 1 - i)) : denseB v = false := by
  rw [dense_some h]
  refine decide_eq_false fun hp => ?_
  have h3 := hp (v.sh.length - 1 - i) (by omega)
  rw [show v.sh.length - 1 - (v.sh.length - 1 - i) = i by omega, beh_str h _ (by omega)] at h3
  exact h3.elim h1 h2
theorem dense_front_yes {v : Vw} (h : someB v = true) (hp : ∀ i, i < v.sh.length → v.sh.getD i 0 = 1 ∨ v.st.getD i 0 = strE v.sh (v.sh.length - 1 - i)) : denseB v = true := by
  rw [dense_some h]
  refine decide_eq_true fun j hj => ?_
  rw [beh_str h _ (by omega)]
  have h3 := hp (v.sh.length - 1 - j) (by omega)
  rw [show v.sh.length - 1 - (v.sh.length - 1 - j) = j by omega] at h3
  exact h3
theorem some_tab {v : Vw} {n : Nat} (hn : v.sh.length = n) (h : someB v = true) : stridesL v.sh = tabI7 n fun j => strE v.sh (n - 1 - j) := by
  refine str_tab hn (str_full ?_ fun z hz => ?_)
  · unfold someB at h
    simp only [Bool.and_eq_true] at h
    exact (rightV_all h.1).1
  · obtain ⟨i, hi, rfl⟩ := List.getElem_of_mem hz
    have := some_ones h i hi
    simpa [List.getD, hi] using this
end Go.Proofs.Ytdjenakmdjiknaa
end
end

/-! Layer 9, the program's own: begin. -/
section
namespace Go.Proofs.Ytdjenakmdjiknaa
open Go.ChangeShapes Go.WideShapes Go.ChangeAt Go.RowKit Go.Shelf
set_option linter.unusedVariables false
set_option maxRecDepth 100000

theorem boxes9 (w : World) (t t' : TypeId) (cs cs' : Array Value) : Box ((w.alloc (.cells cs t)).alloc (.cells cs' t')) w.heap.size t cs ∧ Box ((w.alloc (.cells cs t)).alloc (.cells cs' t')) (w.heap.size + 1) t' cs' ∧ w.grownBy ((w.alloc (.cells cs t)).alloc (.cells cs' t')) none := by
  refine ⟨(Box.fresh w t cs).alloc _, ?_, grown_alloc (World.grownBy_alloc _ _ _) _⟩
  have := Box.fresh (w.alloc (.cells cs t)) t' cs'
  rw [World.size_alloc] at this
  exact this
theorem results_walk {w : World} {b : Nat} {t : TypeId} {s : WalkS} {fn : Func} {p : Tmp} {tmps : Array Value} (h : fn.results = #[.cell p 62]) (hp : tmps.getD p undef = .pointer (some ⟨b, 0, none⟩)) (hb : WalkB w b t [] s) : (results fn tmps).run Try.prog w = .ok (.agg (walkL s).toArray) w := by
  obtain ⟨d, h1, h2⟩ := walk_row
  refine results_cell_row h tmps w b t _ (0, 0) d hp hb h1 ?_ walk_info
  cases d <;> simp_all
theorem int_size9 : (Try.prog.info? 3).map (·.size) = some 1 := by kernel_rfl
/-- a list laid over the first of f. -/
def overF (f : Nat → Int) (zs : List Int) (i : Nat) : Int := if i < zs.length then zs.getD i 0 else f i
theorem over_sz (s : WalkS) (zs : List Int) (h : zs.length ≤ 6) : (walkL s).take 1 ++ intV zs ++ (walkL s).drop (1 + zs.length) = walkL { s with sz := overF s.sz zs } := by
  match zs, h with
  | [], _ => rfl
  | [_], _ => rfl
  | [_, _], _ => rfl
  | [_, _, _], _ => rfl
  | [_, _, _, _], _ => rfl
  | [_, _, _, _, _], _ => rfl
  | [_, _, _, _, _, _], _ => rfl
  | _ :: _ :: _ :: _ :: _ :: _ :: _ :: _, h => simp at h
theorem over_st (s : WalkS) (zs : List Int) (h : zs.length ≤ 6) : (walkL s).take 7 ++ intV zs ++ (walkL s).drop (7 + zs.length) = walkL { s with st := overF s.st zs } := by
  match zs, h with
  | [], _ => rfl
  | [_], _ => rfl
  | [_, _], _ => rfl
  | [_, _, _], _ => rfl
  | [_, _, _, _], _ => rfl
  | [_, _, _, _, _], _ => rfl
  | [_, _, _, _, _, _], _ => rfl
  | _ :: _ :: _ :: _ :: _ :: _ :: _ :: _, h => simp at h
theorem copy_walk {w : World} {b B : Nat} {t : TypeId} {s z : WalkS} {A : Option Addr} {n c k : Nat} {zs : List Int} (h : WalkB w b t [] s) (hz : Nums w B A n zs) (hn : n ≤ 6) (hk : k + 6 ≤ 22) (he : (walkL s).take k ++ intV zs ++ (walkL s).drop (k + zs.length) = walkL z) (sT ty : TypeId) :
    ∃ w2, (Builtin.copy_ #[22, sT] ty #[.slice (some ⟨b, k, none⟩) 6 6, .slice A n c]).run Try.prog w = .ok (goInt n) w2 ∧ WalkB w2 b t [] z ∧ w.grownBy w2 (some b) := by
  have hl := hz.1
  cases n with
  | zero =>
    obtain rfl : zs = [] := List.eq_nil_of_length_eq_zero hl
    refine ⟨w, run_copy_none (P := Try.prog) w _ _ ty 3 _ _ 6 6 0 c Try.underlying22 int_size9 (by simp), ?_, grown_refl _ _⟩
    simp only [intV, List.map_nil, List.append_nil, List.length_nil, Nat.add_zero, List.take_append_drop] at he
    exact walkB_congr h he
  | succ m =>
    obtain ⟨b', off, rfl, _, _⟩ := hz.2.at_ (Nat.succ_pos m)
    have hrun := run_copy_row (P := Try.prog) w 22 sT ty 3 b k 6 6 ⟨b', off, none⟩ (m + 1) c _ t (intV zs) Try.underlying22 int_size9 h (by rw [intV_length, hl]; exact (Nat.min_eq_left hn).symm) hz.src (by rw [intV_length, hl]; simp [walkL_len]; omega) (intV_one zs)
    rw [intV_length, hl] at hrun
    rw [hl] at he
    refine ⟨_, hrun, ?_, rfl, rfl, rfl, by simp [World.setRow], fun x hx hne => setRow_other w b x _ (by intro e; subst e; exact hne rfl)⟩
    have h1 := setRow_heap w b _ ((walkL s).take k ++ intV zs ++ (walkL s).drop (k + (m + 1))).toArray t _ h
    rw [he] at h1
    have h2 : (([] ++ walkL s).toArray.toList.take k ++ intV zs ++ ([] ++ walkL s).toArray.toList.drop (k + (m + 1))).toArray = (walkL z).toArray := by simp only [List.nil_append]; rw [he]
    rw [h2]
    exact h1
theorem rest_zero (s : List Int) : ∀ j, restE s 0 j = 0
  | 0 => rfl
  | j + 1 => by rw [restE, rest_zero s j, Int.zero_ediv]
theorem offD_zero (o : Int) (st : Nat → Int) : ∀ n, offD o st (fun _ => 0) n = o
  | 0 => rfl
  | n + 1 => by rw [offD, offD_zero o st n, Int.zero_mul, Int.add_zero]
theorem wrap_mul (a z : Int) : wrap64 (wrap64 a * z) = wrap64 (a * z) := by
  obtain ⟨k, hk⟩ : ∃ k : Int, wrap64 a = a - 18446744073709551616 * k := ⟨(a + 9223372036854775808) / 18446744073709551616, by unfold wrap64; omega⟩
  rw [hk, Int.sub_mul, Int.mul_assoc]
  generalize k * z = y
  generalize a * z = x
  unfold wrap64
  omega
/-- what begin lays is a walk ahead of the first cell. -/
theorem walk_begins {s t : List Int} {o : Int} {n : Nat} (hr : rightV ⟨s, t, o⟩ = true) (hn : s.length = n) (hn' : t.length = n) : WalkOf ⟨(n : Int), overF (fun _ => 0) s, overF (fun _ => 0) t, fun _ => 0, o, false, wrap64 (prodL s)⟩ ⟨s, t, o⟩ 0 false := by
  have hl := col_length hr
  have hm := col_most ⟨s, t, o⟩
  refine ⟨rfl, ?_, by omega, by simp, fun _ => .inl rfl, fun h0 => ?_⟩
  · show wrap64 (prodL s) = _
    have hl' : ((colL ⟨s, t, o⟩).length : Int) = prodL s := hl
    rw [hl', IntWalk.wrap64_in _ (by omega)]
    simp
  · have hs : ∀ i, i < s.length → overF (fun _ => 0) t i = t.getD i 0 := fun i hi => by unfold overF; rw [if_pos (by omega)]
    have hd : ∀ i, i < s.length → (0 : Int) = digE s ((0 : Nat) : Int) i := fun i hi => by unfold digE; rw [show ((0 : Nat) : Int) = 0 from rfl, rest_zero, Int.zero_emod]
    refine ⟨by rw [← hn], fun i hi => ?_, hs, hd, ?_⟩
    · show overF (fun _ => 0) s i = _
      unfold overF
      rw [if_pos hi]
    · have e := core_off (v := ⟨s, t, o⟩) (p := 0) (s := ⟨(n : Int), overF (fun _ => 0) s, overF (fun _ => 0) t, fun _ => 0, o, false, wrap64 (prodL s)⟩) hr (by omega) hs hd
      show o = _
      exact (e.trans (offD_zero _ _ _)).symm
set_option maxHeartbeats 4000000 in
theorem own9_begin_no (A A' : Option Addr) (n c n' c' : Nat) (s t : List Int) (o : Int) (w : World) (h : NumsF w A n c s) (h' : NumsF w A' n' c' t) (hn : n ≤ 1048576) (hn' : n' ≤ 1048576) (hr : rightV ⟨s, t, o⟩ = false) :
    Calls Try.prog 30 #[.agg #[.slice A n c, .slice A' n' c', .int .i64 o]] w fun e w' => (∃ z, e = .returned (.agg (walkL z).toArray) ∧ WalkOf z ⟨s, t, o⟩ 0 false) ∧ w.grownBy w' none := by
  have HR := Lib.hid (fun w' (hg : w.grownBy w' none) => own8_right A A' n c n' c' s t o w' (h.grow hg) (h'.grow hg) hn hn')
  obtain ⟨w1, hw1⟩ : ∃ w1, w1 = (w.alloc (.cells #[.slice A n c, .slice A' n' c', .int .i64 o] 34)).alloc (.cells (walkL zeroW).toArray 62) := ⟨_, rfl⟩
  obtain ⟨hx, hy, hg1⟩ := boxes9 w 34 62 #[.slice A n c, .slice A' n' c', .int .i64 o] (walkL zeroW).toArray
  rw [← hw1] at hx hy hg1
  have HX := Lib.hid hx
  have HY := Lib.hid (show WalkB w1 (w.heap.size + 1) 62 [] zeroW from hy)
  have HG1 := Lib.hid hg1
  simp only [walkL, zeroW] at hw1
  have HW1 := Lib.hid hw1
  clear hx hy hg1 hw1
  rw [hr] at HR
  go_enter Try.func30, Try.ntmps30
  go_upto_region 1 with fail
  rw [← HW1.out]
  have x0 := HX.out.get 0
  have x1 := HX.out.get 1
  have x2 := HX.out.get 2
  go_wp2_with fail
  refine (HR.out _ HG1.out).mono ?_
  rintro e w2 ⟨rfl, hg⟩
  have HG2 := Lib.hid (grown_join HG1.out hg (.inr (by simp)))
  have HY2 := Lib.hid (HY.out.grown hg (by simp))
  have HWZ := Lib.hid (show WalkOf zeroW ⟨s, t, o⟩ 0 false from by
    have e := col_no hr
    exact ⟨rfl, by rw [e]; rfl, by omega, by simp, fun _ => .inl rfl, fun h0 => by rw [e] at h0; simp at h0⟩)
  clear hg x0 x1 x2 hr
  go_wp2_with (refine store_walk rfl _ _ rfl zeroW rfl rfl HY2.out rfl ?_; intro w3 HY3 HG23)
  exact bodyPost_ret (v := .agg (walkL zeroW).toArray) (results_walk Try.results30 rfl HY3.out) rfl ⟨⟨zeroW, rfl, HWZ.out⟩, grown_of_below ((below_of_grown HG2.out).trans (below_of_grown_row HG23.out HG2.out.size fun x e => by injection e with e; omega))⟩
set_option maxHeartbeats 4000000 in
theorem own9_begin_yes (A A' : Option Addr) (n c n' c' : Nat) (s t : List Int) (o : Int) (w : World) (h : NumsF w A n c s) (h' : NumsF w A' n' c' t) (hn : n ≤ 1048576) (hn' : n' ≤ 1048576) (hr : rightV ⟨s, t, o⟩ = true) :
    Calls Try.prog 30 #[.agg #[.slice A n c, .slice A' n' c', .int .i64 o]] w fun e w' => (∃ z, e = .returned (.agg (walkL z).toArray) ∧ WalkOf z ⟨s, t, o⟩ 0 false) ∧ w.grownBy w' none := by
  have HR := Lib.hid (fun w' (hg : w.grownBy w' none) => own8_right A A' n c n' c' s t o w' (h.grow hg) (h'.grow hg) hn hn')
  obtain ⟨w1, hw1⟩ : ∃ w1, w1 = (w.alloc (.cells #[.slice A n c, .slice A' n' c', .int .i64 o] 34)).alloc (.cells (walkL zeroW).toArray 62) := ⟨_, rfl⟩
  obtain ⟨hx, hy, hg1⟩ := boxes9 w 34 62 #[.slice A n c, .slice A' n' c', .int .i64 o] (walkL zeroW).toArray
  rw [← hw1] at hx hy hg1
  have HX := Lib.hid hx
  have HY := Lib.hid (show WalkB w1 (w.heap.size + 1) 62 [] zeroW from hy)
  have HG1 := Lib.hid hg1
  simp only [walkL, zeroW] at hw1
  have HW1 := Lib.hid hw1
  clear hx hy hg1 hw1
  rw [hr] at HR
  have HRR := Lib.hid hr
  have h6 := rightV_dims hr
  have hl : s.length = n := h.len
  have hl' : t.length = n := by have h1 := (rightV_all hr).2.1; rw [← hl]; exact h1
  obtain rfl : n = n' := by rw [← h'.len]; exact hl'.symm
  have hn6 : n ≤ 6 := by rw [← hl]; exact h6
  clear hr h6
  go_enter Try.func30, Try.ntmps30
  go_upto_region 1 with fail
  rw [← HW1.out]
  have x0 := HX.out.get 0
  have x1 := HX.out.get 1
  have x2 := HX.out.get 2
  go_wp2_with fail
  refine (HR.out _ HG1.out).mono ?_
  rintro e w2 ⟨rfl, hg⟩
  have HG2 := Lib.hid (grown_join HG1.out hg (.inr (by simp)))
  have HY2 := Lib.hid (HY.out.grown hg (by simp))
  have HX2 := Lib.hid (HX.out.grown hg (by simp))
  have HF2 := Lib.hid (fresh_walk w2)
  clear hg x0 x1 x2
  have x0 := HX2.out.get 0
  have x1 := HX2.out.get 1
  have x2 := HX2.out.get 2
  go_wp2_with (refine store_walk rfl _ _ rfl ⟨n, fun _ => 0, fun _ => 0, fun _ => 0, o, false, 1⟩ rfl rfl HF2.out rfl ?_; intro w3 HZ3 HG23)
  have HG3 := Lib.hid (show w2.grownBy w3 none from grown_join (World.grownBy_alloc _ _ _) HG23.out (.inr fun x e => by injection e with e; omega))
  have HBN := Lib.hid (show ∀ x, some w2.heap.size = some x → w2.heap.size ≤ x from fun x e => by injection e with e; omega)
  have HX3 := Lib.hid (HX2.out.grown HG3.out (by simp))
  clear x0 x1 x2
  have x0 := HX3.out.get 0
  have x1 := HX3.out.get 1
  refine (wpIn_wide (n := 9)).1 ?_
  refine region_last rfl (by kernel_rfl) (by kernel_rfl) (by kernel_rfl) ?_
  dsimp only [aheadL, lastL]
  repeat (gi_big_quiet_step (fail))
  refine wpQuietIn_nil ?_
  rintro _ ⟨nq, rfl⟩
  obtain ⟨w4, hcp, hb4, hg4⟩ := copy_walk (w := w3.drewN nq) (c := c) (k := 1) HZ3.out ((h.grow (grown_join HG2.out HG3.out (.inr (by simp)))).1) hn6 (by omega) (over_sz _ s (by omega)) 32 3
  have HZ4 := Lib.hid hb4
  have HG4 := Lib.hid (show w2.grownBy w4 none from grown_join (grown_drewN HG3.out nq) hg4 (.inr HBN.out))
  clear hb4 hg4
  gi_wp2
  have HX4 := Lib.hid (HX2.out.grown HG4.out (by simp))
  clear x0 x1 hcp
  have x0 := HX4.out.get 0
  have x1 := HX4.out.get 1
  go_wp2_with fail
  refine (wpIn_wide (n := 9)).1 ?_
  refine region_last rfl (by kernel_rfl) (by kernel_rfl) (by kernel_rfl) ?_
  dsimp only [aheadL, lastL]
  repeat (gi_big_quiet_step (fail))
  refine wpQuietIn_nil ?_
  rintro _ ⟨nq2, rfl⟩
  obtain ⟨w5, hcp, hb5, hg5⟩ := copy_walk (w := w4.drewN nq2) (c := c') (k := 7) HZ4.out ((h'.grow (grown_join HG2.out HG4.out (.inr (by simp)))).1) hn6 (by omega) (over_st _ t (by omega)) 22 3
  have HZ5 := Lib.hid hb5
  have HG5 := Lib.hid (show w2.grownBy w5 none from grown_join (grown_drewN HG4.out nq2) hg5 (.inr HBN.out))
  clear hb5 hg5
  have HX5 := Lib.hid (HX2.out.grown HG5.out (by simp))
  have y0 := HX5.out.get 0
  have y1 := HX5.out.get 1
  gi_wp2
  go_wp2_with fail
  clear x0 x1 y0 y1 hcp
  have HZ6 := Lib.hid (show WalkB w5 w2.heap.size 62 [] ⟨(n : Int), overF (fun _ => 0) s, overF (fun _ => 0) t, fun _ => 0, o, false, wrap64 (prodL (s.take 0))⟩ by rw [List.take_zero, show wrap64 (prodL []) = 1 from by simp [prodL, wrap64]]; exact HZ5.out)
  have HSS := Lib.hid (h.1)
  have HLL := Lib.hid (And.intro hl hl')
  have HFIN := Lib.hid (walk_begins HRR.out hl hl')
  clear hl hl' h h' HR HX HZ3 HZ4 HZ5 HG3 HG4 HX3 HX4 HX5 HX2 HW1
  go_loopw [29] (fun i wr => ∃ j : Nat, j ≤ n ∧ i = .int .i64 j ∧ WalkB wr w2.heap.size 62 [] ⟨(n : Int), overF (fun _ => 0) s, overF (fun _ => 0) t, fun _ => 0, o, false, wrap64 (prodL (s.take j))⟩ ∧ w2.grownBy wr none) (fun i _ => n - (intOf i).toNat)
  case atStart => exact ⟨0, by omega, rfl, HZ6.out, HG5.out⟩
  case round =>
    obtain ⟨j, hj, rfl, hb, hg⟩ := hrel
    have HB := Lib.hid hb
    have HG := Lib.hid hg
    clear hb hg
    by_cases hlt : j < n
    · obtain ⟨b, off, rfl, _, hc⟩ := (HSS.out.keep (grown_join HG2.out HG.out (.inr (by simp))) (Nat.le_refl _)).2.at_ hlt
      have a0 : wr.cell? ⟨w2.heap.size, 21, none⟩ = some (.int .i64 (wrap64 (prodL (s.take j)))) := by
        have := HB.out.get (o := 0) rfl 21
        rw [Nat.zero_add] at this
        exact this
      have a1 := HB.out.free 21
      have HPR := Lib.hid (show wrap64 (wrap64 (prodL (s.take j)) * s.getD j 0) = wrap64 (prodL (s.take (j + 1))) by rw [wrap_mul, prodL_take s j (by have := HLL.out.1; omega)])
      generalize s.getD j 0 = z at *
      go_wp2_with fail
      have HB2 := Lib.hid (HB.out.put_lf (o := 0) rfl (wrap64 (wrap64 (prodL (s.take j)) * z)))
      have HG2' := Lib.hid (show w2.grownBy (wr.setCell ⟨w2.heap.size, 21, none⟩ (.int .i64 (wrap64 (wrap64 (prodL (s.take j)) * z)))) none from grown_put HG.out (.inr (Nat.le_refl _)) _)
      rw [Nat.zero_add, HPR.out] at HB2
      rw [HPR.out] at HG2'
      go_roundw
      case rel => exact ⟨j + 1, by omega, by go_num, by first | exact HB2.out | (rw [HPR.out]; exact HB2.out), by first | exact HG2'.out | (rw [HPR.out]; exact HG2'.out)⟩
      case measure => simp [intOf]; omega
    · obtain rfl : j = n := by omega
      have HB2 := Lib.hid (show WalkB wr w2.heap.size 62 [] ⟨(j : Int), overF (fun _ => 0) s, overF (fun _ => 0) t, fun _ => 0, o, false, wrap64 (prodL s)⟩ by
        have := HB.out
        rw [List.take_of_length_le (by have := HLL.out.1; omega)] at this
        exact this)
      have HY3 := Lib.hid (HY2.out.grown HG.out (by simp))
      go_wp2_with (first
        | (refine load_walk rfl _ rfl rfl HB2.out rfl ?_)
        | (refine store_walk rfl _ _ rfl ⟨(j : Int), overF (fun _ => 0) s, overF (fun _ => 0) t, fun _ => 0, o, false, wrap64 (prodL s)⟩ rfl rfl HY3.out rfl ?_; intro w7 HY7 HG7))
      exact bodyPost_ret (v := .agg (walkL ⟨(j : Int), overF (fun _ => 0) s, overF (fun _ => 0) t, fun _ => 0, o, false, wrap64 (prodL s)⟩).toArray) (results_walk Try.results30 rfl HY7.out) rfl ⟨⟨_, rfl, HFIN.out⟩, grown_of_below ((below_of_grown (grown_join HG2.out HG.out (.inr (by simp)))).trans (below_of_grown_row HG7.out (grown_join HG2.out HG.out (.inr (by simp))).size fun x e => by injection e with e; omega))⟩
theorem own9_begin (A A' : Option Addr) (n c n' c' : Nat) (s t : List Int) (o : Int) (w : World) (h : NumsF w A n c s) (h' : NumsF w A' n' c' t) (hn : n ≤ 1048576) (hn' : n' ≤ 1048576) :
    Calls Try.prog 30 #[.agg #[.slice A n c, .slice A' n' c', .int .i64 o]] w fun e w' => (∃ z, e = .returned (.agg (walkL z).toArray) ∧ WalkOf z ⟨s, t, o⟩ 0 false) ∧ w.grownBy w' none := by
  cases hr : rightV ⟨s, t, o⟩ with
  | false => exact own9_begin_no A A' n c n' c' s t o w h h' hn hn' hr
  | true => exact own9_begin_yes A A' n c n' c' s t o w h h' hn hn' hr
end Go.Proofs.Ytdjenakmdjiknaa
end

/-! Layer 9, the program's own: made, New, Next, At, Left; of nobody's Odo too. -/
section
namespace Go.Proofs.Ytdjenakmdjiknaa
open Go.ChangeShapes Go.WideShapes Go.ChangeAt Go.RowKit Go.Shelf
set_option linter.unusedVariables false
set_option maxRecDepth 100000

/-- an Odo that New made: its walk stands behind k cells of v; it lies in a block from lo on. -/
def OdoT (w : World) (lo : Nat) (q : Addr) (v : Vw) (k : Nat) (on : Bool) : Prop :=
  ∃ b s, q = ⟨b, 0, none⟩ ∧ lo ≤ b ∧ WalkB w b 65 [.pointer (some ⟨b, 0, none⟩)] s ∧ WalkOf s v k on
theorem OdoT.keep {w w' : World} {lo : Nat} {q : Addr} {v : Vw} {k : Nat} {on : Bool} (h : OdoT w lo q v k on) (hg : w.grownBy w' none) : OdoT w' lo q v k on := by
  obtain ⟨b, s, e, hb, hw, ho⟩ := h
  exact ⟨b, s, e, hb, hw.grown hg (by simp), ho⟩
theorem info_podo : (Try.prog.info? 65).isSome = true := by kernel_rfl
theorem same_podo (a : Addr) (w : World) : (binOp .eql 40 (.pointer (some a)) (.pointer (some a))).run Try.prog w = .ok (.bool true) w := by
  obtain ⟨j, hj⟩ := Option.isSome_iff_exists.1 info_podo
  exact run_eql_ptr_same w a Try.underlying40 hj
theorem own9_made0 (w : World) : Calls Try.prog 32 #[.pointer none] w fun e w' => e = .returned (.bool false) ∧ w' = w := by
  go_enter Try.func32, Try.ntmps32
  go_wp2_with fail
  go_ret
  exact ⟨rfl, rfl⟩
theorem own9_made (b : Nat) (s : WalkS) (w : World) (h : WalkB w b 65 [.pointer (some ⟨b, 0, none⟩)] s) : Calls Try.prog 32 #[.pointer (some ⟨b, 0, none⟩)] w fun e w' => e = .returned (.bool true) ∧ w' = w := by
  have a0 : w.cell? ⟨b, 0, none⟩ = some (.pointer (some ⟨b, 0, none⟩)) := by
    have := Box.get h 0
    exact this
  have hq := same_podo ⟨b, 0, none⟩
  clear h
  go_enter Try.func32, Try.ntmps32
  go_wp2_with fail
  go_ret
  exact ⟨rfl, rfl⟩
theorem own9_next0 (w : World) : Calls Try.prog 20 #[.pointer none] w (TellG (.tuple #[.int .i64 0, .bool false]) w) := by
  go_enter Try.func20, Try.ntmps20
  go_wp2_with fail
  refine (own9_made0 w).mono ?_
  rintro e w2 ⟨rfl, rfl⟩
  go_wp2_with fail
  go_ret2
  exact ⟨rfl, grown_refl _ _⟩
theorem own9_at0 (w : World) : Calls Try.prog 19 #[.pointer none] w (GaveN [] w) := by
  go_enter Try.func19, Try.ntmps19
  go_wp2_with fail
  refine (own9_made0 w).mono ?_
  rintro e w2 ⟨rfl, rfl⟩
  go_wp2_with fail
  go_ret
  exact ⟨none, 0, 0, rfl, numsF_nil _, grown_refl _ _⟩
theorem own9_left0 (w : World) : Calls Try.prog 15 #[.pointer none] w (TellG (.int .i64 0) w) := by
  go_enter Try.func15, Try.ntmps15
  go_wp2_with fail
  refine (own9_made0 w).mono ?_
  rintro e w2 ⟨rfl, rfl⟩
  go_wp2_with fail
  go_ret
  exact ⟨rfl, grown_refl _ _⟩
theorem own9_left (lo : Nat) (q : Addr) (v : Vw) (k : Nat) (on : Bool) (w : World) (h : OdoT w lo q v k on) : Calls Try.prog 15 #[.pointer (some q)] w (TellG (.int .i64 (((colL v).length : Int) - (k : Int))) w) := by
  obtain ⟨b, s, rfl, _, hw, ho⟩ := h
  have HM := Lib.hid (own9_made b s w hw)
  have a0 : w.cell? ⟨b, 22, none⟩ = some (.int .i64 s.lf) := by
    have := hw.get (o := 1) rfl 21
    exact this
  rw [ho.lf] at a0
  clear hw ho
  go_enter Try.func15, Try.ntmps15
  go_wp2_with fail
  refine HM.out.mono ?_
  rintro e w2 ⟨rfl, rfl⟩
  go_wp2_with fail
  go_ret
  exact ⟨rfl, grown_refl _ _⟩
theorem own9_Next (lo : Nat) (q : Addr) (v : Vw) (k : Nat) (on : Bool) (w : World) (h : OdoT w lo q v k on) : Calls Try.prog 20 #[.pointer (some q)] w (NextO OdoT lo q v k w) := by
  obtain ⟨b, s, rfl, hlo, hw, ho⟩ := h
  have HM := Lib.hid (own9_made b s w hw)
  have HN := Lib.hid (own9_next b 1 65 [.pointer (some ⟨b, 0, none⟩)] s v k on w rfl hw ho)
  have HLO := Lib.hid hlo
  clear hw ho hlo
  go_enter Try.func20, Try.ntmps20
  go_wp2_with fail
  refine HM.out.mono ?_
  rintro e w2 ⟨rfl, rfl⟩
  go_wp2_with fail
  refine HN.out.mono ?_
  rintro e w3 ⟨hg, hh⟩
  have HON := Lib.hid (show Onward lo w2 w3 from fun u hu hs => grown_join hu hg (.inr fun x e => by injection e with e; have := HLO.out; omega))
  rcases hh with ⟨hk, rfl, s', hb, hs⟩ | ⟨hk, rfl, s', hb, hs⟩
  · have HF := Lib.hid (And.intro hk (And.intro hb hs))
    clear hk hb hs hg
    go_wp2_with fail
    go_ret2
    exact ⟨HON.out, .inl ⟨HF.out.1, rfl, b, s', rfl, HLO.out, HF.out.2.1, HF.out.2.2⟩⟩
  · have HF := Lib.hid (And.intro hk (And.intro hb hs))
    clear hk hb hs hg
    go_wp2_with fail
    go_ret2
    exact ⟨HON.out, .inr ⟨HF.out.1, rfl, b, s', rfl, HLO.out, HF.out.2.1, HF.out.2.2⟩⟩
set_option maxHeartbeats 2000000 in
theorem own9_new (A A' : Option Addr) (n c n' c' : Nat) (s t : List Int) (o : Int) (w : World) (h : NumsF w A n c s) (h' : NumsF w A' n' c' t) (hn : n ≤ 1048576) (hn' : n' ≤ 1048576) :
    Calls Try.prog 14 #[.agg #[.slice A n c, .slice A' n' c', .int .i64 o]] w fun e w' => ∃ q, e = .returned (.pointer (some q)) ∧ OdoT w' w.heap.size q ⟨s, t, o⟩ 0 false ∧ w.grownBy w' none := by
  have HBG := Lib.hid (fun w' (hg : w.grownBy w' none) => own9_begin A A' n c n' c' s t o w' (h.grow hg) (h'.grow hg) hn hn')
  obtain ⟨w1, hw1⟩ : ∃ w1, w1 = w.alloc (.cells #[.slice A n c, .slice A' n' c', .int .i64 o] 34) := ⟨_, rfl⟩
  have HX := Lib.hid (show Box w1 w.heap.size 34 #[.slice A n c, .slice A' n' c', .int .i64 o] by rw [hw1]; exact Box.fresh _ _ _)
  have HG1 := Lib.hid (show w.grownBy w1 none by rw [hw1]; exact World.grownBy_alloc _ _ _)
  have HW1 := Lib.hid hw1
  clear hw1 h h'
  go_enter Try.func14, Try.ntmps14
  go_upto_region 1 with fail
  rw [← HW1.out]
  have x0 := HX.out.get 0
  have x1 := HX.out.get 1
  have x2 := HX.out.get 2
  go_wp2_with fail
  refine (HBG.out _ HG1.out).mono ?_
  rintro e w2 ⟨⟨z, rfl, hz⟩, hg⟩
  have HZ := Lib.hid hz
  have HG2 := Lib.hid (grown_join HG1.out hg (.inr (by simp)))
  clear hg hz x0 x1 x2
  dsimp only [walkL]
  go_wp2_with fail
  go_ret
  have HB := Box.fresh w2 65 ([Value.pointer (some ⟨w2.heap.size, 0, none⟩)] ++ walkL z).toArray
  exact ⟨⟨w2.heap.size, 0, none⟩, rfl, ⟨w2.heap.size, z, rfl, HG2.out.size, HB, HZ.out⟩, grown_alloc HG2.out _⟩
/-! ### At -/
def digL (s : WalkS) : List Value := [.int .i64 (s.dg 0), .int .i64 (s.dg 1), .int .i64 (s.dg 2), .int .i64 (s.dg 3), .int .i64 (s.dg 4), .int .i64 (s.dg 5)]
theorem digL_get (s : WalkS) {i : Nat} (h : i < 6) : (digL s)[i]? = some (.int .i64 (s.dg i)) := by
  rcases six h with e | e | e | e | e | e <;> (subst e; rfl)
theorem arr_info : (Try.prog.info? 60).map (·.size) = some 6 := by kernel_rfl
theorem arr_row : ∃ d, Try.prog.underlying 60 = some d ∧ d.isRow = true := ⟨_, Try.underlying60, rfl⟩
theorem load_digits {ops : Array Oper} {rest : List Oper} {op : Oper} {a : Act} {w : World} {Q : Exit → Act → World → Prop} {b o : Nat} {t : TypeId} {pre : List Value} {s : WalkS} (hgd : op.guard = none) (x : Operand) (hop : op.op = .load 60 x) (hx : a.eval x = .pointer (some ⟨b, o + 13, none⟩)) (h : WalkB w b t pre s) (ho : pre.length = o)
    (hk : wpList Try.prog ops Q rest (a.put op.dst (.agg (digL s).toArray)) w) : wpList Try.prog ops Q (op :: rest) a w := by
  obtain ⟨d, h1, h2⟩ := arr_row
  refine wpList_load_mid hgd _ x hop b (o + 13) hx (digL s) d (fun j v hv => ?_) h1 h2 arr_info hk
  have hj : j < 6 := (List.getElem?_eq_some_iff.1 hv).1
  rw [h.get_dg ho hj, ← digL_get s hj, hv]
set_option maxHeartbeats 2000000 in
theorem own9_at (b o n : Nat) (t : TypeId) (pre : List Value) (s : WalkS) (on : Bool) (w : World) (ho : pre.length = o) (h : WalkB w b t pre s) (hon : s.on = on) (hn : on = true → s.ax = (n : Int) ∧ n ≤ 6) :
    Calls Try.prog 38 #[.pointer (some ⟨b, o, none⟩)] w (GaveN (if on = true then (List.range n).map s.dg else []) w) := by
  have HO := Lib.hid ho
  have H := Lib.hid h
  have a0 : w.cell? ⟨b, o + 20, none⟩ = some (.bool s.on) := h.get ho 20
  rw [hon] at a0
  cases on with
  | false =>
    clear h ho hn hon
    go_enter Try.func38, Try.ntmps38
    go_wp2_with fail
    go_ret
    exact ⟨none, 0, 0, rfl, numsF_nil _, grown_refl _ _⟩
  | true =>
    obtain ⟨hax, hn6⟩ := hn rfl
    have a1 : w.cell? ⟨b, o, none⟩ = some (.int .i64 s.ax) := h.get ho 0
    rw [hax] at a1
    have HAX0 := Lib.hid hax
    have m0 : (0 : Int) ≤ (n : Int) := Int.natCast_nonneg n
    have m1 : (n : Int) ≤ 6 := by omega
    clear h ho hon hax hn
    go_enter Try.func38, Try.ntmps38
    go_wp2_with (refine load_digits rfl _ rfl rfl H.out HO.out ?_; dsimp only [digL])
    obtain ⟨w1, hw1⟩ : ∃ w1, w1 = w.alloc (.cells (digL s).toArray 60) := ⟨_, rfl⟩
    have HG1 := Lib.hid (show w.grownBy w1 none by rw [hw1]; exact World.grownBy_alloc _ _ _)
    have HB1 := Lib.hid (show Box w1 w.heap.size 60 (digL s).toArray by rw [hw1]; exact Box.fresh _ _ _)
    simp only [digL] at hw1
    rw [← hw1]
    have a1 : w1.cell? ⟨b, o, none⟩ = some (.int .i64 s.ax) := (H.out.grown HG1.out (by simp)).get HO.out 0
    rw [HAX0.out] at a1
    clear hw1
    go_quiet (fail)
    go_wp2_with fail
    go_ret
    refine ⟨some ⟨w.heap.size, 0, none⟩, n, n, rfl, ⟨⟨by simp, fun h0 => ⟨w.heap.size, 0, rfl, HB1.out.small, fun j hj => ?_⟩⟩, Nat.le_refl _, by simp⟩, grown_drewN HG1.out _⟩
    refine (show _ = w1.cell? ⟨w.heap.size, 0 + j, none⟩ from rfl).trans ?_
    rw [Nat.zero_add, HB1.out.get j, List.getElem?_toArray, digL_get s (by omega)]
    simp [List.getD, hj]
theorem own9_At (lo : Nat) (q : Addr) (v : Vw) (k : Nat) (on : Bool) (w : World) (h : OdoT w lo q v k on) : Calls Try.prog 19 #[.pointer (some q)] w (GaveN (atO v k on) w) := by
  obtain ⟨b, s, rfl, _, hw, ho⟩ := h
  have HM := Lib.hid (own9_made b s w hw)
  have hlen : on = true → s.ax = (v.sh.length : Int) ∧ v.sh.length ≤ 6 := fun e => by
    have h0 : 0 < (colL v).length := by have := ho.yes e; have := ho.le; omega
    exact ⟨(ho.core h0).ax, rightV_dims (col_right h0)⟩
  have HA := Lib.hid (own9_at b 1 v.sh.length 65 [.pointer (some ⟨b, 0, none⟩)] s on w rfl hw ho.on_ hlen)
  have e : (if on = true then (List.range v.sh.length).map s.dg else []) = atO v k on := by
    unfold atO
    cases on with
    | false => rfl
    | true =>
      have hk := ho.yes rfl
      have h0 : 0 < (colL v).length := by have := ho.le; omega
      have hr := col_right h0
      have hc := col_length hr
      have hle := ho.le
      have hat := atB_of hr (p := k - 1) (by omega)
      rw [if_pos rfl, if_pos rfl, show (k : Int) - 1 = ((k - 1 : Nat) : Int) by omega]
      unfold atL
      rw [if_pos hat]
      refine List.map_congr_left fun i hi => ?_
      exact (ho.core h0).dg i (List.mem_range.1 hi)
  rw [e] at HA
  clear hw ho hlen e
  go_enter Try.func19, Try.ntmps19
  go_wp2_with fail
  refine HM.out.mono ?_
  rintro e w2 ⟨rfl, rfl⟩
  go_wp2_with fail
  refine HA.out.mono ?_
  rintro e w3 ⟨A, m, c, rfl, hn, hg⟩
  have HF := Lib.hid (And.intro hn hg)
  clear hn hg
  go_wp2_with fail
  go_ret
  exact ⟨A, m, c, rfl, HF.out.1, HF.out.2⟩
end Go.Proofs.Ytdjenakmdjiknaa
end

/-! Layer 9, the program's own: Offsets, and the function that it hands back. -/
section
namespace Go.Proofs.Ytdjenakmdjiknaa
open Go.ChangeShapes Go.WideShapes Go.ChangeAt Go.RowKit Go.Shelf
set_option linter.unusedVariables false
set_option maxRecDepth 100000
attribute [local go_sem] Oper.semAt_some

theorem KeepX.box {X : Nat → Prop} {A C : World} {b : Nat} {t : TypeId} {pre : List Value} {s : WalkS} (h : KeepX X A C) (hb : WalkB A b t pre s) (hX : ¬ X b) : WalkB C b t pre s := h.2 b _ hb hX (.inl rfl)
theorem WalkOf.col {s : WalkS} {v : Vw} {k : Nat} {on : Bool} (h : WalkOf s v k on) : k ≤ (colL v).length := h.le
/-- how many cells are still to come, read off the walk's own cells. -/
def leftIn (w : World) (b : Nat) : Nat := match w.cell? ⟨b, 21, none⟩ with
  | some (.int _ n) => n.toNat
  | _ => 0
theorem leftIn_is {w : World} {b : Nat} {t : TypeId} {s : WalkS} (h : WalkB w b t [] s) : leftIn w b = s.lf.toNat := by
  have h1 := h.get (o := 0) rfl 21
  rw [Nat.zero_add] at h1
  have h2 : w.cell? ⟨b, 21, none⟩ = some (.int .i64 s.lf) := h1
  unfold leftIn
  rw [h2]
def onB (v : Value) : Nat := match v with
  | .bool true => 1
  | _ => 0
theorem take_next {l : List Int} {j : Nat} (h : j < l.length) : l.take j ++ [l.getD j 0] = l.take (j + 1) := by
  rw [List.take_add_one]
  simp [List.getD, h]
set_option maxHeartbeats 4000000 in
theorem own9_offsets1 (n : Nat) (hn : 1 ≤ n) (l b : Nat) (z : WalkS) (v : Vw) (X : Nat → Prop) (J Jx : List Int → World → Prop) (W : World) (hJ : OwnAll W.heap.size J)
    (hY : ∀ pre x W1, J pre W1 → True → pre.length < (colL v).length → YieldAt Fence.wide (n - 1) Try.prog l (enc1 x) W1 fun e W' => (e = .returned (.bool true) ∧ J (pre ++ [x]) W' ∧ KeepX X W1 W' ∧ KeepsFrom W.heap.size W1 W') ∨ (e = .returned (.bool false) ∧ Jx (pre ++ [x]) W' ∧ KeepsFrom W.heap.size W1 W'))
    (hB : WalkB W b 62 [] z) (hZ : WalkOf z v 0 false) (hX : ∀ x, X x → x < W.heap.size) (h0 : J [] W) :
    CallsIn Fence.wide n Try.prog 45 #[.func (.yield l) #[] #[], .pointer (some ⟨b, 0, none⟩)] W fun e W' => (∃ x, e = .returned x) ∧
      ((∃ xs, xs = colL v ∧ J xs W') ∨ ∃ pre, (∃ k, k ≤ (colL v).length ∧ pre = (colL v).take k) ∧ Jx pre W') := by
  have HJ := Lib.hid hJ
  have HB := Lib.hid hB
  have HZ := Lib.hid hZ
  have HY := Lib.hid hY
  have HX := Lib.hid (show ¬ X W.heap.size from fun h => by have := hX _ h; omega)
  have HNX := Lib.hid (fun (w3 : World) (s : WalkS) (k : Nat) (on : Bool) (hb : WalkB w3 W.heap.size 62 [] s) (hs : WalkOf s v k on) => own9_next W.heap.size 0 62 [] s v k on w3 rfl hb hs)
  have HF := Lib.hid (fresh_walk W)
  have HN := Lib.hid hn
  clear hJ hB hZ hY hX
  have hf1 : Fence.wide.fn 39 := trivial
  refine callsIn_of_wp Try.func45 rfl trivial ?_ rfl
  simp only [Try.ntmps45, List.size_toArray, List.length_cons, List.length_nil, Nat.reduceAdd, Nat.reduceSub, Array.replicate_succ, Array.replicate_zero, List.push_toArray, List.append_toArray, List.nil_append, List.cons_append]
  refine wpIn_wide.2 ?_
  go_wp2_with (first
    | (refine load_walk rfl _ rfl rfl HB.out rfl ?_)
    | (refine store_walk rfl _ _ rfl z rfl rfl HF.out rfl ?_; intro w3 HB3 HG3))
  have HJ3 := Lib.hid (show J [] w3 from HJ.out [] W w3 (some W.heap.size) h0 (grown_join (grown_more (World.grownBy_alloc W _ none) _) HG3.out (.inl rfl)) (fun r e => by injection e with e; exact ⟨by omega, trivial⟩))
  refine (HNX.out w3 z 0 false HB3.out HZ.out).mono ?_
  rintro e w4 ⟨hg4, hh4⟩
  have HJ4 := Lib.hid (show J [] w4 from HJ.out [] w3 w4 (some W.heap.size) HJ3.out hg4 (fun r e => by injection e with e; exact ⟨by omega, trivial⟩))
  obtain ⟨pl, ok, he, hst⟩ : ∃ (pl : Int) (ok : Bool), e = .returned (.tuple #[.int .i64 pl, .bool ok]) ∧
      ((∃ s, 0 < (colL v).length ∧ pl = (colL v).getD 0 0 ∧ ok = true ∧ WalkB w4 W.heap.size 62 [] s ∧ WalkOf s v 1 true) ∨ (ok = false ∧ (colL v).length = 0 ∧ ∃ s, WalkB w4 W.heap.size 62 [] s)) := by
    rcases hh4 with ⟨hk, rfl, s, hb, hs⟩ | ⟨hk, rfl, s, hb, hs⟩
    · exact ⟨_, true, rfl, .inl ⟨s, hk, rfl, rfl, hb, hs⟩⟩
    · exact ⟨_, false, rfl, .inr ⟨rfl, by omega, s, hb⟩⟩
  subst he
  have HST := Lib.hid hst
  clear hh4 hg4 hst
  go_wp2_with fail
  refine (wpIn_wide (n := n)).1 ?_
  gi_loopw [4, 5] (fun p ok wr => (∃ (j : Nat) (s : WalkS), j < (colL v).length ∧ p = .int .i64 ((colL v).getD j 0) ∧ ok = .bool true ∧ WalkB wr W.heap.size 62 [] s ∧ WalkOf s v (j + 1) true ∧ J ((colL v).take j) wr) ∨ (∃ (s : WalkS) (q : Int), p = .int .i64 q ∧ ok = .bool false ∧ J (colL v) wr)) (fun p ok wr => leftIn wr W.heap.size + onB ok)
  case atStart =>
    rcases HST.out with ⟨s, h1, h2, h3, h4, h5⟩ | ⟨h1, h2, s, h3⟩
    · exact .inl ⟨0, s, h1, by rw [h2], by rw [h3], h4, h5, by rw [List.take_zero]; exact HJ4.out⟩
    · exact .inr ⟨z, pl, rfl, by rw [h1], by rw [List.eq_nil_of_length_eq_zero h2]; exact HJ4.out⟩
  case round =>
    rcases hrel with ⟨j, s, hj, rfl, rfl, hb, hs, hJs⟩ | ⟨s, q, rfl, rfl, hJs⟩
    · have HB5 := Lib.hid hb
      have HS5 := Lib.hid hs
      have HJ5 := Lib.hid hJs
      have HM := Lib.hid (show leftIn wr W.heap.size = (colL v).length - (j + 1) by rw [leftIn_is hb, hs.lf]; omega)
      obtain ⟨fn, tmps, assign, body, hy, hR⟩ := HY.out _ ((colL v).getD j 0) wr hJs trivial (by rw [List.length_take]; omega)
      have HT := Lib.hid (take_next hj)
      rw [HT.out] at hR
      have HLT := Lib.hid hj
      generalize (colL v).getD j 0 = x at *
      dsimp only [enc1] at hy
      clear hb hs hJs hj
      gi_wp2
      refine hR.mono ?_
      rintro e W3 (⟨rfl, hJ3, hk, _⟩ | ⟨rfl, hJx3, _⟩)
      · have HB6 := Lib.hid (KeepX.box hk HB5.out HX.out)
        have HNN := Lib.hid (HNX.out W3 s (j + 1) true HB6.out HS5.out)
        have HJ6 := Lib.hid hJ3
        clear hk hJ3 hy hR
        gi_wp2_with (gi_at_call 39; refine (callsIn_wide.2 HNN.out).mono ?_; rintro e w7 ⟨hg7, hh7⟩; have HJ7 := Lib.hid (HJ.out _ _ w7 (some W.heap.size) HJ6.out hg7 (fun r e => by injection e with e; exact ⟨by omega, trivial⟩)); clear hg7; rcases hh7 with ⟨hk, rfl, s', hb, hs⟩ | ⟨hk, rfl, s', hb, hs⟩)
        · have HB7 := Lib.hid hb
          have HS7 := Lib.hid hs
          have HK7 := Lib.hid hk
          go_roundw
          case rel => exact .inl ⟨j + 1, s', HK7.out, by have := HK7.out; simp [List.getD, this], rfl, HB7.out, HS7.out, HJ7.out⟩
          case measure => simp [onB, leftIn_is HB7.out, HS7.out.lf, HM.out]; have := HK7.out; omega
        · have HB7 := Lib.hid hb
          have HS7 := Lib.hid hs
          have HK7 := Lib.hid hk
          have hjl : j + 1 = (colL v).length := by have := HLT.out; omega
          have HJL := Lib.hid hjl
          go_roundw
          case rel => exact .inr ⟨s', _, rfl, rfl, by have := HJ7.out; rw [HJL.out, List.take_of_length_le (Nat.le_refl _)] at this; exact this⟩
          case measure => simp [onB, leftIn_is HB7.out, HS7.out.lf, HM.out]; have := HJL.out; omega
      · gi_wp2
        refine bodyPost_ret (results_none rfl _ _ _) rfl ?_
        exact ⟨⟨_, rfl⟩, .inr ⟨_, ⟨j + 1, HLT.out, rfl⟩, hJx3⟩⟩
    · gi_wp2
      go_end0
      exact ⟨⟨_, rfl⟩, .inl ⟨_, rfl, hJs⟩⟩
end Go.Proofs.Ytdjenakmdjiknaa
end
