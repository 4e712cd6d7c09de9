/-
  Layer 8: the reference's Dense.
-/
import Derived.Test.YtkpfhjjojchdlaaRef8b
namespace Go.Proofs.Ytkpfhjjojchdlaa
open Go.ChangeShapes Go.WideShapes Go.ChangeAt Go.RowKit
set_option linter.unusedVariables false
set_option maxRecDepth 100000

theorem beh_prod (v : Vw) : ∀ j, j ≤ v.sh.length → behE v j * prodL (v.sh.take (v.sh.length - j)) = prodL v.sh
  | 0, _ => by rw [behE, Nat.sub_zero, List.take_length, Int.one_mul]
  | j + 1, hj => by
    have ih := beh_prod v j (by omega)
    rw [show v.sh.length - j = v.sh.length - 1 - j + 1 by omega, prodL_take _ _ (by omega)] at ih
    rw [behE, show v.sh.length - (j + 1) = v.sh.length - 1 - j by omega, ← ih, Int.mul_assoc, Int.mul_comm (v.sh.getD _ 0)]
theorem beh_pos {v : Vw} (h : someB v = true) : ∀ j, j ≤ v.sh.length → 1 ≤ behE v j
  | 0, _ => by rw [behE]; omega
  | j + 1, hj => by
    have ih := beh_pos h j (by omega)
    have h1 := some_ones h (v.sh.length - 1 - j) (by omega)
    have h2 := Int.mul_le_mul_of_nonneg_left h1 (show 0 ≤ behE v j by omega)
    rw [behE]
    omega
theorem beh_in {v : Vw} (h : someB v = true) (j : Nat) (hj : j ≤ v.sh.length) : 1 ≤ behE v j ∧ behE v j ≤ 1048576 := by
  have h1 := beh_pos h j hj
  have h2 := beh_prod v j hj
  have h3 : 1 ≤ prodL (v.sh.take (v.sh.length - j)) := prodL_pos fun z hz => by
    obtain ⟨i, hi, rfl⟩ := List.getElem_of_mem (List.mem_of_mem_take hz)
    have := some_ones h i hi
    simpa [List.getD, hi] using this
  have h4 := Int.mul_le_mul_of_nonneg_left h3 (show 0 ≤ behE v j by omega)
  unfold someB at h
  simp only [Bool.and_eq_true] at h
  have h5 := (full_all (rightV_all h.1).1).2
  omega
theorem dense_no {v : Vw} {j : Nat} (hs : someB v = true) (hj : j < v.sh.length) (h1 : v.sh.getD (v.sh.length - 1 - j) 0 ≠ 1) (h2 : v.st.getD (v.sh.length - 1 - j) 0 ≠ behE v j) : denseB v = false := by
  unfold someB at hs
  simp only [Bool.and_eq_true, decide_eq_true_eq] at hs
  unfold denseB
  rw [hs.1, decide_eq_false hs.2, decide_eq_false (fun h => (h j hj).elim h1 h2)]
  rfl
theorem dense_yes {v : Vw} (hr : rightV v = true) (h : denseP v v.sh.length) : denseB v = true := by
  unfold denseB
  rw [hr, decide_eq_true h, Bool.or_true]
  rfl
set_option maxHeartbeats 2000000 in
theorem ref8Dense_any (A A' : Option Addr) (n c n' c' : Nat) (s t : List Int) (o : Int) (w : World) (h : NumsF w A n c s) (h' : NumsF w A' n' c' t) (hn : n ≤ 1048576) (hn' : n' ≤ 1048576) :
    Calls Try.prog 35 #[.agg #[.slice A n c, .slice A' n' c', .int .i64 o]] w (TellG (.bool (denseB ⟨s, t, o⟩)) w) := by
  have HR := Lib.hid (fun w' (hg : w.grownBy w' none) => ref8Right_any A A' n c n' c' s t o w' (h.1.grow hg) (h'.1.grow hg) hn hn')
  have HZ := Lib.hid (fun w' (hg : w.grownBy w' none) => ref8size_any A A' n c n' c' s t o w' (h.1.grow hg) hn)
  have H := Lib.hid h
  have H' := Lib.hid h'
  have HL := Lib.hid h.len
  obtain ⟨w1, hw1⟩ : ∃ w1, w1 = w.alloc (.cells #[.slice A n c, .slice A' n' c', .int .i64 o] 24) := ⟨_, rfl⟩
  have hb := box8 w 24 #[.slice A n c, .slice A' n' c', .int .i64 o]
  rw [← hw1] at hb
  obtain ⟨hx, hg1⟩ := hb
  have HX := Lib.hid hx
  have HG1 := Lib.hid hg1
  have HW1 := Lib.hid hw1
  have HDB := Lib.hid (show ∀ b d, rightV ⟨s, t, o⟩ = b → decide (cellsV ⟨s, t, o⟩ = 0) = d → denseB ⟨s, t, o⟩ = (b && (d || decide (denseP ⟨s, t, o⟩ s.length))) from fun b d hb hd => by unfold denseB; rw [hb, hd])
  clear h h' hw1 hx hg1
  cases hr : rightV ⟨s, t, o⟩ with
  | false =>
    rw [hr] at HR
    have HF := Lib.hid (show denseB ⟨s, t, o⟩ = false by rw [HDB.out _ _ hr rfl]; rfl)
    clear hr
    go_enter Try.func35, Try.ntmps35
    go_upto_region 1 with fail
    rw [← HW1.out]
    have x0 := HX.out.get 0
    have x1 := HX.out.get 1
    have x2 := HX.out.get 2
    go_wp2_with fail
    refine (HR.out _ HG1.out).mono ?_
    rintro e w2 ⟨rfl, hg⟩
    have HG2 := Lib.hid (grown_join HG1.out hg (.inr (by simp)))
    clear hg
    go_wp2_with fail
    go_ret
    exact tellG_eq (by rw [HF.out]; rfl) HG2.out
  | true =>
    rw [hr] at HR
    by_cases hz : cellsV ⟨s, t, o⟩ = 0
    · have HF := Lib.hid (show denseB ⟨s, t, o⟩ = true by rw [HDB.out _ _ hr (decide_eq_true hz)]; rfl)
      rw [hz] at HZ
      clear hr hz
      go_enter Try.func35, Try.ntmps35
      go_upto_region 1 with fail
      rw [← HW1.out]
      have x0 := HX.out.get 0
      have x1 := HX.out.get 1
      have x2 := HX.out.get 2
      go_wp2_with fail
      refine (HR.out _ HG1.out).mono ?_
      rintro e w2 ⟨rfl, hg⟩
      have HG2 := Lib.hid (grown_join HG1.out hg (.inr (by simp)))
      have hx2 := HX.out.grown hg (by simp)
      clear hg x0 x1 x2
      have x0 := hx2.get 0
      have x1 := hx2.get 1
      have x2 := hx2.get 2
      clear hx2
      go_wp2_with fail
      refine (HZ.out _ HG2.out).mono ?_
      rintro e w3 ⟨rfl, hg⟩
      have HG3 := Lib.hid (grown_join HG2.out hg (.inr (by simp)))
      clear hg
      go_wp2_with fail
      go_ret
      exact tellG_eq (by rw [HF.out]; rfl) HG3.out
    · have HSM := Lib.hid (show someB ⟨s, t, o⟩ = true by unfold someB; rw [hr, decide_eq_true hz]; rfl)
      have HRT := Lib.hid hr
      clear hr
      generalize cellsV ⟨s, t, o⟩ = cc at *
      have d0 : (cc == 0) = false := by simp [hz]
      clear hz
      go_enter Try.func35, Try.ntmps35
      go_upto_region 1 with fail
      rw [← HW1.out]
      have x0 := HX.out.get 0
      have x1 := HX.out.get 1
      have x2 := HX.out.get 2
      go_wp2_with fail
      refine (HR.out _ HG1.out).mono ?_
      rintro e w2 ⟨rfl, hg⟩
      have HG2 := Lib.hid (grown_join HG1.out hg (.inr (by simp)))
      have HX2 := Lib.hid (HX.out.grown hg (by simp))
      clear hg x0 x1 x2
      have x0 := HX2.out.get 0
      have x1 := HX2.out.get 1
      have x2 := HX2.out.get 2
      go_wp2_with fail
      refine (HZ.out _ HG2.out).mono ?_
      rintro e w3 ⟨rfl, hg⟩
      have HG3 := Lib.hid (grown_join HG2.out hg (.inr (by simp)))
      have HX3 := Lib.hid (HX2.out.grown hg (by simp))
      clear hg x0 x1 x2
      have x0 := HX3.out.get 0
      go_wp2_with fail
      clear x0
      go_loopw [3, 4] (fun p i wr => ∃ j m : Nat, j ≤ n ∧ i = .int .i64 ((n : Int) - 1 - j) ∧ p = .int .i64 (behE ⟨s, t, o⟩ j) ∧ denseP ⟨s, t, o⟩ j ∧ wr = w3.drewN m) (fun _ i _ => (intOf i + 1).toNat)
      case atStart => exact ⟨0, 0, Nat.zero_le _, by simp, rfl, (fun j hj => by omega), rfl⟩
      case round =>
        obtain ⟨j, m, hj, rfl, rfl, hq, hwr⟩ := hrel
        have HQ := Lib.hid hq
        have HG4 := Lib.hid (grown_drewN HG3.out m)
        clear hq
        by_cases hlt : j < n
        · obtain ⟨y, hy⟩ : ∃ y, y = n - 1 - j := ⟨_, rfl⟩
          have e1 : (n : Int) - 1 - (j : Int) = (y : Int) := by omega
          have hyn : y < n := by omega
          rw [e1]
          have hyn' : y < n' := by rw [← H'.out.len, (rightV_all HRT.out).2.1, show (⟨s, t, o⟩ : Vw).sh.length = n from HL.out]; exact hyn
          obtain ⟨b, off, rfl, _, hc⟩ := (H.out.grow HG4.out).1.2.at_ hyn
          obtain ⟨b', off', rfl, _, hc'⟩ := (H'.out.grow HG4.out).1.2.at_ hyn'
          have x0 := (HX3.out.drewN m).get 0
          have x1 := (HX3.out.drewN m).get 1
          have hbb := beh_in HSM.out (j + 1) (by show j + 1 ≤ s.length; rw [HL.out]; omega)
          have HBS := Lib.hid (show behE ⟨s, t, o⟩ (j + 1) = behE ⟨s, t, o⟩ j * s.getD y 0 by rw [behE, hy]; show _ * s.getD (s.length - 1 - j) 0 = _; rw [HL.out])
          have HDN := Lib.hid (fun (h1 : s.getD y 0 ≠ 1) (h2 : t.getD y 0 ≠ behE ⟨s, t, o⟩ j) => dense_no (v := ⟨s, t, o⟩) (j := j) HSM.out (by show j < s.length; rw [HL.out]; exact hlt) (by show s.getD (s.length - 1 - j) 0 ≠ 1; rw [HL.out, ← hy]; exact h1) (by show t.getD (s.length - 1 - j) 0 ≠ _; rw [HL.out, ← hy]; exact h2))
          have HDY := Lib.hid (fun (h1 : s.getD y 0 = 1 ∨ t.getD y 0 = behE ⟨s, t, o⟩ j) => show denseP ⟨s, t, o⟩ (j + 1) from fun i hi => by
            by_cases hij : i = j
            · subst hij; show s.getD (s.length - 1 - i) 0 = 1 ∨ t.getD (s.length - 1 - i) 0 = _; rw [HL.out, ← hy]; exact h1
            · exact HQ.out i (by omega))
          rw [HBS.out] at hbb
          rw [← hwr] at hc hc' x0 x1
          have HW := Lib.hid hwr
          have HY := Lib.hid hy
          clear hwr hy
          generalize behE ⟨s, t, o⟩ j = p at *
          generalize s.getD y 0 = u at *
          generalize t.getD y 0 = z at *
          have e2 : IntKind.i64.wrap (p * u) = p * u := IntWalk.i64_in _ (by omega)
          have e3 : wrap64 (p * u) = p * u := IntWalk.wrap64_in _ (by omega)
          have e4 : wrap64 ((y : Int) - 1) = (y : Int) - 1 := IntWalk.wrap64_in _ (by omega)
          have e5 : IntKind.i64.wrap ((y : Int) - 1) = (y : Int) - 1 := IntWalk.i64_in _ (by omega)
          have d1 : decide ((0 : Int) ≤ (y : Int)) = true := by simp
          clear hbb e1
          by_cases hu : u = 1
          · have HD1 := Lib.hid (HDY.out (.inl hu))
            have d2 : (u != 1) = false := by simp [hu]
            clear hu
            go_wp2
            go_roundw
            case rel => exact ⟨j + 1, m, by omega, congrArg (Value.int .i64) (by have := HY.out; omega), congrArg (Value.int .i64) HBS.out.symm, HD1.out, HW.out⟩
            case measure => simp [intOf]
          · have d2 : (u != 1) = true := by simp [hu]
            by_cases hzp : z = p
            · have HD1 := Lib.hid (HDY.out (.inr hzp))
              have d3 : (z != p) = false := by simp [hzp]
              clear hu hzp
              go_wp2
              go_roundw
              case rel => exact ⟨j + 1, m, by omega, congrArg (Value.int .i64) (by have := HY.out; omega), congrArg (Value.int .i64) HBS.out.symm, HD1.out, HW.out⟩
              case measure => simp [intOf]
            · have HF := Lib.hid (HDN.out hu hzp)
              have d3 : (z != p) = true := by simp [hzp]
              clear hu hzp
              go_wp2
              go_ret
              exact tellG_eq (by rw [HF.out]; rfl) (by rw [HW.out]; exact HG4.out)
        · obtain rfl : j = n := by omega
          have e1 : (j : Int) - 1 - (j : Int) = -1 := by omega
          have HF := Lib.hid (dense_yes (v := ⟨s, t, o⟩) HRT.out (by show denseP _ s.length; rw [HL.out]; exact HQ.out))
          rw [e1]
          subst hwr
          go_wp2
          go_ret
          exact tellG_eq (by rw [HF.out]; rfl) HG4.out
end Go.Proofs.Ytkpfhjjojchdlaa
