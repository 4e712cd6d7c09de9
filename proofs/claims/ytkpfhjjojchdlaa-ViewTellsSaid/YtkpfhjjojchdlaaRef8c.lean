/-
  Layer 8: the reference's Bounds.
-/
import Derived.Test.YtkpfhjjojchdlaaRef8b
namespace Go.Proofs.Ytkpfhjjojchdlaa
open Go.ChangeShapes Go.WideShapes Go.ChangeAt Go.RowKit
set_option linter.unusedVariables false
set_option maxRecDepth 100000

theorem lowV_no {v : Vw} (h : someB v = false) : lowV v = 0 ∧ highV v = 0 := ⟨if_neg (by rw [h]; exact Bool.false_ne_true), if_neg (by rw [h]; exact Bool.false_ne_true)⟩
theorem lowV_yes {v : Vw} (h : someB v = true) : lowV v = lowE v v.sh.length ∧ highV v = highE v v.sh.length := ⟨if_pos h, if_pos h⟩
theorem tellG_three {x y x' y' : Int} {a b : Bool} {w w' : World} (h1 : x = y) (h1' : x' = y') (h2 : a = b) (hg : w.grownBy w' none) : TellG (.tuple #[.int .i64 y, .int .i64 y', .bool b]) w (.returned (.tuple #[.int .i64 x, .int .i64 x', .bool a])) w' := by
  subst h1; subst h1'; subst h2; exact ⟨rfl, hg⟩
set_option maxHeartbeats 2000000 in
theorem ref8Bounds_any (A A' : Option Addr) (n c n' c' : Nat) (s t : List Int) (o : Int) (w : World) (h : NumsF w A n c s) (h' : NumsF w A' n' c' t) (hn : n ≤ 1048576) (hn' : n' ≤ 1048576) :
    Calls Try.prog 15 #[.agg #[.slice A n c, .slice A' n' c', .int .i64 o]] w (TellG (.tuple #[.int .i64 (lowV ⟨s, t, o⟩), .int .i64 (highV ⟨s, t, o⟩), .bool (someB ⟨s, t, o⟩)]) w) := by
  have HR := Lib.hid (fun w' (hg : w.grownBy w' none) => ref8Right_any A A' n c n' c' s t o w' (h.1.grow hg) (h'.1.grow hg) hn hn')
  have HZ := Lib.hid (fun w' (hg : w.grownBy w' none) => ref8size_any A A' n c n' c' s t o w' (h.1.grow hg) hn)
  have H := Lib.hid h
  have H' := Lib.hid h'
  have HL := Lib.hid h.len
  obtain ⟨w1, hw1⟩ : ∃ w1, w1 = w.alloc (.cells #[.slice A n c, .slice A' n' c', .int .i64 o] 24) := ⟨_, rfl⟩
  have hb := box8 w 24 #[.slice A n c, .slice A' n' c', .int .i64 o]
  rw [← hw1] at hb
  obtain ⟨hx, hg1⟩ := hb
  have HX := Lib.hid hx
  have HG1 := Lib.hid hg1
  have HW1 := Lib.hid hw1
  have HOB := Lib.hid (show ∀ b d, rightV ⟨s, t, o⟩ = b → decide (cellsV ⟨s, t, o⟩ ≠ 0) = d → someB ⟨s, t, o⟩ = (b && d) from fun b d hb hd => by unfold someB; rw [hb, hd])
  have HNV := Lib.hid (fun (hb : someB ⟨s, t, o⟩ = false) => lowV_no hb)
  have HYV := Lib.hid (fun (hb : someB ⟨s, t, o⟩ = true) => lowV_yes hb)
  clear h h' hw1 hx hg1
  cases hr : rightV ⟨s, t, o⟩ with
  | false =>
    rw [hr] at HR
    have HF := Lib.hid (show someB ⟨s, t, o⟩ = false by rw [HOB.out _ _ hr rfl]; rfl)
    have HV := Lib.hid (HNV.out HF.out)
    clear hr
    go_enter Try.func15, Try.ntmps15
    go_upto_region 1 with fail
    rw [← HW1.out]
    have x0 := HX.out.get 0
    have x1 := HX.out.get 1
    have x2 := HX.out.get 2
    go_wp2_with fail
    refine (HR.out _ HG1.out).mono ?_
    rintro e w2 ⟨rfl, hg⟩
    have HG2 := Lib.hid (grown_join HG1.out hg (.inr (by simp)))
    clear hg
    go_wp2_with fail
    exact bodyPost_ret (v := .tuple #[.int .i64 0, .int .i64 0, .bool false]) (by simp [results, Try.results15, go_sem]) rfl (tellG_three HV.out.1.symm HV.out.2.symm HF.out.symm HG2.out)
  | true =>
    rw [hr] at HR
    by_cases hz : cellsV ⟨s, t, o⟩ = 0
    · have HF := Lib.hid (show someB ⟨s, t, o⟩ = false by rw [HOB.out _ _ hr (decide_eq_false (fun h => h hz))]; rfl)
      have HV := Lib.hid (HNV.out HF.out)
      rw [hz] at HZ
      clear hr hz
      go_enter Try.func15, Try.ntmps15
      go_upto_region 1 with fail
      rw [← HW1.out]
      have x0 := HX.out.get 0
      have x1 := HX.out.get 1
      have x2 := HX.out.get 2
      go_wp2_with fail
      refine (HR.out _ HG1.out).mono ?_
      rintro e w2 ⟨rfl, hg⟩
      have HG2 := Lib.hid (grown_join HG1.out hg (.inr (by simp)))
      have hx2 := HX.out.grown hg (by simp)
      clear hg x0 x1 x2
      have x0 := hx2.get 0
      have x1 := hx2.get 1
      have x2 := hx2.get 2
      clear hx2
      go_wp2_with fail
      refine (HZ.out _ HG2.out).mono ?_
      rintro e w3 ⟨rfl, hg⟩
      have HG3 := Lib.hid (grown_join HG2.out hg (.inr (by simp)))
      clear hg
      go_wp2_with fail
      exact bodyPost_ret (v := .tuple #[.int .i64 0, .int .i64 0, .bool false]) (by simp [results, Try.results15, go_sem]) rfl (tellG_three HV.out.1.symm HV.out.2.symm HF.out.symm HG3.out)
    · have HF := Lib.hid (show someB ⟨s, t, o⟩ = true by rw [HOB.out _ _ hr (decide_eq_true hz)]; rfl)
      have HV := Lib.hid (HYV.out HF.out)
      have HRT := Lib.hid hr
      clear hr
      generalize cellsV ⟨s, t, o⟩ = cc at *
      have d0 : (cc == 0) = false := by simp [hz]
      clear hz
      go_enter Try.func15, Try.ntmps15
      go_upto_region 1 with fail
      rw [← HW1.out]
      have x0 := HX.out.get 0
      have x1 := HX.out.get 1
      have x2 := HX.out.get 2
      go_wp2_with fail
      refine (HR.out _ HG1.out).mono ?_
      rintro e w2 ⟨rfl, hg⟩
      have HG2 := Lib.hid (grown_join HG1.out hg (.inr (by simp)))
      have HX2 := Lib.hid (HX.out.grown hg (by simp))
      clear hg x0 x1 x2
      have x0 := HX2.out.get 0
      have x1 := HX2.out.get 1
      have x2 := HX2.out.get 2
      go_wp2_with fail
      refine (HZ.out _ HG2.out).mono ?_
      rintro e w3 ⟨rfl, hg⟩
      have HG3 := Lib.hid (grown_join HG2.out hg (.inr (by simp)))
      have HX3 := Lib.hid (HX2.out.grown hg (by simp))
      clear hg x0 x1 x2
      have x2 := HX3.out.get 2
      go_wp2_with fail
      go_quiet (fail)
      go_wp2_with fail
      clear x2
      go_loopw [5, 6, 7] (fun lo hi i wr => ∃ k m : Nat, k ≤ n ∧ i = .int .i64 k ∧ lo = .int .i64 (lowE ⟨s, t, o⟩ k) ∧ hi = .int .i64 (highE ⟨s, t, o⟩ k) ∧ wr = w3.drewN m) (fun _ _ i _ => n - (intOf i).toNat)
      case atStart => exact ⟨0, _, Nat.zero_le _, rfl, rfl, rfl, rfl⟩
      case round =>
        obtain ⟨k, m, hk, rfl, rfl, rfl, hwr⟩ := hrel
        have HG4 := Lib.hid (grown_drewN HG3.out m)
        have x0 := (HX3.out.drewN m).get 0
        by_cases hlt : k < n
        · have hk' : k < n' := by rw [← H'.out.len, (rightV_all HRT.out).2.1, HL.out]; exact hlt
          obtain ⟨b, off, rfl, _, hc⟩ := (H'.out.grow HG4.out).1.2.at_ hk'
          obtain ⟨b', off', rfl, _, hc'⟩ := (H.out.grow HG4.out).1.2.at_ hlt
          have x1 := (HX3.out.drewN m).get 1
          have hks : k < s.length := by rw [HL.out]; exact hlt
          have hb1 := lowhigh_in HF.out k (by show k ≤ s.length; omega)
          have hb2 := lowhigh_in HF.out (k + 1) (by show k + 1 ≤ s.length; omega)
          have hb3 := rightV_len HRT.out (i := k) hks
          have hb4 := rightV_str HRT.out (i := k) hks
          have hb5 := some_ones HF.out k hks
          have hb6 := times_in (a := s.getD k 0 - 1) (z := t.getD k 0) (by dsimp only at *; omega) (by dsimp only at *; omega) hb4.1 hb4.2
          have hb7 : k ≤ 6 := by have := rightV_dims HRT.out; dsimp only at this; omega
          have HSL := Lib.hid (show lowE ⟨s, t, o⟩ (k + 1) = lowE ⟨s, t, o⟩ k + min ((s.getD k 0 - 1) * t.getD k 0) 0 from rfl)
          have HSH := Lib.hid (show highE ⟨s, t, o⟩ (k + 1) = highE ⟨s, t, o⟩ k + max ((s.getD k 0 - 1) * t.getD k 0) 0 from rfl)
          rw [HSL.out, HSH.out] at hb2
          dsimp only at hb3
          rw [← hwr] at hc hc' x1 x0
          have HW := Lib.hid hwr
          clear hwr hb4 hb5
          generalize lowE ⟨s, t, o⟩ k = x at *
          generalize highE ⟨s, t, o⟩ k = y at *
          generalize s.getD k 0 = u at *
          generalize t.getD k 0 = z at *
          have e0 : IntKind.i64.wrap (u - 1) = u - 1 := IntWalk.i64_in _ (by omega)
          have e1 : IntKind.i64.wrap ((u - 1) * z) = (u - 1) * z := IntWalk.i64_in _ (by omega)
          have f0 : wrap64 (u - 1) = u - 1 := IntWalk.wrap64_in _ (by omega)
          have f1 : wrap64 ((u - 1) * z) = (u - 1) * z := IntWalk.wrap64_in _ (by omega)
          have HML := Lib.hid (show wrap64 (x + if 0 < (u - 1) * z then 0 else (u - 1) * z) = x + min ((u - 1) * z) 0 by
            rw [show (if 0 < (u - 1) * z then 0 else (u - 1) * z) = min ((u - 1) * z) 0 by split <;> omega]; exact IntWalk.wrap64_in _ (by omega))
          have HMH := Lib.hid (show wrap64 (y + if (u - 1) * z < 0 then 0 else (u - 1) * z) = y + max ((u - 1) * z) 0 by
            rw [show (if (u - 1) * z < 0 then 0 else (u - 1) * z) = max ((u - 1) * z) 0 by split <;> omega]; exact IntWalk.wrap64_in _ (by omega))
          clear hb1 hb2 hb3 hb6 hb7 hks
          go_wp2
          go_quiet (fail)
          go_wp2
          go_roundw
          case rel => exact ⟨k + 1, _, by omega, by go_num, by rw [HSL.out, ← HML.out], by rw [HSH.out, ← HMH.out], by rw [HW.out, World.drewN_drewN]⟩
          case measure => simp [intOf]; omega
        · obtain rfl : k = n := by omega
          subst hwr
          go_wp2
          exact bodyPost_ret (v := .tuple #[.int .i64 (lowE ⟨s, t, o⟩ k), .int .i64 (highE ⟨s, t, o⟩ k), .bool true]) (by simp [results, Try.results15, go_sem]) rfl (tellG_three (by rw [HV.out.1]; show _ = lowE _ s.length; rw [HL.out]) (by rw [HV.out.2]; show _ = highE _ s.length; rw [HL.out]) HF.out.symm HG4.out)
end Go.Proofs.Ytkpfhjjojchdlaa
