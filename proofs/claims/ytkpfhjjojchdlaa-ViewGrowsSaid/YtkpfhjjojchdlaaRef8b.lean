/-
  Layer 8: the reference's axis, Offset.
-/
import Derived.Test.YtkpfhjjojchdlaaRef8a
namespace Go.Proofs.Ytkpfhjjojchdlaa
open Go.ChangeShapes Go.WideShapes Go.ChangeAt Go.RowKit
set_option linter.unusedVariables false
set_option maxRecDepth 100000

theorem box8 (w : World) (t : TypeId) (a : Array Value) : Box (w.alloc (.cells a t)) w.heap.size t a ∧ w.grownBy (w.alloc (.cells a t)) none := ⟨Box.fresh w t a, World.grownBy_alloc w _ none⟩
set_option maxHeartbeats 2000000 in
theorem ref8axis_any (A A' : Option Addr) (n c n' c' : Nat) (s t : List Int) (o i : Int) (w : World) (h : NumsF w A n c s) (h' : NumsF w A' n' c' t) (hn : n ≤ 1048576) (hn' : n' ≤ 1048576) :
    Calls Try.prog 54 #[.agg #[.slice A n c, .slice A' n' c', .int .i64 o], .int .i64 i] w (TellG (.bool (axisB ⟨s, t, o⟩ i)) w) := by
  have HR := Lib.hid (fun w' (hg : w.grownBy w' none) => ref8Right_any A A' n c n' c' s t o w' (h.1.grow hg) (h'.1.grow hg) hn hn')
  have HL := Lib.hid h.len
  obtain ⟨w1, hw1⟩ : ∃ w1, w1 = w.alloc (.cells #[.slice A n c, .slice A' n' c', .int .i64 o] 24) := ⟨_, rfl⟩
  have hb := box8 w 24 #[.slice A n c, .slice A' n' c', .int .i64 o]
  rw [← hw1] at hb
  obtain ⟨hx, hg1⟩ := hb
  have HX := Lib.hid hx
  have HG1 := Lib.hid hg1
  have HW1 := Lib.hid hw1
  have HAX := Lib.hid (show ∀ b, rightV ⟨s, t, o⟩ = b → axisB ⟨s, t, o⟩ i = (b && decide (0 ≤ i ∧ i < s.length)) from fun b hb => by unfold axisB; rw [hb])
  clear h h' hw1 hx hg1
  cases hr : rightV ⟨s, t, o⟩ with
  | false =>
    rw [hr] at HR
    have HF := Lib.hid (HAX.out _ hr)
    clear hr
    go_enter Try.func54, Try.ntmps54
    go_upto_region 1 with fail
    rw [← HW1.out]
    have x0 := HX.out.get 0
    have x1 := HX.out.get 1
    have x2 := HX.out.get 2
    go_wp2_with fail
    refine (HR.out _ HG1.out).mono ?_
    rintro e w2 ⟨rfl, hg⟩
    have HG2 := Lib.hid (grown_join HG1.out hg (.inr (by simp)))
    clear hg
    go_wp2_with fail
    go_ret
    exact tellG_eq (by rw [HF.out]; rfl) HG2.out
  | true =>
    rw [hr] at HR
    have HF := Lib.hid (HAX.out _ hr)
    clear hr
    by_cases h0 : 0 ≤ i
    · have d0 : decide (0 ≤ i) = true := decide_eq_true h0
      go_enter Try.func54, Try.ntmps54
      go_upto_region 1 with fail
      rw [← HW1.out]
      have x0 := HX.out.get 0
      have x1 := HX.out.get 1
      have x2 := HX.out.get 2
      go_wp2_with fail
      refine (HR.out _ HG1.out).mono ?_
      rintro e w2 ⟨rfl, hg⟩
      have HG2 := Lib.hid (grown_join HG1.out hg (.inr (by simp)))
      have hx2 := HX.out.grown hg (by simp)
      clear hg x0 x1 x2
      have x0 := hx2.get 0
      clear hx2
      go_wp2_with fail
      go_ret
      exact tellG_eq (by rw [HF.out, HL.out]; simp [h0]) HG2.out
    · have d0 : decide (0 ≤ i) = false := decide_eq_false h0
      go_enter Try.func54, Try.ntmps54
      go_upto_region 1 with fail
      rw [← HW1.out]
      have x0 := HX.out.get 0
      have x1 := HX.out.get 1
      have x2 := HX.out.get 2
      go_wp2_with fail
      refine (HR.out _ HG1.out).mono ?_
      rintro e w2 ⟨rfl, hg⟩
      have HG2 := Lib.hid (grown_join HG1.out hg (.inr (by simp)))
      clear hg
      go_wp2_with fail
      go_ret
      exact tellG_eq (by rw [HF.out, decide_eq_false (fun hp => absurd hp.1 (by omega))]; rfl) HG2.out
theorem offV_no {v : Vw} {l : List Int} (h : offB v l = false) : offV v l = 0 := if_neg (by rw [h]; exact Bool.false_ne_true)
theorem offV_yes {v : Vw} {l : List Int} (h : offB v l = true) : offV v l = offE v l v.sh.length := if_pos h
theorem tellG_two {x y : Int} {a b : Bool} {w w' : World} (h1 : x = y) (h2 : a = b) (hg : w.grownBy w' none) : TellG (.tuple #[.int .i64 y, .bool b]) w (.returned (.tuple #[.int .i64 x, .bool a])) w' := by
  subst h1; subst h2; exact ⟨rfl, hg⟩
set_option maxHeartbeats 2000000 in
theorem ref8Offset_any (A A' A2 : Option Addr) (n c n' c' n2 c2 : Nat) (s t l : List Int) (o : Int) (w : World) (h : NumsF w A n c s) (h' : NumsF w A' n' c' t) (ha : NumsF w A2 n2 c2 l) (hn : n ≤ 1048576) (hn' : n' ≤ 1048576) (hn2 : n2 ≤ 1048576) :
    Calls Try.prog 13 #[.agg #[.slice A n c, .slice A' n' c', .int .i64 o], .slice A2 n2 c2] w (TellG (.tuple #[.int .i64 (offV ⟨s, t, o⟩ l), .bool (offB ⟨s, t, o⟩ l)]) w) := by
  have HR := Lib.hid (fun w' (hg : w.grownBy w' none) => ref8Right_any A A' n c n' c' s t o w' (h.1.grow hg) (h'.1.grow hg) hn hn')
  have HA := Lib.hid (fun w' (hg : w.grownBy w' none) => ref7Has_any A A2 n c _ n2 c2 _ s l w' (h.1.grow hg) (ha.1.grow hg) hn hn2)
  have H' := Lib.hid h'
  have H2 := Lib.hid ha
  have HL := Lib.hid h.len
  have HL2 := Lib.hid ha.len
  obtain ⟨w1, hw1⟩ : ∃ w1, w1 = w.alloc (.cells #[.slice A n c, .slice A' n' c', .int .i64 o] 24) := ⟨_, rfl⟩
  have hb := box8 w 24 #[.slice A n c, .slice A' n' c', .int .i64 o]
  rw [← hw1] at hb
  obtain ⟨hx, hg1⟩ := hb
  have HX := Lib.hid hx
  have HG1 := Lib.hid hg1
  have HW1 := Lib.hid hw1
  have HOB := Lib.hid (show ∀ b d, rightV ⟨s, t, o⟩ = b → hasB s l = d → offB ⟨s, t, o⟩ l = (b && d) from fun b d hb hd => by unfold offB; rw [hb, hd])
  have HNV := Lib.hid (fun (hb : offB ⟨s, t, o⟩ l = false) => offV_no hb)
  have HYV := Lib.hid (fun (hb : offB ⟨s, t, o⟩ l = true) => offV_yes hb)
  clear h h' ha hw1 hx hg1
  cases hr : rightV ⟨s, t, o⟩ with
  | false =>
    rw [hr] at HR
    have HF := Lib.hid (show offB ⟨s, t, o⟩ l = false by rw [HOB.out _ _ hr rfl]; rfl)
    have HV := Lib.hid (HNV.out HF.out)
    clear hr
    go_enter Try.func13, Try.ntmps13
    go_upto_region 1 with fail
    rw [← HW1.out]
    have x0 := HX.out.get 0
    have x1 := HX.out.get 1
    have x2 := HX.out.get 2
    go_wp2_with fail
    refine (HR.out _ HG1.out).mono ?_
    rintro e w2 ⟨rfl, hg⟩
    have HG2 := Lib.hid (grown_join HG1.out hg (.inr (by simp)))
    clear hg
    go_wp2_with fail
    go_ret2
    exact tellG_two HV.out.symm HF.out.symm HG2.out
  | true =>
    rw [hr] at HR
    cases hh : hasB s l with
    | false =>
      rw [hh] at HA
      have HF := Lib.hid (show offB ⟨s, t, o⟩ l = false by rw [HOB.out _ _ hr hh]; rfl)
      have HV := Lib.hid (HNV.out HF.out)
      clear hr hh
      go_enter Try.func13, Try.ntmps13
      go_upto_region 1 with fail
      rw [← HW1.out]
      have x0 := HX.out.get 0
      have x1 := HX.out.get 1
      have x2 := HX.out.get 2
      go_wp2_with fail
      refine (HR.out _ HG1.out).mono ?_
      rintro e w2 ⟨rfl, hg⟩
      have HG2 := Lib.hid (grown_join HG1.out hg (.inr (by simp)))
      have hx2 := HX.out.grown hg (by simp)
      clear hg x0 x1 x2
      have x0 := hx2.get 0
      clear hx2
      go_wp2_with fail
      refine (HA.out _ HG2.out).mono ?_
      rintro e w3 ⟨rfl, m, rfl⟩
      go_wp2_with fail
      go_ret2
      exact tellG_two HV.out.symm HF.out.symm (grown_drewN HG2.out _)
    | true =>
      rw [hh] at HA
      have HF := Lib.hid (show offB ⟨s, t, o⟩ l = true by rw [HOB.out _ _ hr hh]; rfl)
      have HV := Lib.hid (HYV.out HF.out)
      have HRT := Lib.hid hr
      have HHS := Lib.hid (has_all hh)
      clear hr hh
      have HNN := Lib.hid (show n2 = n by rw [← HL2.out, ← HL.out]; exact HHS.out.2.1)
      go_enter Try.func13, Try.ntmps13
      go_upto_region 1 with fail
      rw [← HW1.out]
      have x0 := HX.out.get 0
      have x1 := HX.out.get 1
      have x2 := HX.out.get 2
      go_wp2_with fail
      refine (HR.out _ HG1.out).mono ?_
      rintro e w2 ⟨rfl, hg⟩
      have HG2 := Lib.hid (grown_join HG1.out hg (.inr (by simp)))
      have HX2 := Lib.hid (HX.out.grown hg (by simp))
      clear hg x0 x1 x2
      have x0 := HX2.out.get 0
      have x2 := HX2.out.get 2
      go_wp2_with fail
      refine (HA.out _ HG2.out).mono ?_
      rintro e w3 ⟨rfl, m3, rfl⟩
      go_wp2_with fail
      go_loopw [6, 7] (fun v i wr => ∃ k m : Nat, k ≤ n2 ∧ i = .int .i64 k ∧ v = .int .i64 (offE ⟨s, t, o⟩ l k) ∧ wr = w2.drewN m) (fun _ i _ => n2 - (intOf i).toNat)
      case atStart => exact ⟨0, m3, Nat.zero_le _, rfl, rfl, rfl⟩
      case round =>
        obtain ⟨k, m, hk, rfl, rfl, hwr⟩ := hrel
        have HG3 := Lib.hid (grown_drewN HG2.out m)
        clear x0 x2
        by_cases hlt : k < n2
        · have hk' : k < n' := by rw [← H'.out.len, (rightV_all HRT.out).2.1, ← HHS.out.2.1, HL2.out]; exact hlt
          obtain ⟨b, off, rfl, _, hc⟩ := (H'.out.grow HG3.out).1.2.at_ hk'
          obtain ⟨b', off', rfl, _, hc'⟩ := (H2.out.grow HG3.out).1.2.at_ hlt
          have x1 := (HX2.out.drewN m).get 1
          have hks : k < s.length := by rw [HL.out, ← HNN.out]; exact hlt
          have hb1 := offE_in HF.out k (by show k ≤ s.length; omega)
          have hb2 := offE_in HF.out (k + 1) (by show k + 1 ≤ s.length; omega)
          have hb3 := (rightV_len HRT.out (i := k) hks)
          have hb4 := (rightV_str HRT.out (i := k) hks)
          have hb5 := HHS.out.2.2 k hks
          have hb6 := times_in hb5.1 (by have := hb3.2; show l.getD k 0 ≤ 1048576; dsimp only at *; omega) hb4.1 hb4.2
          have hb7 : k ≤ 6 := by have := rightV_dims HRT.out; dsimp only at this; omega
          have HST := Lib.hid (show offE ⟨s, t, o⟩ l (k + 1) = offE ⟨s, t, o⟩ l k + l.getD k 0 * t.getD k 0 from rfl)
          rw [HST.out] at hb2
          dsimp only at hb6
          rw [← hwr] at hc hc' x1
          have HW := Lib.hid hwr
          clear hwr hb3 hb4 hb5
          generalize offE ⟨s, t, o⟩ l k = x at *
          generalize l.getD k 0 = u at *
          generalize t.getD k 0 = z at *
          have e1 : IntKind.i64.wrap (u * z) = u * z := IntWalk.i64_in _ (by omega)
          have e2 : IntKind.i64.wrap (x + u * z) = x + u * z := IntWalk.i64_in _ (by omega)
          have e3 : wrap64 (u * z) = u * z := IntWalk.wrap64_in _ (by omega)
          have e4 : wrap64 (x + u * z) = x + u * z := IntWalk.wrap64_in _ (by omega)
          clear hb1 hb2 hb6 hb7 hks
          go_wp2
          go_quiet (fail)
          go_wp2
          go_roundw
          case rel => exact ⟨k + 1, _, by omega, by go_num, by rw [HST.out], by rw [HW.out, World.drewN_drewN]⟩
          case measure => simp [intOf]; omega
        · obtain rfl : k = n2 := by omega
          subst hwr
          go_wp2
          go_ret2
          exact tellG_two (by rw [HV.out]; show _ = offE _ l s.length; rw [HL.out, ← HNN.out]) HF.out.symm HG3.out
end Go.Proofs.Ytkpfhjjojchdlaa
