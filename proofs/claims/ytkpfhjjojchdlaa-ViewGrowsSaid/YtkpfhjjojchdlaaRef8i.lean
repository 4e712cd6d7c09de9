/-
  Layer 8: the reference's Expand.
-/
import Derived.Test.YtkpfhjjojchdlaaRef8e
import Derived.Test.YtkpfhjjojchdlaaRef8h
import Derived.Test.YtkpfhjjojchdlaaRef7w
namespace Go.Proofs.Ytkpfhjjojchdlaa
open Go.ChangeShapes Go.WideShapes Go.ChangeAt Go.RowKit
set_option linter.unusedVariables false
set_option maxRecDepth 100000

theorem cells8b {w : World} {g : Nat} {T : TypeId} {x y z : Value} (hb : Box w g T #[x, y, z]) : w.cell? ⟨g, 1, none⟩ = some y ∧ w.cell? ⟨g, 2, none⟩ = some z := ⟨by rw [hb.get]; rfl, by rw [hb.get]; rfl⟩
theorem with_parts {s : List Int} {i x : Int} (h : withB s i x = true) : 0 ≤ i ∧ i ≤ s.length ∧ withL s i x = s.take i.toNat ++ [x] ++ s.drop i.toNat := by
  have h' := h
  unfold withB at h'
  simp only [Bool.and_eq_true, decide_eq_true_eq] at h'
  refine ⟨h'.2.1, h'.2.2.1, ?_⟩
  unfold withL
  rw [if_pos h]
set_option maxHeartbeats 2000000 in
theorem ref8Expand_any (A A' : Option Addr) (n c n' c' : Nat) (s t : List Int) (o i x : Int) (w : World) (h : NumsF w A n c s) (h' : NumsF w A' n' c' t) (hn : n ≤ 1048576) (hn' : n' ≤ 1048576) :
    Calls Try.prog 29 #[.agg #[.slice A n c, .slice A' n' c', .int .i64 o], .int .i64 i, .int .i64 x] w (GaveVP (growV ⟨s, t, o⟩ i x) w) := by
  have HR := Lib.hid (fun w' (hg : w.grownBy w' none) => ref8Right_any A A' n c n' c' s t o w' (h.1.grow hg) (h'.1.grow hg) hn hn')
  have HWI := Lib.hid (fun w' (hg : w.grownBy w' none) => ref7With_any A n c s i x w' (h.1.grow hg) hn h.2)
  have H := Lib.hid h
  have H' := Lib.hid h'
  obtain ⟨w1, hw1⟩ : ∃ w1, w1 = (w.alloc (.cells #[.slice A n c, .slice A' n' c', .int .i64 o] 24)).alloc (.cells #[.slice none 0 0, .slice none 0 0, .int .i64 0] 24) := ⟨_, rfl⟩
  have hb := boxes8 w 24 #[.slice A n c, .slice A' n' c', .int .i64 o] #[.slice none 0 0, .slice none 0 0, .int .i64 0]
  rw [← hw1] at hb
  obtain ⟨hx, hy, hg1⟩ := hb
  have HX := Lib.hid hx
  have HY := Lib.hid hy
  have HG1 := Lib.hid hg1
  have HW1 := Lib.hid hw1
  have HSZ := Lib.hid (show w.heap.size + 1 < w1.heap.size from hy.small)
  have HGR := Lib.hid (show ∀ b d, rightV ⟨s, t, o⟩ = b → withB s i x = d → growV ⟨s, t, o⟩ i x = if (b && d) = true then fineV ⟨withL s i x, putL t i.toNat 0, o⟩ else (zeroV, false) from fun b d hb hd => by unfold growV; rw [hb, hd])
  clear h h' hw1 hx hy hg1
  go_enter Try.func29, Try.ntmps29
  go_upto_region 1 with fail
  rw [← HW1.out]
  have x0 := HX.out.get 0
  go_wp2_with fail
  refine (HWI.out _ HG1.out).mono ?_
  rintro e w2 ⟨A1, c1, rfl, ho, hg⟩
  obtain ⟨n1, hn1⟩ : ∃ n1, n1 = (withL s i x).length := ⟨_, rfl⟩
  rw [← hn1] at ho ⊢
  have HN1 := Lib.hid hn1
  have HO := Lib.hid ho
  have HG2 := Lib.hid (grown_join HG1.out hg (.inr (by simp)))
  have HX2 := Lib.hid (HX.out.grown hg (by simp))
  have HY2 := Lib.hid (HY.out.grown hg (by simp))
  have HZ2 := Lib.hid hg.size
  clear x0 hg ho hn1
  have x0 := HX2.out.get 0
  have x1 := HX2.out.get 1
  have x2 := HX2.out.get 2
  cases hr : rightV ⟨s, t, o⟩ with
  | false =>
    rw [hr] at HR
    have HF := Lib.hid (show growV ⟨s, t, o⟩ i x = (zeroV, false) by rw [HGR.out _ _ hr rfl]; rfl)
    clear hr
    go_wp2_with fail
    refine (HR.out _ HG2.out).mono ?_
    rintro e w3 ⟨rfl, hg⟩
    have HG3 := Lib.hid (grown_join HG2.out hg (.inr (by simp)))
    obtain ⟨q0, q1, q2, f0, f1, f2, d0, d1, d2⟩ := (HY2.out.grown hg (by simp)).three8 (.slice none 0 0) (.slice none 0 0) (.int .i64 0)
    clear x0 x1 x2 hg
    go_wp2_with fail
    exact bodyPost_ret (v := .tuple #[.agg #[.slice none 0 0, .slice none 0 0, .int .i64 0], .bool false]) (by simp [results, Try.results29, go_sem, d0, d1, d2]) rfl (gaveVP_no HF.out (grown_three HG3.out (by omega) _ _ _))
  | true =>
    rw [hr] at HR
    cases hwb : withB s i x with
    | false =>
      have HF := Lib.hid (show growV ⟨s, t, o⟩ i x = (zeroV, false) by rw [HGR.out _ _ hr hwb]; rfl)
      clear hr hwb
      go_wp2_with fail
      refine (HR.out _ HG2.out).mono ?_
      rintro e w3 ⟨rfl, hg⟩
      have HG3 := Lib.hid (grown_join HG2.out hg (.inr (by simp)))
      obtain ⟨q0, q1, q2, f0, f1, f2, d0, d1, d2⟩ := (HY2.out.grown hg (by simp)).three8 (.slice none 0 0) (.slice none 0 0) (.int .i64 0)
      clear x0 x1 x2 hg
      go_wp2_with fail
      exact bodyPost_ret (v := .tuple #[.agg #[.slice none 0 0, .slice none 0 0, .int .i64 0], .bool false]) (by simp [results, Try.results29, go_sem, d0, d1, d2]) rfl (gaveVP_no HF.out (grown_three HG3.out (by omega) _ _ _))
    | true =>
      have HF0 := Lib.hid (show growV ⟨s, t, o⟩ i x = fineV ⟨withL s i x, putL t i.toNat 0, o⟩ by rw [HGR.out _ _ hr hwb]; rfl)
      have HWA := Lib.hid (with_parts hwb)
      have HRT := Lib.hid hr
      obtain ⟨k, rfl⟩ : ∃ k : Nat, i = k := ⟨i.toNat, by have := HWA.out.1; omega⟩
      have HF : Hid (growV ⟨s, t, o⟩ (k : Int) x = fineV ⟨withL s k x, putL t k 0, o⟩) := HF0
      have hkn : k ≤ n' := by have h1 := HWA.out.2.1; rw [← H'.out.len, (rightV_all HRT.out).2.1]; show k ≤ s.length; omega
      have hn1 : n1 ≤ 1048576 := by have h1 := HN1.out; have h2 := HWA.out.2.2; rw [h2] at h1; have h3 := (rightV_dims HRT.out); simp at h1; dsimp only at h3; omega
      have HPL := Lib.hid (show (putL t k 0).length ≤ 1048576 by
        have h1 := rightV_dims HRT.out
        have h2 := (rightV_all HRT.out).2.1
        dsimp only at h1 h2
        unfold putL
        simp
        omega)
      clear hr hwb
      go_wp2_with fail
      refine (HR.out _ HG2.out).mono ?_
      rintro e w3 ⟨rfl, hg⟩
      have HG3 := Lib.hid (grown_join HG2.out hg (.inr (by simp)))
      have HX3 := Lib.hid (HX2.out.grown hg (by simp))
      have HY3 := Lib.hid (HY2.out.grown hg (by simp))
      have HO3 := Lib.hid (HO.out.grow hg)
      have HZ3 := Lib.hid hg.size
      clear x0 x1 x2 hg
      obtain ⟨x1, x2⟩ := cells8b HX3.out
      go_wp2_with fail
      obtain ⟨rb, hrb⟩ : ∃ rb, rightV ⟨withL s k x, putL t k 0, o⟩ = rb := ⟨_, rfl⟩
      have HFN : Hid (∀ A3 n3 c3 w', NumsF w' A1 n1 c1 (withL s k x) → NumsF w' A3 n3 c3 (putL t k 0) → n3 ≤ 1048576 → Calls Try.prog 42 #[.agg #[.slice A1 n1 c1, .slice A3 n3 c3, .int .i64 o]] w' (TellG (.tuple #[.agg #[.slice (fineA rb A1) (fineN rb n1) (fineN rb c1), .slice (fineA rb A3) (fineN rb n3) (fineN rb c3), .int .i64 (fineI rb o)], .bool rb]) w')) := Lib.hid fun A3 n3 c3 w' h3 h4 hn3 => by rw [← hrb]; exact ref8fine_any A1 A3 n1 c1 n3 c3 _ _ _ w' h3 h4 hn1 hn3
      have HIN := Lib.hid (fun w' (hg : w.grownBy w' none) => ref8insert_any A' n' c' k t 0 w' (H'.out.grow hg) hn' hkn)
      have HRB := Lib.hid hrb
      clear hrb
      go_region_held3 (fun w' => w'.cell? ⟨w.heap.size, 1, none⟩ = some (.slice A' n' c') ∧ w'.cell? ⟨w.heap.size, 2, none⟩ = some (.int .i64 o)) (first | exact KEEP3.out | exact KEEP2.out | exact KEEP.out | go_keep) (first
        | (go_at_call 42; refine (HFN.out A3 n3 c3 _ (HO3.out.grow HG43.out).numsF HO4.out.numsF HN3.out).mono ?_; rintro e w5 ⟨rfl, hg5⟩; have HG5 := Lib.hid (grown_join HG4.out hg5 (.inr (by simp))); have HX5 := Lib.hid (HX4.out.grown hg5 (by simp)); have HY5 := HY4.out.grown hg5 (by simp); have KEEP2 := Lib.hid (cells8b HX5.out); have HG6 := Lib.hid (grown_three HG5.out (b := w.heap.size + 1) (by omega) (.slice (fineA rb A1) (fineN rb n1) (fineN rb c1)) (.slice (fineA rb A3) (fineN rb n3) (fineN rb c3)) (.int .i64 (fineI rb o))); have KEEP3 := Lib.hid (cells8b (box_three HX5.out (g := w.heap.size + 1) (by omega) (.slice (fineA rb A1) (fineN rb n1) (fineN rb c1)) (.slice (fineA rb A3) (fineN rb n3) (fineN rb c3)) (.int .i64 (fineI rb o)))); obtain ⟨p0, p1, p2, f0, f1, f2, d0, d1, d2⟩ := HY5.three8 (.slice (fineA rb A1) (fineN rb n1) (fineN rb c1)) (.slice (fineA rb A3) (fineN rb n3) (fineN rb c3)) (.int .i64 (fineI rb o)); have HFIN := Lib.hid (fine_gave HRB.out (own_three ((HO3.out.grow HG43.out).grow hg5) HSZ.out (.slice (fineA rb A1) (fineN rb n1) (fineN rb c1)) (.slice (fineA rb A3) (fineN rb n3) (fineN rb c3)) (.int .i64 (fineI rb o))).numsF (own_three (HO4.out.grow hg5) HSZ3.out (.slice (fineA rb A1) (fineN rb n1) (fineN rb c1)) (.slice (fineA rb A3) (fineN rb n3) (fineN rb c3)) (.int .i64 (fineI rb o))).numsF HG6.out); clear hg5 HY5)
        | (go_at_call 62; refine (HIN.out _ (grown_drewN HG3.out _)).mono ?_; rintro e w4 ⟨A3, c3, rfl, ho4, hg4⟩; have hn3 := HPL.out; obtain ⟨n3, hq3⟩ : ∃ n3, n3 = (putL t k 0).length := ⟨_, rfl⟩; rw [← hq3] at ho4 hn3 ⊢; have HN3 := Lib.hid hn3; have HO4 : Hid (OwnI w4 w3.heap.size A3 n3 c3 (putL t k 0)) := Lib.hid ho4; have HG43 : Hid (w3.grownBy w4 none) := Lib.hid (grown_join (grown_drewN (grown_refl w3 none) _) hg4 (.inr (by simp))); have HG4 := Lib.hid (grown_join HG3.out HG43.out (.inr (by simp))); have HX4 := Lib.hid (HX3.out.grown HG43.out (by simp)); have HY4 := Lib.hid (HY3.out.grown HG43.out (by simp)); have HSZ3 := Lib.hid (show w.heap.size + 1 < w3.heap.size by have := HSZ.out; have := HZ2.out; have := HZ3.out; omega); have KEEP := Lib.hid (cells8b HX4.out); clear ho4 hg4 hn3 hq3))
      all_goals
        go_wp2_with fail
        exact bodyPost_ret (v := .tuple #[.agg #[.slice (fineA rb A1) (fineN rb n1) (fineN rb c1), .slice (fineA rb A3) (fineN rb n3) (fineN rb c3), .int .i64 (fineI rb o)], .bool rb]) (by simp [results, Try.results29, go_sem, d0, d1, d2]) rfl (by rw [HF.out]; exact HFIN.out)
end Go.Proofs.Ytkpfhjjojchdlaa
