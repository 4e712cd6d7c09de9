/-
  Layer 8: the reference's Drop.
-/
import Derived.Test.YtkpfhjjojchdlaaRef8j
namespace Go.Proofs.Ytkpfhjjojchdlaa
open Go.ChangeShapes Go.WideShapes Go.ChangeAt Go.RowKit
set_option linter.unusedVariables false
set_option maxRecDepth 100000

set_option maxHeartbeats 2000000 in
theorem ref8Drop_any (A A' : Option Addr) (n c n' c' : Nat) (s t : List Int) (o i x : Int) (w : World) (h : NumsF w A n c s) (h' : NumsF w A' n' c' t) (hn : n ≤ 1048576) (hn' : n' ≤ 1048576) :
    Calls Try.prog 27 #[.agg #[.slice A n c, .slice A' n' c', .int .i64 o], .int .i64 i, .int .i64 x] w (GaveVP (dropV ⟨s, t, o⟩ i x) w) := by
  have HA := Lib.hid (fun w' (hg : w.grownBy w' none) => ref8axis_any A A' n c n' c' s t o i w' (h.grow hg) (h'.grow hg) hn hn')
  have HWI := Lib.hid (fun w' (hg : w.grownBy w' none) => ref7Without_any A n c s i w' (h.1.grow hg) hn h.2)
  have H := Lib.hid h
  have H' := Lib.hid h'
  obtain ⟨w1, hw1⟩ : ∃ w1, w1 = (w.alloc (.cells #[.slice A n c, .slice A' n' c', .int .i64 o] 24)).alloc (.cells #[.slice none 0 0, .slice none 0 0, .int .i64 0] 24) := ⟨_, rfl⟩
  have hb := boxes8 w 24 #[.slice A n c, .slice A' n' c', .int .i64 o] #[.slice none 0 0, .slice none 0 0, .int .i64 0]
  rw [← hw1] at hb
  obtain ⟨hx, hy, hg1⟩ := hb
  have HX := Lib.hid hx
  have HY := Lib.hid hy
  have HG1 := Lib.hid hg1
  have HW1 := Lib.hid hw1
  have HSZ := Lib.hid (show w.heap.size + 1 < w1.heap.size from hy.small)
  have HGR := Lib.hid (show ∀ a b, axisB ⟨s, t, o⟩ i = a → decide (0 ≤ x ∧ x < s.getD i.toNat 0) = b → dropV ⟨s, t, o⟩ i x = if (a && b) = true then fineV ⟨withoutL s i, t.take i.toNat ++ t.drop (i.toNat + 1), o + x * t.getD i.toNat 0⟩ else (zeroV, false) from fun a b ha hb => by unfold dropV; rw [ha, hb])
  clear h h' hw1 hx hy hg1
  go_enter Try.func27, Try.ntmps27
  go_upto_region 1 with fail
  rw [← HW1.out]
  have x0 := HX.out.get 0
  have x1 := HX.out.get 1
  have x2 := HX.out.get 2
  cases hr : axisB ⟨s, t, o⟩ i with
  | false =>
    rw [hr] at HA
    have HF := Lib.hid (show dropV ⟨s, t, o⟩ i x = (zeroV, false) by rw [HGR.out _ _ hr rfl]; rfl)
    clear hr
    go_wp2_with fail
    refine (HA.out _ HG1.out).mono ?_
    rintro e w3 ⟨rfl, hg⟩
    have HG3 := Lib.hid (grown_join HG1.out hg (.inr (by simp)))
    obtain ⟨q0, q1, q2, f0, f1, f2, d0, d1, d2⟩ := (HY.out.grown hg (by simp)).three8 (.slice none 0 0) (.slice none 0 0) (.int .i64 0)
    clear x0 x1 x2 hg
    go_wp2_with fail
    exact bodyPost_ret (v := .tuple #[.agg #[.slice none 0 0, .slice none 0 0, .int .i64 0], .bool false]) (by simp [results, Try.results27, go_sem, d0, d1, d2]) rfl (gaveVP_no HF.out (grown_three HG3.out (by omega) _ _ _))
  | true =>
    rw [hr] at HA
    have HAX := Lib.hid (axis_all hr)
    obtain ⟨k, rfl⟩ : ∃ k : Nat, i = k := ⟨i.toNat, by have := HAX.out.2; omega⟩
    have hkn : k < n := by have := HAX.out.2.2; rw [show (⟨s, t, o⟩ : Vw).sh.length = n from H.out.len] at this; omega
    have hkn' : k < n' := by rw [← H'.out.len, (rightV_all HAX.out.1).2.1, show (⟨s, t, o⟩ : Vw).sh.length = n from H.out.len]; exact hkn
    have HGS : Hid (∀ b, decide (0 ≤ x ∧ x < s.getD k 0) = b → dropV ⟨s, t, o⟩ (k : Int) x = if b = true then fineV ⟨withoutL s (k : Int), t.take k ++ t.drop (k + 1), o + x * t.getD k 0⟩ else (zeroV, false)) := Lib.hid fun b hb => by rw [HGR.out _ _ hr hb]; rfl
    have HLN := Lib.hid (show 0 ≤ s.getD k 0 ∧ s.getD k 0 ≤ 1048576 from rightV_len HAX.out.1 (i := k) (by show k < s.length; rw [H.out.len]; exact hkn))
    have HST := Lib.hid (show -1048576 ≤ t.getD k 0 ∧ t.getD k 0 ≤ 1048576 from rightV_str HAX.out.1 (i := k) (by show k < s.length; rw [H.out.len]; exact hkn))
    have HOF := Lib.hid (show 0 ≤ o ∧ o ≤ 16777216 from ⟨(rightV_all HAX.out.1).2.2.1, (rightV_all HAX.out.1).2.2.2.1⟩)
    have HDM := Lib.hid (show s.length ≤ 6 ∧ t.length = s.length from ⟨rightV_dims HAX.out.1, (rightV_all HAX.out.1).2.1⟩)
    clear hr
    go_wp2_with fail
    refine (HA.out _ HG1.out).mono ?_
    rintro e w2 ⟨rfl, hg⟩
    have HG2 := Lib.hid (grown_join HG1.out hg (.inr (by simp)))
    have HX2 := Lib.hid (HX.out.grown hg (by simp))
    have HY2 := Lib.hid (HY.out.grown hg (by simp))
    have HZ2 := Lib.hid hg.size
    clear x0 x1 x2 hg
    have x0 := HX2.out.get 0
    obtain ⟨b, off, rfl, _, hc⟩ := (H.out.grow HG2.out).1.2.at_ hkn
    obtain ⟨b', off', rfl, _, hc'⟩ := (H'.out.grow HG2.out).1.2.at_ hkn'
    clear hc'
    generalize hu : s.getD k 0 = uu at *
    generalize hz : t.getD k 0 = zz at *
    have HU := Lib.hid hu
    have HZZ := Lib.hid hz
    clear hu hz
    have e0 : IntKind.i64.wrap ((k : Int) + 1) = (k : Int) + 1 := IntWalk.i64_in _ (by omega)
    have f0 : wrap64 ((k : Int) + 1) = (k : Int) + 1 := IntWalk.wrap64_in _ (by omega)
    by_cases h1 : x < 0
    · have d1 : decide (x < 0) = true := decide_eq_true h1
      have HF := Lib.hid (show dropV ⟨s, t, o⟩ (k : Int) x = (zeroV, false) by rw [HGS.out _ (decide_eq_false (by omega))]; rfl)
      obtain ⟨q0, q1, q2, g0, g1, g2, p0, p1, p2⟩ := HY2.out.three8 (.slice none 0 0) (.slice none 0 0) (.int .i64 0)
      clear h1
      go_wp2_with fail
      exact bodyPost_ret (v := .tuple #[.agg #[.slice none 0 0, .slice none 0 0, .int .i64 0], .bool false]) (by simp [results, Try.results27, go_sem, p0, p1, p2]) rfl (gaveVP_no HF.out (grown_three HG2.out (by omega) _ _ _))
    · have d1 : decide (x < 0) = false := decide_eq_false h1
      by_cases h2 : uu ≤ x
      · have d2 : decide (uu ≤ x) = true := decide_eq_true h2
        have HF := Lib.hid (show dropV ⟨s, t, o⟩ (k : Int) x = (zeroV, false) by rw [HGS.out _ (decide_eq_false (by omega))]; rfl)
        obtain ⟨q0, q1, q2, g0, g1, g2, p0, p1, p2⟩ := HY2.out.three8 (.slice none 0 0) (.slice none 0 0) (.int .i64 0)
        clear h1 h2
        go_wp2_with fail
        exact bodyPost_ret (v := .tuple #[.agg #[.slice none 0 0, .slice none 0 0, .int .i64 0], .bool false]) (by simp [results, Try.results27, go_sem, p0, p1, p2]) rfl (gaveVP_no HF.out (grown_three HG2.out (by omega) _ _ _))
      · have d2 : decide (uu ≤ x) = false := decide_eq_false h2
        have HF := Lib.hid (show dropV ⟨s, t, o⟩ (k : Int) x = fineV ⟨withoutL s (k : Int), t.take k ++ t.drop (k + 1), o + x * zz⟩ by rw [HGS.out _ (decide_eq_true (by omega))]; rfl)
        have HXI := Lib.hid (show 0 ≤ x ∧ x < uu by omega)
        clear h1 h2
        go_wp2_with fail
        refine (HWI.out _ HG2.out).mono ?_
        rintro e w3 ⟨A1, c1, rfl, ho, hg⟩
        obtain ⟨n1, hn1⟩ : ∃ n1, n1 = (withoutL s (k : Int)).length := ⟨_, rfl⟩
        rw [← hn1] at ho ⊢
        have HN1 := Lib.hid hn1
        have HO := Lib.hid ho
        have HG3 := Lib.hid (grown_join HG2.out hg (.inr (by simp)))
        have HX3 := Lib.hid (HX2.out.grown hg (by simp))
        have HY3 := Lib.hid (HY2.out.grown hg (by simp))
        have HZ3 := Lib.hid hg.size
        clear x0 hg ho hn1 hc
        have x1 := HX3.out.get 1
        obtain ⟨A2, c2, hs2, hn2, he2⟩ := nums_head H'.out.1 H'.out.2.1 H'.out.2.2 (k := k) (by omega)
        obtain ⟨A3, c3, hs3, hn3, he3⟩ := nums_tail H'.out.1 H'.out.2.1 H'.out.2.2 (k := k + 1) (by omega)
        have HE2 := Lib.hid he2
        have HE3 := Lib.hid he3
        have HQS : Hid (∀ (w' : World), w.grownBy w' none → Nums w' w'.heap.size A2 k (t.take k) ∧ Nums w' w'.heap.size A3 (n' - (k + 1)) (t.drop (k + 1))) := Lib.hid fun w' hg => ⟨hn2.grow hg, hn3.grow hg⟩
        have hs3 : ∀ w' : World, (Instr.slice 22 (.slice (some ⟨b', off', none⟩) n' c') (some (.int .i64 ((k : Int) + 1))) none none).run Try.prog w' = .ok (.slice A3 (n' - (k + 1)) c3) w' := hs3
        clear hn2 hn3 he2 he3
        go_wp2_with fail
        go_region_held3 (fun w' => w'.cell? ⟨w.heap.size, 1, none⟩ = some (.slice (some ⟨b', off', none⟩) n' c')) (first | exact KEEP2.out | exact KEEP.out | go_keep) (first
        | (refine step_append_ints rfl (.tmp 36) (.tmp 40) rfl (by rfl) (by rfl) (base := w3.heap.size) (xs := []) (ints_empty (by first | exact new7a _ _ | exact new7b _ _ _ | exact new7c _ _ _) (by first | omega | (simp; done) | (simp; omega))) (HQS.out _ (by repeat (first | exact HG3.out | refine grown_drew ?_ | refine grown_alloc ?_ _))).1 HE2.out (by first | omega | (simp; done) | (simp; omega)) (by omega) ?_; intro B1 k1 w4 ho4 hg4; have hgc4 : Hid (w3.grownBy w4 none) := Lib.hid (grown_join (by repeat (first | exact grown_refl _ _ | refine grown_drew ?_ | refine grown_alloc ?_ _)) hg4.out (.inr fun b hb => by simp at hb; omega)); have hz4 := hgc4.out.size; have HG34 := Lib.hid (grown_join HG3.out hgc4.out (.inr (by simp))); have KEEP := Lib.hid (cells8b (HX3.out.grown hgc4.out (by simp))).1)
        | (refine step_append_ints rfl (.tmp 41) (.tmp 46) rfl (by rfl) (by rfl) (base := w3.heap.size) (xs := t.take k) (ints_as (by omega) (by simp) ho4.out) (HQS.out _ HG34.out).2 HE3.out (by first | omega | (simp; done) | (simp; omega)) (by omega) ?_; intro B2 k2 w5 ho5 hg5; have hgc5 : Hid (w3.grownBy w5 none) := Lib.hid (grown_join hgc4.out hg5.out (.inr fun b hb => (ho4.out.2.lt b (by rw [map_own]; exact hb)).1)); have KEEP2 := Lib.hid (cells8b (HX3.out.grown hgc5.out (by simp))).1))
        all_goals
          have HG5 := Lib.hid (grown_join HG3.out hgc5.out (.inr (by simp)))
          have HX5 := Lib.hid (HX3.out.grown hgc5.out (by simp))
          have HY5 := Lib.hid (HY3.out.grown hgc5.out (by simp))
          obtain ⟨m2, hm2⟩ : ∃ m2, m2 = k + (n' - (k + 1)) := ⟨_, rfl⟩
          clear x1
          go_wp2_with fail
          rw [← hm2]
          have HN1' := Lib.hid (show n1 ≤ 1048576 by
            rw [HN1.out]
            have h1 := H.out.len
            unfold withoutL
            split
            · simp; omega
            · simp)
          have HM2 := Lib.hid (show m2 ≤ 1048576 by omega)
          have HOL : Hid (OwnI w5 w3.heap.size B2 m2 k2 (t.take k ++ t.drop (k + 1))) := Lib.hid (ints_as (by omega) rfl ho5.out)
          have hb6 := times_in (a := x) (z := zz) HXI.out.1 (by have := HXI.out; have := HLN.out; omega) HST.out.1 HST.out.2
          have hoo := HOF.out
          have e1 : IntKind.i64.wrap (x * zz) = x * zz := IntWalk.i64_in _ (by omega)
          have e2 : IntKind.i64.wrap (o + x * zz) = o + x * zz := IntWalk.i64_in _ (by omega)
          have f1 : wrap64 (x * zz) = x * zz := IntWalk.wrap64_in _ (by omega)
          have f2 : wrap64 (o + x * zz) = o + x * zz := IntWalk.wrap64_in _ (by omega)
          have HSB := Lib.hid (show w.heap.size + 1 < w2.heap.size by have := HSZ.out; have := HZ2.out; omega)
          have HSC := Lib.hid (show w.heap.size + 1 < w3.heap.size by have := HSZ.out; have := HZ2.out; have := HZ3.out; omega)
          obtain ⟨rb, hrb⟩ : ∃ rb, rightV ⟨withoutL s (k : Int), t.take k ++ t.drop (k + 1), o + x * zz⟩ = rb := ⟨_, rfl⟩
          have HFN : Hid (∀ w', NumsF w' A1 n1 c1 (withoutL s (k : Int)) → NumsF w' B2 m2 k2 (t.take k ++ t.drop (k + 1)) → Calls Try.prog 42 #[.agg #[.slice A1 n1 c1, .slice B2 m2 k2, .int .i64 (o + x * zz)]] w' (TellG (.tuple #[.agg #[.slice (fineA rb A1) (fineN rb n1) (fineN rb c1), .slice (fineA rb B2) (fineN rb m2) (fineN rb k2), .int .i64 (fineI rb (o + x * zz))], .bool rb]) w')) := Lib.hid fun w' h3 h4 => by rw [← hrb]; exact ref8fine_any A1 B2 n1 c1 m2 k2 _ _ _ w' h3 h4 HN1'.out HM2.out
          have HRB := Lib.hid hrb
          clear hrb hb6 hoo hm2 ho5 ho4 hg4 hg5
          obtain ⟨y1, y2, y3⟩ := cells8c HX5.out (H'.out.grow HG5.out) hkn' HZZ.out
          go_region_held3 (fun w' => w'.cell? ⟨w.heap.size, 1, none⟩ = some (.slice (some ⟨b', off', none⟩) n' c') ∧ w'.cell? ⟨w.heap.size, 2, none⟩ = some (.int .i64 o) ∧ w'.cell? ⟨b', off' + k, none⟩ = some (.int .i64 zz)) (first | exact KEEP5.out | exact KEEP4.out | go_keep) (first
            | (go_at_call 42; refine (HFN.out _ ((HO.out.grow hgc5.out).drewN _).numsF (HOL.out.drewN _).numsF).mono ?_; rintro e w6 ⟨rfl, hg6⟩; have HG6 := Lib.hid (grown_join (grown_drewN HG5.out _) hg6 (.inr (by simp))); have HX6 := Lib.hid ((HX5.out.drewN _).grown hg6 (by simp)); have HY6 := (HY5.out.drewN _).grown hg6 (by simp); have KEEP4 := Lib.hid (cells8c HX6.out (H'.out.grow HG6.out) hkn' HZZ.out); have HG7 := Lib.hid (grown_three HG6.out (b := w.heap.size + 1) (by omega) (.slice (fineA rb A1) (fineN rb n1) (fineN rb c1)) (.slice (fineA rb B2) (fineN rb m2) (fineN rb k2)) (.int .i64 (fineI rb (o + x * zz)))); have KEEP5 := Lib.hid (cells8c (box_three HX6.out (g := w.heap.size + 1) (by omega) (.slice (fineA rb A1) (fineN rb n1) (fineN rb c1)) (.slice (fineA rb B2) (fineN rb m2) (fineN rb k2)) (.int .i64 (fineI rb (o + x * zz)))) (H'.out.grow HG7.out) hkn' HZZ.out); obtain ⟨p0, p1, p2, g0, g1, g2, d0, d1, d2⟩ := HY6.three8 (.slice (fineA rb A1) (fineN rb n1) (fineN rb c1)) (.slice (fineA rb B2) (fineN rb m2) (fineN rb k2)) (.int .i64 (fineI rb (o + x * zz))); have HFIN := Lib.hid (fine_gave HRB.out (own_three (((HO.out.grow hgc5.out).drewN _).grow hg6) HSB.out (.slice (fineA rb A1) (fineN rb n1) (fineN rb c1)) (.slice (fineA rb B2) (fineN rb m2) (fineN rb k2)) (.int .i64 (fineI rb (o + x * zz)))).numsF (own_three ((HOL.out.drewN _).grow hg6) HSC.out (.slice (fineA rb A1) (fineN rb n1) (fineN rb c1)) (.slice (fineA rb B2) (fineN rb m2) (fineN rb k2)) (.int .i64 (fineI rb (o + x * zz)))).numsF HG7.out); clear hg6 HY6))
          all_goals
            go_wp2_with fail
            exact bodyPost_ret (v := .tuple #[.agg #[.slice (fineA rb A1) (fineN rb n1) (fineN rb c1), .slice (fineA rb B2) (fineN rb m2) (fineN rb k2), .int .i64 (fineI rb (o + x * zz))], .bool rb]) (by simp [results, Try.results27, go_sem, d0, d1, d2]) rfl (by rw [HF.out]; exact HFIN.out)
end Go.Proofs.Ytkpfhjjojchdlaa
