/-
  Layer 8: the reference's Window.
-/
import Derived.Test.YtkpfhjjojchdlaaRef8i
namespace Go.Proofs.Ytkpfhjjojchdlaa
open Go.ChangeShapes Go.WideShapes Go.ChangeAt Go.RowKit
set_option linter.unusedVariables false
set_option maxRecDepth 100000

theorem cells8c {w : World} {g : Nat} {T : TypeId} {x y z : Value} {b off n c k : Nat} {s : List Int} {u : Int} (hb : Box w g T #[x, y, z]) (h : NumsF w (some ⟨b, off, none⟩) n c s) (hk : k < n) (hu : s.getD k 0 = u) : w.cell? ⟨g, 1, none⟩ = some y ∧ w.cell? ⟨g, 2, none⟩ = some z ∧ w.cell? ⟨b, off + k, none⟩ = some (.int .i64 u) := ⟨by rw [hb.get]; rfl, by rw [hb.get]; rfl, by rw [← hu]; exact nums_cell h hk⟩
set_option maxHeartbeats 2000000 in
theorem ref8Window_any (A A' : Option Addr) (n c n' c' : Nat) (s t : List Int) (o i x : Int) (w : World) (h : NumsF w A n c s) (h' : NumsF w A' n' c' t) (hn : n ≤ 1048576) (hn' : n' ≤ 1048576) :
    Calls Try.prog 31 #[.agg #[.slice A n c, .slice A' n' c', .int .i64 o], .int .i64 i, .int .i64 x] w (GaveVP (windowV ⟨s, t, o⟩ i x) w) := by
  have HA := Lib.hid (fun w' (hg : w.grownBy w' none) => ref8axis_any A A' n c n' c' s t o i w' (h.grow hg) (h'.grow hg) hn hn')
  have HWI := Lib.hid (fun y w' (hg : w.grownBy w' none) => ref7With_any A n c s y x w' (h.1.grow hg) hn h.2)
  have H := Lib.hid h
  have H' := Lib.hid h'
  obtain ⟨w1, hw1⟩ : ∃ w1, w1 = (w.alloc (.cells #[.slice A n c, .slice A' n' c', .int .i64 o] 24)).alloc (.cells #[.slice none 0 0, .slice none 0 0, .int .i64 0] 24) := ⟨_, rfl⟩
  have hb := boxes8 w 24 #[.slice A n c, .slice A' n' c', .int .i64 o] #[.slice none 0 0, .slice none 0 0, .int .i64 0]
  rw [← hw1] at hb
  obtain ⟨hx, hy, hg1⟩ := hb
  have HX := Lib.hid hx
  have HY := Lib.hid hy
  have HG1 := Lib.hid hg1
  have HW1 := Lib.hid hw1
  have HSZ := Lib.hid (show w.heap.size + 1 < w1.heap.size from hy.small)
  have HGR := Lib.hid (show ∀ a b d, axisB ⟨s, t, o⟩ i = a → decide (1 ≤ x ∧ x ≤ s.getD i.toNat 0) = b → withB s (i + 1) x = d → windowV ⟨s, t, o⟩ i x = if (a && b && d) = true then fineV ⟨(withL s (i + 1) x).set i.toNat (s.getD i.toNat 0 - x + 1), putL t (i.toNat + 1) (t.getD i.toNat 0), o⟩ else (zeroV, false) from fun a b d ha hb hd => by unfold windowV; rw [ha, hb, hd])
  clear h h' hw1 hx hy hg1
  go_enter Try.func31, Try.ntmps31
  go_upto_region 1 with fail
  rw [← HW1.out]
  have x0 := HX.out.get 0
  have x1 := HX.out.get 1
  have x2 := HX.out.get 2
  cases hr : axisB ⟨s, t, o⟩ i with
  | false =>
    rw [hr] at HA
    have HF := Lib.hid (show windowV ⟨s, t, o⟩ i x = (zeroV, false) by rw [HGR.out _ _ _ hr rfl rfl]; rfl)
    clear hr
    go_wp2_with fail
    refine (HA.out _ HG1.out).mono ?_
    rintro e w3 ⟨rfl, hg⟩
    have HG3 := Lib.hid (grown_join HG1.out hg (.inr (by simp)))
    obtain ⟨q0, q1, q2, f0, f1, f2, d0, d1, d2⟩ := (HY.out.grown hg (by simp)).three8 (.slice none 0 0) (.slice none 0 0) (.int .i64 0)
    clear x0 x1 x2 hg
    go_wp2_with fail
    exact bodyPost_ret (v := .tuple #[.agg #[.slice none 0 0, .slice none 0 0, .int .i64 0], .bool false]) (by simp [results, Try.results31, go_sem, d0, d1, d2]) rfl (gaveVP_no HF.out (grown_three HG3.out (by omega) _ _ _))
  | true =>
    rw [hr] at HA
    have HAX := Lib.hid (axis_all hr)
    obtain ⟨k, rfl⟩ : ∃ k : Nat, i = k := ⟨i.toNat, by have := HAX.out.2; omega⟩
    have hkn : k < n := by have := HAX.out.2.2; rw [show (⟨s, t, o⟩ : Vw).sh.length = n from H.out.len] at this; omega
    have hkn' : k < n' := by rw [← H'.out.len, (rightV_all HAX.out.1).2.1, show (⟨s, t, o⟩ : Vw).sh.length = n from H.out.len]; exact hkn
    have HGS : Hid (∀ b d, decide (1 ≤ x ∧ x ≤ s.getD k 0) = b → withB s ((k : Int) + 1) x = d → windowV ⟨s, t, o⟩ (k : Int) x = if (b && d) = true then fineV ⟨(withL s ((k : Int) + 1) x).set k (s.getD k 0 - x + 1), putL t (k + 1) (t.getD k 0), o⟩ else (zeroV, false)) := Lib.hid fun b d hb hd => by rw [HGR.out _ _ _ hr hb hd]; rfl
    have HLN := Lib.hid (show 0 ≤ s.getD k 0 ∧ s.getD k 0 ≤ 1048576 from rightV_len HAX.out.1 (i := k) (by show k < s.length; rw [H.out.len]; exact hkn))
    have HDM := Lib.hid (show s.length ≤ 6 ∧ t.length = s.length from ⟨rightV_dims HAX.out.1, (rightV_all HAX.out.1).2.1⟩)
    clear hr
    go_wp2_with fail
    refine (HA.out _ HG1.out).mono ?_
    rintro e w2 ⟨rfl, hg⟩
    have HG2 := Lib.hid (grown_join HG1.out hg (.inr (by simp)))
    have HX2 := Lib.hid (HX.out.grown hg (by simp))
    have HY2 := Lib.hid (HY.out.grown hg (by simp))
    have HZ2 := Lib.hid hg.size
    clear x0 x1 x2 hg
    have x0 := HX2.out.get 0
    obtain ⟨b, off, rfl, _, hc⟩ := (H.out.grow HG2.out).1.2.at_ hkn
    obtain ⟨b', off', rfl, _, hc'⟩ := (H'.out.grow HG2.out).1.2.at_ hkn'
    clear hc'
    generalize hu : s.getD k 0 = uu at *
    generalize hz : t.getD k 0 = zz at *
    have HU := Lib.hid hu
    have HZZ := Lib.hid hz
    clear hu hz
    have e0 : IntKind.i64.wrap ((k : Int) + 1) = (k : Int) + 1 := IntWalk.i64_in _ (by omega)
    have f0 : wrap64 ((k : Int) + 1) = (k : Int) + 1 := IntWalk.wrap64_in _ (by omega)
    by_cases h1 : x < 1
    · have d1 : decide (x < 1) = true := decide_eq_true h1
      have HF := Lib.hid (show windowV ⟨s, t, o⟩ (k : Int) x = (zeroV, false) by rw [HGS.out _ _ (decide_eq_false (by omega)) rfl]; rfl)
      obtain ⟨q0, q1, q2, g0, g1, g2, p0, p1, p2⟩ := HY2.out.three8 (.slice none 0 0) (.slice none 0 0) (.int .i64 0)
      clear h1
      go_wp2_with fail
      exact bodyPost_ret (v := .tuple #[.agg #[.slice none 0 0, .slice none 0 0, .int .i64 0], .bool false]) (by simp [results, Try.results31, go_sem, p0, p1, p2]) rfl (gaveVP_no HF.out (grown_three HG2.out (by omega) _ _ _))
    · have d1 : decide (x < 1) = false := decide_eq_false h1
      by_cases h2 : uu < x
      · have d2 : decide (uu < x) = true := decide_eq_true h2
        have HF := Lib.hid (show windowV ⟨s, t, o⟩ (k : Int) x = (zeroV, false) by rw [HGS.out _ _ (decide_eq_false (by omega)) rfl]; rfl)
        obtain ⟨q0, q1, q2, g0, g1, g2, p0, p1, p2⟩ := HY2.out.three8 (.slice none 0 0) (.slice none 0 0) (.int .i64 0)
        clear h1 h2
        go_wp2_with fail
        exact bodyPost_ret (v := .tuple #[.agg #[.slice none 0 0, .slice none 0 0, .int .i64 0], .bool false]) (by simp [results, Try.results31, go_sem, p0, p1, p2]) rfl (gaveVP_no HF.out (grown_three HG2.out (by omega) _ _ _))
      · have d2 : decide (uu < x) = false := decide_eq_false h2
        have HGT : Hid (∀ d, withB s ((k : Int) + 1) x = d → windowV ⟨s, t, o⟩ (k : Int) x = if d = true then fineV ⟨(withL s ((k : Int) + 1) x).set k (uu - x + 1), putL t (k + 1) zz, o⟩ else (zeroV, false)) := Lib.hid fun d hd => by rw [HGS.out _ _ (decide_eq_true (by omega)) hd]; rfl
        have HXI := Lib.hid (show 1 ≤ x ∧ x ≤ uu by omega)
        clear h1 h2
        go_wp2_with fail
        refine (HWI.out _ _ HG2.out).mono ?_
        rintro e w3 ⟨A1, c1, rfl, ho, hg⟩
        obtain ⟨n1, hn1⟩ : ∃ n1, n1 = (withL s ((k : Int) + 1) x).length := ⟨_, rfl⟩
        rw [← hn1] at ho ⊢
        have HN1 := Lib.hid hn1
        have HO := Lib.hid ho
        have HG3 := Lib.hid (grown_join HG2.out hg (.inr (by simp)))
        have HX3 := Lib.hid (HX2.out.grown hg (by simp))
        have HY3 := Lib.hid (HY2.out.grown hg (by simp))
        have HZ3 := Lib.hid hg.size
        clear x0 hg ho hn1 hc
        cases hwb : withB s ((k : Int) + 1) x with
        | false =>
          have HF := Lib.hid (show windowV ⟨s, t, o⟩ (k : Int) x = (zeroV, false) by rw [HGT.out _ hwb]; rfl)
          obtain ⟨q0, q1, q2, g0, g1, g2, p0, p1, p2⟩ := HY3.out.three8 (.slice none 0 0) (.slice none 0 0) (.int .i64 0)
          clear hwb
          go_wp2_with fail
          exact bodyPost_ret (v := .tuple #[.agg #[.slice none 0 0, .slice none 0 0, .int .i64 0], .bool false]) (by simp [results, Try.results31, go_sem, p0, p1, p2]) rfl (gaveVP_no HF.out (grown_three HG3.out (by omega) _ _ _))
        | true =>
          have HF := Lib.hid (show windowV ⟨s, t, o⟩ (k : Int) x = fineV ⟨(withL s ((k : Int) + 1) x).set k (uu - x + 1), putL t (k + 1) zz, o⟩ by rw [HGT.out _ hwb]; rfl)
          have HWA := Lib.hid (with_parts hwb)
          have HN1' := Lib.hid (show k < n1 ∧ n1 ≤ 1048576 by
            have h1 := HN1.out
            have h2 := HWA.out.2.2
            have h3 := H.out.len
            have h4 := HDM.out
            have h5 := HWA.out.2.1
            rw [h2] at h1
            simp at h1
            omega)
          obtain ⟨r, rfl, hbr, q1, q2⟩ := HO.out.at_ HN1'.out.1
          have x0 := HX3.out.get 0
          have hc := nums_cell (H.out.grow HG3.out) hkn
          rw [HU.out] at hc
          have hxi := HXI.out
          have hlu := HLN.out
          have e1 : IntKind.i64.wrap (uu - x) = uu - x := IntWalk.i64_in _ (by omega)
          have e2 : IntKind.i64.wrap (uu - x + 1) = uu - x + 1 := IntWalk.i64_in _ (by omega)
          have f1 : wrap64 (uu - x) = uu - x := IntWalk.wrap64_in _ (by omega)
          have f2 : wrap64 (uu - x + 1) = uu - x + 1 := IntWalk.wrap64_in _ (by omega)
          have hk1 : k < n1 := HN1'.out.1
          clear hwb hxi hlu
          go_wp2_with fail
          obtain ⟨w4', hw4⟩ : ∃ w4', w4' = w3.setCell ⟨r, k, none⟩ (.int .i64 (uu - x + 1)) := ⟨_, rfl⟩
          have hne : w.heap.size + 1 < r := by have := HSZ.out; have := HZ2.out; omega
          have HGD : Hid (w.grownBy w4' none) := Lib.hid (by rw [hw4]; exact grown_put HG3.out (.inr (by omega)) _)
          have HXD : Hid (Box w4' _ _ _) := Lib.hid (by rw [hw4]; exact HX3.out.grown (grown_put (grown_refl w3 (some r)) (.inl rfl) _) (fun e => by injection e; omega))
          have HYD : Hid (Box w4' _ _ _) := Lib.hid (by rw [hw4]; exact HY3.out.grown (grown_put (grown_refl w3 (some r)) (.inl rfl) _) (fun e => by injection e; omega))
          have HOD : Hid (OwnI w4' w2.heap.size (some ⟨r, 0, none⟩) n1 c1 ((withL s ((k : Int) + 1) x).set k (uu - x + 1))) := Lib.hid (by rw [hw4]; exact HO.out.put k _)
          have HSB := Lib.hid (show w.heap.size + 1 < w2.heap.size by have := HSZ.out; have := HZ2.out; omega)
          have HSD := Lib.hid (show w.heap.size + 1 < w4'.heap.size from HYD.out.small)
          have HPL := Lib.hid (show (putL t (k + 1) zz).length ≤ 1048576 by
            have h4 := HDM.out
            unfold putL
            simp
            omega)
          rw [← hw4]
          clear hw4 x0 hc q1 q2
          obtain ⟨y1, y2, y3⟩ := cells8c HXD.out (H'.out.grow HGD.out) hkn' HZZ.out
          obtain ⟨rb, hrb⟩ : ∃ rb, rightV ⟨(withL s ((k : Int) + 1) x).set k (uu - x + 1), putL t (k + 1) zz, o⟩ = rb := ⟨_, rfl⟩
          have HFN : Hid (∀ A3 n3 c3 w', NumsF w' (some ⟨r, 0, none⟩) n1 c1 ((withL s ((k : Int) + 1) x).set k (uu - x + 1)) → NumsF w' A3 n3 c3 (putL t (k + 1) zz) → n3 ≤ 1048576 → Calls Try.prog 42 #[.agg #[.slice (some ⟨r, 0, none⟩) n1 c1, .slice A3 n3 c3, .int .i64 o]] w' (TellG (.tuple #[.agg #[.slice (fineA rb (some ⟨r, 0, none⟩)) (fineN rb n1) (fineN rb c1), .slice (fineA rb A3) (fineN rb n3) (fineN rb c3), .int .i64 (fineI rb o)], .bool rb]) w')) := Lib.hid fun A3 n3 c3 w' h3 h4 hn3 => by rw [← hrb]; exact ref8fine_any (some ⟨r, 0, none⟩) A3 n1 c1 n3 c3 _ _ _ w' h3 h4 HN1'.out.2 hn3
          have HIN : Hid (∀ w', w.grownBy w' none → Calls Try.prog 62 #[.slice (some ⟨b', off', none⟩) n' c', .int .i64 ((k : Int) + 1), .int .i64 zz] w' (GaveInts (putL t (k + 1) zz) w')) := Lib.hid fun w' hg => ref8insert_any (some ⟨b', off', none⟩) n' c' (k + 1) t zz w' (H'.out.grow hg) hn' hkn'
          have HRB := Lib.hid hrb
          clear hrb
          go_region_held3 (fun w' => w'.cell? ⟨w.heap.size, 1, none⟩ = some (.slice (some ⟨b', off', none⟩) n' c') ∧ w'.cell? ⟨w.heap.size, 2, none⟩ = some (.int .i64 o) ∧ w'.cell? ⟨b', off' + k, none⟩ = some (.int .i64 zz)) (first | exact KEEP3.out | exact KEEP2.out | exact KEEP.out | go_keep) (first
            | (go_at_call 42; refine (HFN.out A3 n3 c3 _ (HOD.out.grow HG43.out).numsF HO4.out.numsF HN3.out).mono ?_; rintro e w5 ⟨rfl, hg5⟩; have HG5 := Lib.hid (grown_join HG4.out hg5 (.inr (by simp))); have HX5 := Lib.hid (HX4.out.grown hg5 (by simp)); have HY5 := HY4.out.grown hg5 (by simp); have KEEP2 := Lib.hid (cells8c HX5.out (H'.out.grow HG5.out) hkn' HZZ.out); have HG6 := Lib.hid (grown_three HG5.out (b := w.heap.size + 1) (by omega) (.slice (fineA rb (some ⟨r, 0, none⟩)) (fineN rb n1) (fineN rb c1)) (.slice (fineA rb A3) (fineN rb n3) (fineN rb c3)) (.int .i64 (fineI rb o))); have KEEP3 := Lib.hid (cells8c (box_three HX5.out (g := w.heap.size + 1) (by omega) (.slice (fineA rb (some ⟨r, 0, none⟩)) (fineN rb n1) (fineN rb c1)) (.slice (fineA rb A3) (fineN rb n3) (fineN rb c3)) (.int .i64 (fineI rb o))) (H'.out.grow HG6.out) hkn' HZZ.out); obtain ⟨p0, p1, p2, g0, g1, g2, d0, d1, d2⟩ := HY5.three8 (.slice (fineA rb (some ⟨r, 0, none⟩)) (fineN rb n1) (fineN rb c1)) (.slice (fineA rb A3) (fineN rb n3) (fineN rb c3)) (.int .i64 (fineI rb o)); have HFIN := Lib.hid (fine_gave HRB.out (own_three ((HOD.out.grow HG43.out).grow hg5) HSB.out (.slice (fineA rb (some ⟨r, 0, none⟩)) (fineN rb n1) (fineN rb c1)) (.slice (fineA rb A3) (fineN rb n3) (fineN rb c3)) (.int .i64 (fineI rb o))).numsF (own_three (HO4.out.grow hg5) HSD.out (.slice (fineA rb (some ⟨r, 0, none⟩)) (fineN rb n1) (fineN rb c1)) (.slice (fineA rb A3) (fineN rb n3) (fineN rb c3)) (.int .i64 (fineI rb o))).numsF HG6.out); clear hg5 HY5)
            | (go_at_call 62; refine (HIN.out _ (grown_drewN HGD.out _)).mono ?_; rintro e w4 ⟨A3, c3, rfl, ho4, hg4⟩; have hn3 := HPL.out; obtain ⟨n3, hq3⟩ : ∃ n3, n3 = (putL t (k + 1) zz).length := ⟨_, rfl⟩; rw [← hq3] at ho4 hn3 ⊢; have HN3 := Lib.hid hn3; have HO4 : Hid (OwnI w4 w4'.heap.size A3 n3 c3 (putL t (k + 1) zz)) := Lib.hid ho4; have HG43 : Hid (w4'.grownBy w4 none) := Lib.hid (grown_join (grown_drewN (grown_refl w4' none) _) hg4 (.inr (by simp))); have HG4 := Lib.hid (grown_join HGD.out HG43.out (.inr (by simp))); have HX4 := Lib.hid (HXD.out.grown HG43.out (by simp)); have HY4 := Lib.hid (HYD.out.grown HG43.out (by simp)); have KEEP := Lib.hid (cells8c HX4.out (H'.out.grow HG4.out) hkn' HZZ.out); clear ho4 hg4 hn3 hq3))
          all_goals
            go_wp2_with fail
            exact bodyPost_ret (v := .tuple #[.agg #[.slice (fineA rb (some ⟨r, 0, none⟩)) (fineN rb n1) (fineN rb c1), .slice (fineA rb A3) (fineN rb n3) (fineN rb c3), .int .i64 (fineI rb o)], .bool rb]) (by simp [results, Try.results31, go_sem, d0, d1, d2]) rfl (by rw [HF.out]; exact HFIN.out)
end Go.Proofs.Ytkpfhjjojchdlaa
