/-
  Layer 8: the reference's Permute.
-/
import Derived.Test.YtkpfhjjojchdlaaRef8e
namespace Go.Proofs.Ytkpfhjjojchdlaa
open Go.ChangeShapes Go.WideShapes Go.ChangeAt Go.RowKit
set_option linter.unusedVariables false
set_option maxRecDepth 100000

theorem front_set {q : List Int} {f : Int → Int} {x n : Nat} (hn : q.length = n) (hx : x < n) : ((q.take x).map f ++ List.replicate (n - x) 0).set x (f (q.getD x 0)) = (q.take (x + 1)).map f ++ List.replicate (n - (x + 1)) 0 := by
  subst hn
  have hl : ((q.take x).map f).length = x := by simp; omega
  rw [List.set_append_right _ _ (by omega), hl, Nat.sub_self, show q.length - x = (q.length - (x + 1)) + 1 by omega, List.replicate_succ, List.set_cons_zero, List.take_succ_eq_append_getElem hx, List.map_append]
  simp [List.getD, hx]
theorem perm_all8 {s q : List Int} (h : permB s q = true) : q.length = s.length ∧ ∀ i, i < s.length → 0 ≤ q.getD i 0 ∧ q.getD i 0 < s.length := by
  unfold permB at h
  simp only [Bool.and_eq_true, decide_eq_true_eq] at h
  exact ⟨h.1.2, fun i hi => (h.2 i hi).1⟩
theorem perm_len8 {s q : List Int} (h : permB s q = true) : (permL s q).length = s.length := by
  unfold permL
  rw [if_pos h, List.length_map]
  exact (perm_all8 h).1
set_option maxHeartbeats 4000000 in
theorem ref8Permute_any (A A' A0 : Option Addr) (n c n' c' n0 c0 : Nat) (s t q : List Int) (o : Int) (w : World) (h : NumsF w A n c s) (h' : NumsF w A' n' c' t) (h0 : NumsF w A0 n0 c0 q) (hn : n ≤ 1048576) (hn' : n' ≤ 1048576) (hn0 : n0 ≤ 1048576) :
    Calls Try.prog 25 #[.agg #[.slice A n c, .slice A' n' c', .int .i64 o], .slice A0 n0 c0] w (GaveVP (permV ⟨s, t, o⟩ q) w) := by
  have HR := Lib.hid (fun w' (hg : w.grownBy w' none) => ref8Right_any A A' n c n' c' s t o w' (h.1.grow hg) (h'.1.grow hg) hn hn')
  have HPE := Lib.hid (fun w' (hg : w.grownBy w' none) => ref7Permute_any A A0 n c n0 c0 s q w' (h.1.grow hg) (h0.1.grow hg) hn hn0)
  have H := Lib.hid h
  have H' := Lib.hid h'
  have H0 := Lib.hid h0
  obtain ⟨w1, hw1⟩ : ∃ w1, w1 = (w.alloc (.cells #[.slice A n c, .slice A' n' c', .int .i64 o] 24)).alloc (.cells #[.slice none 0 0, .slice none 0 0, .int .i64 0] 24) := ⟨_, rfl⟩
  have hb := boxes8 w 24 #[.slice A n c, .slice A' n' c', .int .i64 o] #[.slice none 0 0, .slice none 0 0, .int .i64 0]
  rw [← hw1] at hb
  obtain ⟨hx, hy, hg1⟩ := hb
  have HX := Lib.hid hx
  have HY := Lib.hid hy
  have HG1 := Lib.hid hg1
  have HW1 := Lib.hid hw1
  have HSZ := Lib.hid (show w.heap.size + 1 < w1.heap.size from hy.small)
  have HGR := Lib.hid (show ∀ b d, rightV ⟨s, t, o⟩ = b → permB s q = d → permV ⟨s, t, o⟩ q = if (b && d) = true then fineV ⟨permL s q, q.map (fun a : Int => t.getD a.toNat 0), o⟩ else (zeroV, false) from fun b d hb hd => by unfold permV; rw [hb, hd])
  clear h h' h0 hw1 hx hy hg1
  go_enter Try.func25, Try.ntmps25
  go_upto_region 1 with fail
  rw [← HW1.out]
  have x0 := HX.out.get 0
  go_wp2_with fail
  refine (HPE.out _ HG1.out).mono ?_
  rintro e w2 ⟨A1, c1, rfl, ho, hg⟩
  obtain ⟨n1, hn1⟩ : ∃ n1, n1 = (permL s q).length := ⟨_, rfl⟩
  rw [← hn1] at ho ⊢
  have HN1 := Lib.hid hn1
  have HO := Lib.hid ho
  have HG2 := Lib.hid (grown_join HG1.out hg (.inr (by simp)))
  have HX2 := Lib.hid (HX.out.grown hg (by simp))
  have HY2 := Lib.hid (HY.out.grown hg (by simp))
  have HZ2 := Lib.hid hg.size
  clear x0 hg ho hn1
  have x0 := HX2.out.get 0
  have x1 := HX2.out.get 1
  have x2 := HX2.out.get 2
  cases hr : rightV ⟨s, t, o⟩ with
  | false =>
    rw [hr] at HR
    have HF := Lib.hid (show permV ⟨s, t, o⟩ q = (zeroV, false) by rw [HGR.out _ _ hr rfl]; rfl)
    clear hr
    go_wp2_with fail
    refine (HR.out _ HG2.out).mono ?_
    rintro e w3 ⟨rfl, hg⟩
    have HG3 := Lib.hid (grown_join HG2.out hg (.inr (by simp)))
    obtain ⟨q0, q1, q2, f0, f1, f2, d0, d1, d2⟩ := (HY2.out.grown hg (by simp)).three8 (.slice none 0 0) (.slice none 0 0) (.int .i64 0)
    clear x0 x1 x2 hg
    go_wp2_with fail
    exact bodyPost_ret (v := .tuple #[.agg #[.slice none 0 0, .slice none 0 0, .int .i64 0], .bool false]) (by simp [results, Try.results25, go_sem, d0, d1, d2]) rfl (gaveVP_no HF.out (grown_three HG3.out (by omega) _ _ _))
  | true =>
    rw [hr] at HR
    cases hpb : permB s q with
    | false =>
      have HF := Lib.hid (show permV ⟨s, t, o⟩ q = (zeroV, false) by rw [HGR.out _ _ hr hpb]; rfl)
      clear hr hpb
      go_wp2_with fail
      refine (HR.out _ HG2.out).mono ?_
      rintro e w3 ⟨rfl, hg⟩
      have HG3 := Lib.hid (grown_join HG2.out hg (.inr (by simp)))
      obtain ⟨q0, q1, q2, f0, f1, f2, d0, d1, d2⟩ := (HY2.out.grown hg (by simp)).three8 (.slice none 0 0) (.slice none 0 0) (.int .i64 0)
      clear x0 x1 x2 hg
      go_wp2_with fail
      exact bodyPost_ret (v := .tuple #[.agg #[.slice none 0 0, .slice none 0 0, .int .i64 0], .bool false]) (by simp [results, Try.results25, go_sem, d0, d1, d2]) rfl (gaveVP_no HF.out (grown_three HG3.out (by omega) _ _ _))
    | true =>
      have HF := Lib.hid (show permV ⟨s, t, o⟩ q = fineV ⟨permL s q, q.map (fun a : Int => t.getD a.toNat 0), o⟩ by rw [HGR.out _ _ hr hpb]; rfl)
      have HPA := Lib.hid (perm_all8 hpb)
      have HPN := Lib.hid (perm_len8 hpb)
      have HRT := Lib.hid hr
      have h6 : n0 ≤ 6 := by
        have h1 := rightV_dims HRT.out
        have h2 := HPA.out.1
        have h3 := H0.out.len
        dsimp only at h1
        omega
      have HNN := Lib.hid (show n = n0 ∧ n' = n0 by
        have h1 := (rightV_all HRT.out).2.1
        have h2 := HPA.out.1
        have h3 := H0.out.len
        have h4 := H.out.len
        have h5 := H'.out.len
        dsimp only at h1
        omega)
      clear hr hpb
      go_wp2_with fail
      refine (HR.out _ HG2.out).mono ?_
      rintro e w3 ⟨rfl, hg⟩
      have HG3 := Lib.hid (grown_join HG2.out hg (.inr (by simp)))
      have HX3 := Lib.hid (HX2.out.grown hg (by simp))
      have HY3 := Lib.hid (HY2.out.grown hg (by simp))
      have HO3 := Lib.hid (HO.out.grow hg)
      have HZ3 := Lib.hid hg.size
      obtain ⟨Z, hmk, hZ⟩ := ints_zeros w3 n0 (by omega)
      have HZ := Lib.hid hZ
      clear x0 x1 x2 hg hZ
      go_wp2_with fail
      go_loopw [9] (fun i wr => ∃ x : Nat, x ≤ n0 ∧ i = .int .i64 x ∧ OwnI wr w3.heap.size (some ⟨w3.heap.size, 0, none⟩) n0 n0 ((q.take x).map (fun a : Int => t.getD a.toNat 0) ++ List.replicate (n0 - x) 0) ∧ w3.grownBy wr none) (fun i _ => n0 - (intOf i).toNat)
      case atStart => exact ⟨0, Nat.zero_le _, rfl, by simpa using HZ.out w3 _ (Nat.le_refl _), World.grownBy_alloc _ _ _⟩
      case round =>
        obtain ⟨x, hx, rfl, ho, hg⟩ := hrel
        have HOX := Lib.hid ho
        have HG := Lib.hid hg
        have HGW := Lib.hid (grown_join HG3.out hg (.inr (by simp)))
        have HXW := Lib.hid (HX3.out.grown hg (by simp))
        have HYW := Lib.hid (HY3.out.grown hg (by simp))
        clear ho hg
        by_cases hlt : x < n0
        · obtain ⟨b0, off0, rfl, _, hc0⟩ := (H0.out.grow HGW.out).1.2.at_ hlt
          obtain ⟨b0', off0', he0, hb0, _⟩ := H0.out.1.2.at_ hlt
          injection he0 with he0
          injection he0 with he0 he0'
          subst he0; subst he0'
          have hbq := HPA.out.2 x (by have h1 := H.out.len; have h2 := HNN.out; omega)
          have HFS := Lib.hid (front_set (q := q) (f := fun a : Int => t.getD a.toNat 0) (x := x) (n := n0) H0.out.len hlt)
          generalize hqa : q.getD x 0 = a at *
          obtain ⟨y, rfl⟩ : ∃ y : Nat, a = (y : Int) := ⟨a.toNat, by omega⟩
          have hy : y < n' := by have h1 := H.out.len; have h2 := HNN.out; omega
          obtain ⟨b', off', rfl, _, hc'⟩ := (H'.out.grow HGW.out).1.2.at_ hy
          obtain ⟨b1', off1', he1, hb1, _⟩ := H'.out.1.2.at_ hy
          injection he1 with he1
          injection he1 with he1 he1'
          subst he1; subst he1'
          have hw3 : w.heap.size + 1 < w3.heap.size := by have := HSZ.out; have := HZ2.out; have := HZ3.out; omega
          have hne0 : b0 ≠ w3.heap.size := by omega
          have hne1 : b' ≠ w3.heap.size := by omega
          have hne2 : w.heap.size ≠ w3.heap.size := by omega
          obtain ⟨r, hre, _, k0, k1⟩ := HOX.out.at_ hlt
          injection hre with hre
          injection hre with hre
          subst hre
          have HFS2 : Hid (_ = _) := Lib.hid (show ((q.take x).map (fun a : Int => t.getD a.toNat 0) ++ List.replicate (n0 - x) 0).set x (t.getD y 0) = _ from HFS.out)
          have HPU := Lib.hid (HOX.out.put x (t.getD y 0))
          have HGP := Lib.hid (grown_put (j := x) HG.out (.inr (Nat.le_refl _)) (.int .i64 (t.getD y 0)))
          rw [HFS2.out] at HPU
          generalize t.getD y 0 = z at *
          have x1 := HXW.out.get 1
          have d1 : decide ((y : Int) < 0) = false := by simp
          have d2 : decide ((n' : Int) ≤ (y : Int)) = false := decide_eq_false (by omega)
          have d3 : decide (n' ≤ y) = false := decide_eq_false (by omega)
          have KEEP := Lib.hid (show ∀ m, ((wr.drewN m).setCell ⟨w3.heap.size, x, none⟩ (.int .i64 z)).cell? ⟨w.heap.size, 1, none⟩ = some (.slice (some ⟨b', off', none⟩) n' c') ∧ ((wr.drewN m).setCell ⟨w3.heap.size, x, none⟩ (.int .i64 z)).cell? ⟨b0, off0 + x, none⟩ = some (.int .i64 (y : Int)) ∧ ((wr.drewN m).setCell ⟨w3.heap.size, x, none⟩ (.int .i64 z)).cell? ⟨b', off' + y, none⟩ = some (.int .i64 z) from fun m => ⟨cell_kept7 (w := wr.drewN m) x1 hne2 _ _, cell_kept7 (w := wr.drewN m) hc0 hne0 _ _, cell_kept7 (w := wr.drewN m) hc' hne1 _ _⟩)
          clear hqa hbq
          go_upto_region 8 with fail
          go_region_held3 (fun w' => w'.cell? ⟨w.heap.size, 1, none⟩ = some (.slice (some ⟨b', off', none⟩) n' c') ∧ w'.cell? ⟨b0, off0 + x, none⟩ = some (.int .i64 (y : Int)) ∧ w'.cell? ⟨b', off' + y, none⟩ = some (.int .i64 z)) (first | exact KEEP.out _ | go_keep) (fail)
          all_goals
            go_wp2
          go_roundw
          case rel => exact ⟨x + 1, by omega, by go_num, HPU.out.drewN _, grown_drewN HGP.out _⟩
          case measure => simp [intOf]; omega
        · obtain rfl : x = n0 := by omega
          have HOL : Hid (OwnI wr w3.heap.size (some ⟨w3.heap.size, 0, none⟩) x x (q.map (fun a : Int => t.getD a.toNat 0))) := Lib.hid (by
            have h1 := HOX.out
            rw [Nat.sub_self, List.replicate_zero, List.append_nil, List.take_of_length_le (by rw [H0.out.len]; exact Nat.le_refl _)] at h1
            exact h1)
          obtain ⟨rb, hrb⟩ : ∃ rb, rightV ⟨permL s q, q.map (fun a : Int => t.getD a.toNat 0), o⟩ = rb := ⟨_, rfl⟩
          have HFN := Lib.hid (ref8fine_any A1 (some ⟨w3.heap.size, 0, none⟩) n1 c1 x x _ _ o wr (HO3.out.grow HG.out).numsF HOL.out.numsF (by have h1 := HN1.out; have h2 := HPN.out; have h3 := H.out.len; omega) (by omega))
          rw [hrb] at HFN
          have HRB := Lib.hid hrb
          clear hrb
          have x2 := HXW.out.get 2
          have HSB := Lib.hid (show w.heap.size + 1 < w2.heap.size by have := HSZ.out; have := HZ2.out; omega)
          have HSC := Lib.hid (show w.heap.size + 1 < w3.heap.size by have := HSZ.out; have := HZ2.out; have := HZ3.out; omega)
          go_wp2_with fail
          refine HFN.out.mono ?_
          rintro e w8 ⟨rfl, hg8⟩
          have HG8 := Lib.hid (grown_join HGW.out hg8 (.inr (by simp)))
          have HG9 := Lib.hid (grown_three HG8.out (b := w.heap.size + 1) (by omega) (.slice (fineA rb A1) (fineN rb n1) (fineN rb c1)) (.slice (fineA rb (some ⟨w3.heap.size, 0, none⟩)) (fineN rb x) (fineN rb x)) (.int .i64 (fineI rb o)))
          obtain ⟨q0, q1, q2, g0, g1, g2, p0, p1, p2⟩ := (HYW.out.grown hg8 (by simp)).three8 (.slice (fineA rb A1) (fineN rb n1) (fineN rb c1)) (.slice (fineA rb (some ⟨w3.heap.size, 0, none⟩)) (fineN rb x) (fineN rb x)) (.int .i64 (fineI rb o))
          have HFIN := Lib.hid (fine_gave HRB.out (own_three ((HO3.out.grow HG.out).grow hg8) HSZ.out (.slice (fineA rb A1) (fineN rb n1) (fineN rb c1)) (.slice (fineA rb (some ⟨w3.heap.size, 0, none⟩)) (fineN rb x) (fineN rb x)) (.int .i64 (fineI rb o))).numsF (own_three (HOL.out.grow hg8) HSC.out (.slice (fineA rb A1) (fineN rb n1) (fineN rb c1)) (.slice (fineA rb (some ⟨w3.heap.size, 0, none⟩)) (fineN rb x) (fineN rb x)) (.int .i64 (fineI rb o))).numsF HG9.out)
          clear x2 hg8
          go_wp2_with fail
          exact bodyPost_ret (v := .tuple #[.agg #[.slice (fineA rb A1) (fineN rb n1) (fineN rb c1), .slice (fineA rb (some ⟨w3.heap.size, 0, none⟩)) (fineN rb x) (fineN rb x), .int .i64 (fineI rb o)], .bool rb]) (by simp [results, Try.results25, go_sem, p0, p1, p2]) rfl (by rw [HF.out]; exact HFIN.out)
end Go.Proofs.Ytkpfhjjojchdlaa
