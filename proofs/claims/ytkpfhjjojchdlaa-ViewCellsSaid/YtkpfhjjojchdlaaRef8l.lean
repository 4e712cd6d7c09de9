/-
  Layer 8: the reference's Reshape.
-/
import Derived.Test.YtkpfhjjojchdlaaRef8e
import Derived.Test.YtkpfhjjojchdlaaRef8f
import Derived.Test.YtkpfhjjojchdlaaRef8g
namespace Go.Proofs.Ytkpfhjjojchdlaa
open Go.ChangeShapes Go.WideShapes Go.ChangeAt Go.RowKit
set_option linter.unusedVariables false
set_option maxRecDepth 100000

theorem new_len {l : List Int} (h : (newV l).2 = true) : (newV l).1.sh.length ≤ 1048576 ∧ (newV l).1.st.length ≤ 1048576 := by
  unfold newV at h ⊢
  by_cases hs : strB l = true
  · rw [if_pos hs] at h ⊢
    cases hr : rightV ⟨l, stridesL l, 0⟩ with
    | false => rw [fine_no hr] at h; cases h
    | true =>
      rw [fine_yes hr]
      have h1 := rightV_dims hr
      have h2 := (rightV_all hr).2.1
      dsimp only at h1 h2 ⊢
      omega
  · rw [if_neg hs] at h; cases h
set_option maxHeartbeats 2000000 in
theorem ref8Reshape_any (A A' A0 : Option Addr) (n c n' c' n0 c0 : Nat) (s t l : List Int) (o : Int) (w : World) (h : NumsF w A n c s) (h' : NumsF w A' n' c' t) (h0 : NumsF w A0 n0 c0 l) (hn : n ≤ 1048576) (hn' : n' ≤ 1048576) (hn0 : n0 ≤ 1048576) :
    Calls Try.prog 33 #[.agg #[.slice A n c, .slice A' n' c', .int .i64 o], .slice A0 n0 c0] w (GaveVP (shapeV ⟨s, t, o⟩ l) w) := by
  have HD := Lib.hid (fun w' (hg : w.grownBy w' none) => ref8Dense_any A A' n c n' c' s t o w' (h.grow hg) (h'.grow hg) hn hn')
  have HSI := Lib.hid (fun w' (hg : w.grownBy w' none) => ref7Size_any A0 n0 c0 _ l 1048576 w' (h0.1.grow hg) hn0)
  have HZ := Lib.hid (fun w' (hg : w.grownBy w' none) => ref8size_any A A' n c n' c' s t o w' (h.1.grow hg) hn)
  have HNW := Lib.hid (fun w' (hg : w.grownBy w' none) => ref8New_any A0 n0 c0 l w' (h0.grow hg) hn0)
  obtain ⟨w1, hw1⟩ : ∃ w1, w1 = (w.alloc (.cells #[.slice A n c, .slice A' n' c', .int .i64 o] 24)).alloc (.cells #[.slice none 0 0, .slice none 0 0, .int .i64 0] 24) := ⟨_, rfl⟩
  have hb := boxes8 w 24 #[.slice A n c, .slice A' n' c', .int .i64 o] #[.slice none 0 0, .slice none 0 0, .int .i64 0]
  rw [← hw1] at hb
  obtain ⟨hx, hy, hg1⟩ := hb
  have HX := Lib.hid hx
  have HY := Lib.hid hy
  have HG1 := Lib.hid hg1
  have HW1 := Lib.hid hw1
  have HSZ := Lib.hid (show w.heap.size + 1 < w1.heap.size from hy.small)
  have HGR := Lib.hid (show ∀ a b d e, denseB ⟨s, t, o⟩ = a → full l = b → decide (sizeV l 1048576 = cellsV ⟨s, t, o⟩) = d → (newV l).2 = e → shapeV ⟨s, t, o⟩ l = if (a && b && d && e) = true then fineV ⟨(newV l).1.sh, (newV l).1.st, o⟩ else (zeroV, false) from fun a b d e ha hb hd he => by unfold shapeV; rw [ha, hb, hd, he])
  have HFU := Lib.hid (show sizeB l 1048576 = full l from rfl)
  clear h h' h0 hw1 hx hy hg1
  go_enter Try.func33, Try.ntmps33
  go_upto_region 1 with fail
  rw [← HW1.out]
  go_wp2_with fail
  refine (HSI.out _ HG1.out).mono ?_
  rintro e w2 ⟨rfl, m, rfl⟩
  obtain ⟨w2, hw2⟩ : ∃ w2, w2 = w1.drewN m := ⟨_, rfl⟩
  rw [← hw2]
  have HG2 : Hid (w.grownBy w2 none) := Lib.hid (by rw [hw2]; exact grown_drewN HG1.out m)
  have HX2 : Hid (Box w2 _ _ _) := Lib.hid (by rw [hw2]; exact HX.out.drewN m)
  have HY2 : Hid (Box w2 _ _ _) := Lib.hid (by rw [hw2]; exact HY.out.drewN m)
  have HZ2 := Lib.hid (show w1.heap.size ≤ w2.heap.size by rw [hw2]; exact Nat.le_refl _)
  clear hw2
  rw [HFU.out]
  have x0 := HX2.out.get 0
  have x1 := HX2.out.get 1
  have x2 := HX2.out.get 2
  cases hr : denseB ⟨s, t, o⟩ with
  | false =>
    rw [hr] at HD
    have HF := Lib.hid (show shapeV ⟨s, t, o⟩ l = (zeroV, false) by rw [HGR.out _ _ _ _ hr rfl rfl rfl]; rfl)
    clear hr
    go_wp2_with fail
    refine (HD.out _ HG2.out).mono ?_
    rintro e w3 ⟨rfl, hg⟩
    have HG3 := Lib.hid (grown_join HG2.out hg (.inr (by simp)))
    obtain ⟨q0, q1, q2, f0, f1, f2, d0, d1, d2⟩ := (HY2.out.grown hg (by simp)).three8 (.slice none 0 0) (.slice none 0 0) (.int .i64 0)
    clear x0 x1 x2 hg
    go_wp2_with fail
    exact bodyPost_ret (v := .tuple #[.agg #[.slice none 0 0, .slice none 0 0, .int .i64 0], .bool false]) (by simp [results, Try.results33, go_sem, d0, d1, d2]) rfl (gaveVP_no HF.out (grown_three HG3.out (by omega) _ _ _))
  | true =>
    rw [hr] at HD
    cases hf : full l with
    | false =>
      have HF := Lib.hid (show shapeV ⟨s, t, o⟩ l = (zeroV, false) by rw [HGR.out _ _ _ _ hr hf rfl rfl]; rfl)
      clear hr hf
      go_wp2_with fail
      refine (HD.out _ HG2.out).mono ?_
      rintro e w3 ⟨rfl, hg⟩
      have HG3 := Lib.hid (grown_join HG2.out hg (.inr (by simp)))
      obtain ⟨q0, q1, q2, f0, f1, f2, d0, d1, d2⟩ := (HY2.out.grown hg (by simp)).three8 (.slice none 0 0) (.slice none 0 0) (.int .i64 0)
      clear x0 x1 x2 hg
      go_wp2_with fail
      exact bodyPost_ret (v := .tuple #[.agg #[.slice none 0 0, .slice none 0 0, .int .i64 0], .bool false]) (by simp [results, Try.results33, go_sem, d0, d1, d2]) rfl (gaveVP_no HF.out (grown_three HG3.out (by omega) _ _ _))
    | true =>
      have HGS := Lib.hid (fun d e hd he => HGR.out _ _ d e hr hf hd he)
      clear hr hf
      generalize hsv : sizeV l 1048576 = sv at *
      generalize hcv : cellsV ⟨s, t, o⟩ = cv at *
      clear hsv hcv
      go_wp2_with fail
      refine (HD.out _ HG2.out).mono ?_
      rintro e w3 ⟨rfl, hg⟩
      have HG3 := Lib.hid (grown_join HG2.out hg (.inr (by simp)))
      have HX3 := Lib.hid (HX2.out.grown hg (by simp))
      have HY3 := Lib.hid (HY2.out.grown hg (by simp))
      have HZ3 := Lib.hid hg.size
      clear x0 x1 x2 hg
      have x0 := HX3.out.get 0
      have x1 := HX3.out.get 1
      have x2 := HX3.out.get 2
      go_wp2_with fail
      refine (HZ.out _ HG3.out).mono ?_
      rintro e w4 ⟨rfl, hg⟩
      have HG4 := Lib.hid (grown_join HG3.out hg (.inr (by simp)))
      have HX4 := Lib.hid (HX3.out.grown hg (by simp))
      have HY4 := Lib.hid (HY3.out.grown hg (by simp))
      have HZ4 := Lib.hid hg.size
      clear x0 x1 x2 hg
      by_cases heq : sv = cv
      · have d0 : (sv != cv) = false := by simp [heq]
        have HGT := Lib.hid (fun e he => HGS.out _ e (decide_eq_true heq) he)
        clear heq
        go_wp2_with fail
        refine (HNW.out _ HG4.out).mono ?_
        rintro e w5 ⟨A5, n5, c5, A6, n6, c6, rfl, h5, h6, hg⟩
        have HG5 := Lib.hid (grown_join HG4.out hg (.inr (by simp)))
        have HX5 := Lib.hid (HX4.out.grown hg (by simp))
        have HY5 := Lib.hid (HY4.out.grown hg (by simp))
        have H5 := Lib.hid h5
        have H6 := Lib.hid h6
        have HN5 := Lib.hid h5.1
        have HN6 := Lib.hid h6.1
        obtain ⟨no, hno⟩ : ∃ no, no = (newV l).1.off := ⟨_, rfl⟩
        rw [← hno]
        clear hno hg h5 h6
        go_upto_region 5 with fail
        obtain ⟨w6, hw6⟩ : ∃ w6, w6 = w5.alloc (.cells #[.slice A5 n5 c5, .slice A6 n6 c6, .int .i64 no] 24) := ⟨_, rfl⟩
        rw [← hw6]
        have hg6 : w5.grownBy w6 none := by rw [hw6]; exact World.grownBy_alloc w5 _ none
        have HB6 : Hid (Box w6 w5.heap.size 24 #[.slice A5 n5 c5, .slice A6 n6 c6, .int .i64 no]) := Lib.hid (by rw [hw6]; exact Box.fresh w5 _ _)
        have HG6 := Lib.hid (grown_join HG5.out hg6 (.inr (by simp)))
        have HX6 := Lib.hid (HX5.out.grown hg6 (by simp))
        have HY6 := Lib.hid (HY5.out.grown hg6 (by simp))
        have HG56 := Lib.hid hg6
        have hlt5 : w.heap.size + 1 < w5.heap.size := HY5.out.small
        clear hw6 hg6
        cases he : (newV l).2 with
        | false =>
          have HF := Lib.hid (show shapeV ⟨s, t, o⟩ l = (zeroV, false) by rw [HGT.out _ he]; rfl)
          obtain ⟨q0, q1, q2, f0, f1, f2, p0, p1, p2⟩ := HY6.out.three8 (.slice none 0 0) (.slice none 0 0) (.int .i64 0)
          clear he
          go_wp2_with fail
          exact bodyPost_ret (v := .tuple #[.agg #[.slice none 0 0, .slice none 0 0, .int .i64 0], .bool false]) (by simp [results, Try.results33, go_sem, p0, p1, p2]) rfl (gaveVP_no HF.out (grown_three HG6.out (by omega) _ _ _))
        | true =>
          have HF := Lib.hid (show shapeV ⟨s, t, o⟩ l = fineV ⟨(newV l).1.sh, (newV l).1.st, o⟩ by rw [HGT.out _ he]; rfl)
          have HLL := Lib.hid (new_len he)
          clear he
          have x2 := HX6.out.get 2
          have c2 := HB6.out.get 2
          have f2 := HB6.out.free 2
          go_upto_region 8 with fail
          obtain ⟨w7, hw7⟩ : ∃ w7, w7 = w6.setCell ⟨w5.heap.size, 2, none⟩ (.int .i64 o) := ⟨_, rfl⟩
          rw [← hw7]
          have hg7 : w5.grownBy w7 none := by rw [hw7]; exact grown_put HG56.out (.inr (Nat.le_refl _)) _
          have HB7 : Hid (Box w7 w5.heap.size 24 #[.slice A5 n5 c5, .slice A6 n6 c6, .int .i64 o]) := Lib.hid (by rw [hw7]; exact HB6.out.put 2 (.int .i64 o))
          have HG7 := Lib.hid (grown_join HG5.out hg7 (.inr (by simp)))
          have HY7 := Lib.hid (HY5.out.grown hg7 (by simp))
          have H57 := Lib.hid (H5.out.grow hg7)
          have H67 := Lib.hid (H6.out.grow hg7)
          clear x2 c2 f2 hw7 hg7
          obtain ⟨rb, hrb⟩ : ∃ rb, rightV ⟨(newV l).1.sh, (newV l).1.st, o⟩ = rb := ⟨_, rfl⟩
          have HFN := Lib.hid (ref8fine_any A5 A6 n5 c5 n6 c6 _ _ o w7 H57.out.numsF H67.out.numsF (by have := HN5.out; have := HLL.out.1; omega) (by have := HN6.out; have := HLL.out.2; omega))
          rw [hrb] at HFN
          have HRB := Lib.hid hrb
          clear hrb
          have y0 := HB7.out.get 0
          have y1 := HB7.out.get 1
          have y2 := HB7.out.get 2
          have HSB := Lib.hid (show w.heap.size + 1 < w4.heap.size from HY4.out.small)
          go_wp2_with fail
          refine HFN.out.mono ?_
          rintro e w8 ⟨rfl, hg8⟩
          have HG8 := Lib.hid (grown_join HG7.out hg8 (.inr (by simp)))
          have HG9 := Lib.hid (grown_three HG8.out (b := w.heap.size + 1) (by omega) (.slice (fineA rb A5) (fineN rb n5) (fineN rb c5)) (.slice (fineA rb A6) (fineN rb n6) (fineN rb c6)) (.int .i64 (fineI rb o)))
          obtain ⟨q0, q1, q2, g0, g1, g2, p0, p1, p2⟩ := (HY7.out.grown hg8 (by simp)).three8 (.slice (fineA rb A5) (fineN rb n5) (fineN rb c5)) (.slice (fineA rb A6) (fineN rb n6) (fineN rb c6)) (.int .i64 (fineI rb o))
          have HFIN := Lib.hid (fine_gave HRB.out (own_three (H57.out.grow hg8) HSB.out (.slice (fineA rb A5) (fineN rb n5) (fineN rb c5)) (.slice (fineA rb A6) (fineN rb n6) (fineN rb c6)) (.int .i64 (fineI rb o))).numsF (own_three (H67.out.grow hg8) HSB.out (.slice (fineA rb A5) (fineN rb n5) (fineN rb c5)) (.slice (fineA rb A6) (fineN rb n6) (fineN rb c6)) (.int .i64 (fineI rb o))).numsF HG9.out)
          clear y0 y1 y2 hg8
          go_wp2_with fail
          exact bodyPost_ret (v := .tuple #[.agg #[.slice (fineA rb A5) (fineN rb n5) (fineN rb c5), .slice (fineA rb A6) (fineN rb n6) (fineN rb c6), .int .i64 (fineI rb o)], .bool rb]) (by simp [results, Try.results33, go_sem, p0, p1, p2]) rfl (by rw [HF.out]; exact HFIN.out)
      · have d0 : (sv != cv) = true := by simp [heq]
        have HF := Lib.hid (show shapeV ⟨s, t, o⟩ l = (zeroV, false) by rw [HGS.out _ _ (decide_eq_false heq) rfl]; rfl)
        obtain ⟨q0, q1, q2, f0, f1, f2, p0, p1, p2⟩ := HY4.out.three8 (.slice none 0 0) (.slice none 0 0) (.int .i64 0)
        clear heq
        go_wp2_with fail
        exact bodyPost_ret (v := .tuple #[.agg #[.slice none 0 0, .slice none 0 0, .int .i64 0], .bool false]) (by simp [results, Try.results33, go_sem, p0, p1, p2]) rfl (gaveVP_no HF.out (grown_three HG4.out (by omega) _ _ _))
end Go.Proofs.Ytkpfhjjojchdlaa
