/-
  THE WALK OF BufApart: a clone, and cells that were told, don't see what becomes of what they were made of.
-/
import Derived.Test.YtabkgdichlebmaaMakes3
namespace Go.Proofs.Ytabkgdichlebmaa
open Go.ChangeShapes Go.WideShapes Go.ChangeAt Go.RowKit
set_option linter.unusedVariables false

theorem apart_many (A : Option Addr) (k c : Nat) (i : Int) (x : Cel) (w : World) (h : 200 < k) (hk : k ≤ 9223372036854775807) :
    Calls Try.prog 5 #[.slice A k c, .int .i64 i, .agg #[.int .i64 x.v, .bool x.ok]] w (Gave (.bool true) w) := by
  obtain ⟨xv, xo⟩ := x
  go_enter Try.func5, Try.ntmps5
  go_wp2_with fail
  refine (knows3_any _).mono ?_
  rintro e w1 ⟨rfl, hg⟩
  have HG := Lib.hid (grown_join (World.grownBy_alloc w (.cells #[.int .i64 xv, .bool xo] 30) none) hg (.inr (by simp)))
  clear hg
  go_wp2_with fail
  go_ret
  exact ⟨rfl, HG.out⟩
theorem Box.pair {w : World} {b : Nat} {t : TypeId} {x y : Value} (h : Box w b t #[x, y]) : w.cell? ⟨b, 0, none⟩ = some x ∧ w.cell? ⟨b, 1, none⟩ = some y := ⟨by rw [h.get]; rfl, by rw [h.get]; rfl⟩
theorem fillC_one (l : List Cel) (i : Nat) (c : Cel) (h : i < l.length) : (fillC l i (i + 1) c).getD i noCel = c := by rw [fillC_get _ _ _ _ _ h, if_pos (by omega)]
set_option maxRecDepth 100000 in
set_option maxHeartbeats 8000000 in
theorem apart_in1 (A : Option Addr) (k c : Nat) (l : List Cel) (i : Nat) (xv : Int) (w : World) (h : Cels w w.heap.size A k l) (hk : k ≤ 200) (hi : i < k) :
    Calls Try.prog 5 #[.slice A k c, .int .i64 i, .agg #[.int .i64 xv, .bool true]] w (Gave (.bool true) w) := by
  have H := Lib.hid h
  have HN := Lib.hid h.1
  have HNN := Lib.hid (show decide (norms (norms l) = norms l) = true from decide_eq_true (norms_norms l))
  clear h
  go_enter Try.func5, Try.ntmps5
  have HG0 := Lib.hid (World.grownBy_alloc w (.cells #[.int .i64 xv, .bool true] 30) none)
  have HK0 := Lib.hid (Box.fresh w 30 #[.int .i64 xv, .bool true])
  go_wp2_with fail
  refine (knows3_any _).mono ?_
  rintro e w1 ⟨rfl, hg⟩
  have HG1 := Lib.hid (join0 HG0.out hg)
  have HK1 := Lib.hid (HK0.out.grown hg (by simp))
  clear hg
  go_wp2_with fail
  refine (lawCells_any A k c l _ (H.out.grow HG1.out) (by omega)).mono ?_
  rintro e w2 ⟨A2, c2, rfl, ho, hg⟩
  rw [HN.out] at ho
  rw [HN.out]
  have HO2 := Lib.hid ho
  have HG2 := Lib.hid (join0 HG1.out hg)
  have HK2 := Lib.hid (HK1.out.grown hg (by simp))
  clear hg ho
  go_wp2_with fail
  refine (bufOf_any A2 k c2 l _ HO2.out.cels (by omega)).mono ?_
  rintro e w3 ⟨gb, mpb, Ab, cb, rfl, hb, hg⟩
  have HB3 := Lib.hid hb
  have HG3 := Lib.hid (join0 HG2.out hg)
  have HK3 := Lib.hid (HK2.out.grown hg (by simp))
  clear hg hb
  go_wp2_with fail
  refine (bufClone_any _ l _ _ _ HB3.out.p).mono ?_
  rintro e w4 ⟨gx, mpx, Ax, cx, rfl, hb, hg⟩
  have HX4 := Lib.hid hb
  have HG4 := Lib.hid (join0 HG3.out hg)
  have HK4 := Lib.hid (HK3.out.grown hg (by simp))
  have HB4 := Lib.hid (HB3.out.grow hg)
  clear hg hb
  go_wp2_with fail
  refine (bufCells_any _ l _ _ _ HB4.out.p).mono ?_
  rintro e w5 ⟨Ay, cy, rfl, ho, hg⟩
  rw [norms_length, HN.out] at ho
  rw [norms_length, HN.out]
  have HY5 := Lib.hid ho
  have HG5 := Lib.hid (join0 HG4.out hg)
  have HK5 := Lib.hid (HK4.out.grown hg (by simp))
  have HB5 := Lib.hid (HB4.out.grow hg)
  have HX5 := Lib.hid (HX4.out.grow hg)
  clear hg ho
  have HS2 := Lib.hid HG2.out.size
  have HS2B := Lib.hid HK2.out.small
  have HS5 := Lib.hid (show w3.heap.size ≤ w4.heap.size from Nat.le_trans HX4.out.1 (Nat.le_trans (Nat.le_of_lt HX4.out.2.1) HX4.out.2.2.1))
  obtain ⟨q0, q1⟩ := HK5.out.pair
  go_wp2_with fail
  refine (bufPut_yes w5 _ _ gb mpb Ab cb l i ⟨xv, true⟩ HB5.out (by rw [HN.out]; exact hi)).mono ?_
  rintro e w6 ⟨rfl, hb, ht⟩
  have HB6 := Lib.hid hb
  have HX6 := Lib.hid (HX5.out.turned ht (.inr (Nat.le_refl _)))
  have HY6 := Lib.hid (HY5.out.turned ht HS5.out)
  have HK6 := Lib.hid (ht.box HK5.out (.inl HS2B.out))
  have HG6 := Lib.hid (Turn.after HG5.out ht HS2.out)
  clear hb ht q0 q1
  have HZC := Lib.hid (show ((fillC l i (i + 1) ⟨xv, true⟩).getD i noCel).norm = ⟨xv, true⟩ by rw [fillC_one _ _ _ (by rw [HN.out]; exact hi)]; rfl)
  go_wp2_with fail
  refine (bufGet_yes w6 _ _ gb mpb Ab cb _ i HB6.out (by rw [fillC_length, HN.out]; exact hi)).mono ?_
  rw [HZC.out]
  rintro e w7 ⟨rfl, hg⟩
  have HG7 := Lib.hid (join0 HG6.out hg)
  have HK7 := Lib.hid (HK6.out.grown hg (by simp))
  have HB7 := Lib.hid (HB6.out.grow hg)
  have HX7 := Lib.hid (HX6.out.grow hg)
  have HY7 := Lib.hid (HY6.out.grow hg)
  clear hg
  obtain ⟨q0, q1⟩ := HK7.out.pair
  obtain ⟨q2, q3⟩ := (HK7.out.alloc (.cells #[.int .i64 xv, .bool true] 34)).pair
  have hne : (xv != xv) = false := by simp
  go_wp2_with fail
  refine (buflen_any none [] 0 0 _ (BufP.nil _ _ _)).mono ?_
  rintro e w8 ⟨rfl, hg⟩
  have HZ8 := Lib.hid ((Box.fresh w7 34 #[.int .i64 xv, .bool true]).grown hg (by simp))
  replace hg := join0 (World.grownBy_alloc w7 _ none) hg
  have HG8 := Lib.hid (join0 HG7.out hg)
  have HB8 := Lib.hid (HB7.out.grow hg)
  have HX8 := Lib.hid (HX7.out.grow hg)
  have HY8 := Lib.hid (HY7.out.grow hg)
  clear hg q0 q1 q2 q3
  go_wp2_with fail
  refine (bufMissing_any none [] 0 0 _ (BufP.nil _ _ _)).mono ?_
  rw [show missN [] = 0 from rfl]
  rintro e w9 ⟨rfl, hg⟩
  have HG9 := Lib.hid (join0 HG8.out hg)
  have HB9 := Lib.hid (HB8.out.grow hg)
  have HX9 := Lib.hid (HX8.out.grow hg)
  have HY9 := Lib.hid (HY8.out.grow hg)
  have HZ9 := Lib.hid (HZ8.out.grown hg (by simp))
  clear hg
  go_wp2_with fail
  refine (bufCells_any none [] 0 0 _ (BufP.nil _ _ _)).mono ?_
  rintro e w10 ⟨An, cn, rfl, _, hg⟩
  rw [show (norms []).length = 0 from rfl]
  have HG10 := Lib.hid (join0 HG9.out hg)
  have HB10 := Lib.hid (HB9.out.grow hg)
  have HX10 := Lib.hid (HX9.out.grow hg)
  have HY10 := Lib.hid (HY9.out.grow hg)
  have HZ10 := Lib.hid (HZ9.out.grown hg (by simp))
  clear hg
  go_wp2_with fail
  refine (bufClone_any none [] 0 0 _ (BufP.nil _ _ _)).mono ?_
  rintro e w11 ⟨gn, mpn, An2, cn2, rfl, hb, hg⟩
  have HN11 := Lib.hid hb
  have HG11 := Lib.hid (join0 HG10.out hg)
  have HB11 := Lib.hid (HB10.out.grow hg)
  have HX11 := Lib.hid (HX10.out.grow hg)
  have HY11 := Lib.hid (HY10.out.grow hg)
  have HZ11 := Lib.hid (HZ10.out.grown hg (by simp))
  clear hg hb
  go_wp2_with fail
  refine (buflen_any _ [] _ _ _ HN11.out.p).mono ?_
  rintro e w12 ⟨rfl, hg⟩
  have HG12 := Lib.hid (join0 HG11.out hg)
  have HB12 := Lib.hid (HB11.out.grow hg)
  have HX12 := Lib.hid (HX11.out.grow hg)
  have HY12 := Lib.hid (HY11.out.grow hg)
  have HZ12 := Lib.hid (HZ11.out.grown hg (by simp))
  clear hg
  obtain ⟨q0, q1⟩ := HZ12.out.pair
  go_wp2_with fail
  refine (bufPut_no w12 w12.heap.size 0 none [] 0 ⟨xv, true⟩ ⟨by omega, by omega⟩ (BufP.nil _ _ _) rfl).mono ?_
  rintro e w13 ⟨rfl, hbn, ht⟩
  have hg := Turn.below ht (Nat.le_refl _)
  have HG13 := Lib.hid (join0 HG12.out hg)
  have HB13 := Lib.hid (HB12.out.grow hg)
  have HX13 := Lib.hid (HX12.out.grow hg)
  have HY13 := Lib.hid (HY12.out.grow hg)
  have HZ13 := Lib.hid (HZ12.out.grown hg (by simp))
  clear hg hbn ht q0 q1
  obtain ⟨q0, q1⟩ := HZ13.out.pair
  go_wp2_with fail
  refine (bufFill_no w13 w13.heap.size 0 none [] 0 1 ⟨xv, true⟩ (BufP.nil _ _ _) rfl).mono ?_
  rintro e w14 ⟨rfl, hbn, ht⟩
  have hg := Turn.below ht (Nat.le_refl _)
  have HG14 := Lib.hid (join0 HG13.out hg)
  have HB14 := Lib.hid (HB13.out.grow hg)
  have HX14 := Lib.hid (HX13.out.grow hg)
  have HY14 := Lib.hid (HY13.out.grow hg)
  have HZ14 := Lib.hid (HZ13.out.grown hg (by simp))
  clear hg hbn ht q0 q1
  go_wp2_with fail
  refine (bufCopy_nil w14 _ _ _ _ HB14.out.p 0 (Nat.zero_le _)).mono ?_
  rintro e w15 ⟨rfl, hg⟩
  have HG15 := Lib.hid (join0 HG14.out hg)
  have HB15 := Lib.hid (HB14.out.grow hg)
  have HX15 := Lib.hid (HX14.out.grow hg)
  have HY15 := Lib.hid (HY14.out.grow hg)
  clear hg
  go_wp2_with fail
  refine (bufCopy_no none _ w15 0 0 _ _ [] _ (BufP.nil _ _ _) (HB15.out.p) 0 0 1 ⟨by omega, by omega⟩ ⟨by omega, by omega⟩ ⟨by omega, by omega⟩ rfl).mono ?_
  rintro e w16 ⟨rfl, hg⟩
  have HG16 := Lib.hid (join0 HG15.out hg)
  have HB16 := Lib.hid (HB15.out.grow hg)
  have HX16 := Lib.hid (HX15.out.grow hg)
  have HY16 := Lib.hid (HY15.out.grow hg)
  clear hg
  go_wp2_with fail
  refine (bufCells_any _ l _ _ _ HX16.out.p).mono ?_
  rintro e w17 ⟨A17, c17, rfl, ho, hg⟩
  rw [norms_length, HN.out] at ho
  rw [norms_length, HN.out]
  have HO17 := Lib.hid ho
  have HG17 := Lib.hid (join0 HG16.out hg)
  have HX17 := Lib.hid (HX16.out.grow hg)
  have HY17 := Lib.hid (HY16.out.grow hg)
  clear hg ho
  go_wp2_with fail
  refine (lawRefs_any A17 k c17 (norms l) w17 HO17.out.cels (by omega)).mono ?_
  rintro e w18 ⟨A18, c18, rfl, ho, hg⟩
  rw [norms_length, HN.out] at ho
  rw [norms_length, HN.out]
  have HO18 := Lib.hid ho
  have HG18 := Lib.hid (join0 HG17.out hg)
  have HY18 := Lib.hid (HY17.out.grow hg)
  clear hg ho
  go_wp2_with fail
  refine (ref3Same_any A18 A k k c18 c (norms l) l w18 HO18.out.cels (H.out.grow HG18.out) (by omega) (by omega)).mono ?_
  rw [HNN.out]
  rintro e w19 ⟨rfl, hg⟩
  have HG19 := Lib.hid (join0 HG18.out hg)
  have HY19 := Lib.hid (HY18.out.grow hg)
  clear hg
  go_wp2_with fail
  refine (lawRefs_any Ay k cy (norms l) w19 HY19.out.cels (by omega)).mono ?_
  rintro e w20 ⟨A20, c20, rfl, ho, hg⟩
  rw [norms_length, HN.out] at ho
  rw [norms_length, HN.out]
  have HO20 := Lib.hid ho
  have HG20 := Lib.hid (join0 HG19.out hg)
  have HY20 := Lib.hid (HY19.out.grow hg)
  clear hg ho
  go_wp2_with fail
  refine (ref3Same_any A20 A k k c20 c (norms l) l w20 HO20.out.cels (H.out.grow HG20.out) (by omega) (by omega)).mono ?_
  rw [HNN.out]
  rintro e w21 ⟨rfl, hg⟩
  have HG21 := Lib.hid (join0 HG20.out hg)
  clear hg
  go_wp2_with fail
  refine (bufOf_any none 0 0 [] w21 ⟨rfl, fun h => absurd h (by omega)⟩ (by omega)).mono ?_
  rintro e w22 ⟨g22, mp22, A22, c22, rfl, hb, hg⟩
  have HB22 := Lib.hid hb
  have HG22 := Lib.hid (join0 HG21.out hg)
  clear hg hb
  go_wp2_with fail
  refine (bufSame_any none _ [] [] 0 0 _ _ w22 (BufP.nil _ _ _) HB22.out.p).mono ?_
  rw [show decide (norms [] = norms []) = true from rfl]
  rintro e w23 ⟨rfl, hg⟩
  have HG23 := Lib.hid (join0 HG22.out hg)
  clear hg
  go_wp2_with fail
  go_ret
  exact ⟨rfl, HG23.out⟩
set_option maxRecDepth 100000 in
set_option maxHeartbeats 8000000 in
theorem apart_in0 (A : Option Addr) (k c : Nat) (l : List Cel) (i : Nat) (xv : Int) (w : World) (h : Cels w w.heap.size A k l) (hk : k ≤ 200) (hi : i < k) :
    Calls Try.prog 5 #[.slice A k c, .int .i64 i, .agg #[.int .i64 xv, .bool false]] w (Gave (.bool true) w) := by
  have H := Lib.hid h
  have HN := Lib.hid h.1
  have HNN := Lib.hid (show decide (norms (norms l) = norms l) = true from decide_eq_true (norms_norms l))
  clear h
  go_enter Try.func5, Try.ntmps5
  have HG0 := Lib.hid (World.grownBy_alloc w (.cells #[.int .i64 xv, .bool false] 30) none)
  have HK0 := Lib.hid (Box.fresh w 30 #[.int .i64 xv, .bool false])
  go_wp2_with fail
  refine (knows3_any _).mono ?_
  rintro e w1 ⟨rfl, hg⟩
  have HG1 := Lib.hid (join0 HG0.out hg)
  have HK1 := Lib.hid (HK0.out.grown hg (by simp))
  clear hg
  go_wp2_with fail
  refine (lawCells_any A k c l _ (H.out.grow HG1.out) (by omega)).mono ?_
  rintro e w2 ⟨A2, c2, rfl, ho, hg⟩
  rw [HN.out] at ho
  rw [HN.out]
  have HO2 := Lib.hid ho
  have HG2 := Lib.hid (join0 HG1.out hg)
  have HK2 := Lib.hid (HK1.out.grown hg (by simp))
  clear hg ho
  go_wp2_with fail
  refine (bufOf_any A2 k c2 l _ HO2.out.cels (by omega)).mono ?_
  rintro e w3 ⟨gb, mpb, Ab, cb, rfl, hb, hg⟩
  have HB3 := Lib.hid hb
  have HG3 := Lib.hid (join0 HG2.out hg)
  have HK3 := Lib.hid (HK2.out.grown hg (by simp))
  clear hg hb
  go_wp2_with fail
  refine (bufClone_any _ l _ _ _ HB3.out.p).mono ?_
  rintro e w4 ⟨gx, mpx, Ax, cx, rfl, hb, hg⟩
  have HX4 := Lib.hid hb
  have HG4 := Lib.hid (join0 HG3.out hg)
  have HK4 := Lib.hid (HK3.out.grown hg (by simp))
  have HB4 := Lib.hid (HB3.out.grow hg)
  clear hg hb
  go_wp2_with fail
  refine (bufCells_any _ l _ _ _ HB4.out.p).mono ?_
  rintro e w5 ⟨Ay, cy, rfl, ho, hg⟩
  rw [norms_length, HN.out] at ho
  rw [norms_length, HN.out]
  have HY5 := Lib.hid ho
  have HG5 := Lib.hid (join0 HG4.out hg)
  have HK5 := Lib.hid (HK4.out.grown hg (by simp))
  have HB5 := Lib.hid (HB4.out.grow hg)
  have HX5 := Lib.hid (HX4.out.grow hg)
  clear hg ho
  have HS2 := Lib.hid HG2.out.size
  have HS2B := Lib.hid HK2.out.small
  have HS5 := Lib.hid (show w3.heap.size ≤ w4.heap.size from Nat.le_trans HX4.out.1 (Nat.le_trans (Nat.le_of_lt HX4.out.2.1) HX4.out.2.2.1))
  obtain ⟨q0, q1⟩ := HK5.out.pair
  go_wp2_with fail
  refine (bufPut_yes w5 _ _ gb mpb Ab cb l i ⟨xv, false⟩ HB5.out (by rw [HN.out]; exact hi)).mono ?_
  rintro e w6 ⟨rfl, hb, ht⟩
  have HB6 := Lib.hid hb
  have HX6 := Lib.hid (HX5.out.turned ht (.inr (Nat.le_refl _)))
  have HY6 := Lib.hid (HY5.out.turned ht HS5.out)
  have HK6 := Lib.hid (ht.box HK5.out (.inl HS2B.out))
  have HG6 := Lib.hid (Turn.after HG5.out ht HS2.out)
  clear hb ht q0 q1
  have HZC := Lib.hid (show ((fillC l i (i + 1) ⟨xv, false⟩).getD i noCel).norm = ⟨0, false⟩ by rw [fillC_one _ _ _ (by rw [HN.out]; exact hi)]; rfl)
  go_wp2_with fail
  refine (bufGet_yes w6 _ _ gb mpb Ab cb _ i HB6.out (by rw [fillC_length, HN.out]; exact hi)).mono ?_
  rw [HZC.out]
  rintro e w7 ⟨rfl, hg⟩
  have HG7 := Lib.hid (join0 HG6.out hg)
  have HK7 := Lib.hid (HK6.out.grown hg (by simp))
  have HB7 := Lib.hid (HB6.out.grow hg)
  have HX7 := Lib.hid (HX6.out.grow hg)
  have HY7 := Lib.hid (HY6.out.grow hg)
  clear hg
  obtain ⟨q0, q1⟩ := HK7.out.pair
  obtain ⟨q2, q3⟩ := (HK7.out.alloc (.cells #[.int .i64 0, .bool false] 34)).pair
  go_wp2_with fail
  refine (buflen_any none [] 0 0 _ (BufP.nil _ _ _)).mono ?_
  rintro e w8 ⟨rfl, hg⟩
  have HZ8 := Lib.hid ((Box.fresh w7 34 #[.int .i64 0, .bool false]).grown hg (by simp))
  replace hg := join0 (World.grownBy_alloc w7 _ none) hg
  have HG8 := Lib.hid (join0 HG7.out hg)
  have HB8 := Lib.hid (HB7.out.grow hg)
  have HX8 := Lib.hid (HX7.out.grow hg)
  have HY8 := Lib.hid (HY7.out.grow hg)
  clear hg q0 q1 q2 q3
  go_wp2_with fail
  refine (bufMissing_any none [] 0 0 _ (BufP.nil _ _ _)).mono ?_
  rw [show missN [] = 0 from rfl]
  rintro e w9 ⟨rfl, hg⟩
  have HG9 := Lib.hid (join0 HG8.out hg)
  have HB9 := Lib.hid (HB8.out.grow hg)
  have HX9 := Lib.hid (HX8.out.grow hg)
  have HY9 := Lib.hid (HY8.out.grow hg)
  have HZ9 := Lib.hid (HZ8.out.grown hg (by simp))
  clear hg
  go_wp2_with fail
  refine (bufCells_any none [] 0 0 _ (BufP.nil _ _ _)).mono ?_
  rintro e w10 ⟨An, cn, rfl, _, hg⟩
  rw [show (norms []).length = 0 from rfl]
  have HG10 := Lib.hid (join0 HG9.out hg)
  have HB10 := Lib.hid (HB9.out.grow hg)
  have HX10 := Lib.hid (HX9.out.grow hg)
  have HY10 := Lib.hid (HY9.out.grow hg)
  have HZ10 := Lib.hid (HZ9.out.grown hg (by simp))
  clear hg
  go_wp2_with fail
  refine (bufClone_any none [] 0 0 _ (BufP.nil _ _ _)).mono ?_
  rintro e w11 ⟨gn, mpn, An2, cn2, rfl, hb, hg⟩
  have HN11 := Lib.hid hb
  have HG11 := Lib.hid (join0 HG10.out hg)
  have HB11 := Lib.hid (HB10.out.grow hg)
  have HX11 := Lib.hid (HX10.out.grow hg)
  have HY11 := Lib.hid (HY10.out.grow hg)
  have HZ11 := Lib.hid (HZ10.out.grown hg (by simp))
  clear hg hb
  go_wp2_with fail
  refine (buflen_any _ [] _ _ _ HN11.out.p).mono ?_
  rintro e w12 ⟨rfl, hg⟩
  have HG12 := Lib.hid (join0 HG11.out hg)
  have HB12 := Lib.hid (HB11.out.grow hg)
  have HX12 := Lib.hid (HX11.out.grow hg)
  have HY12 := Lib.hid (HY11.out.grow hg)
  have HZ12 := Lib.hid (HZ11.out.grown hg (by simp))
  clear hg
  obtain ⟨q0, q1⟩ := HZ12.out.pair
  go_wp2_with fail
  refine (bufPut_no w12 w12.heap.size 0 none [] 0 ⟨0, false⟩ ⟨by omega, by omega⟩ (BufP.nil _ _ _) rfl).mono ?_
  rintro e w13 ⟨rfl, hbn, ht⟩
  have hg := Turn.below ht (Nat.le_refl _)
  have HG13 := Lib.hid (join0 HG12.out hg)
  have HB13 := Lib.hid (HB12.out.grow hg)
  have HX13 := Lib.hid (HX12.out.grow hg)
  have HY13 := Lib.hid (HY12.out.grow hg)
  have HZ13 := Lib.hid (HZ12.out.grown hg (by simp))
  clear hg hbn ht q0 q1
  obtain ⟨q0, q1⟩ := HZ13.out.pair
  go_wp2_with fail
  refine (bufFill_no w13 w13.heap.size 0 none [] 0 1 ⟨0, false⟩ (BufP.nil _ _ _) rfl).mono ?_
  rintro e w14 ⟨rfl, hbn, ht⟩
  have hg := Turn.below ht (Nat.le_refl _)
  have HG14 := Lib.hid (join0 HG13.out hg)
  have HB14 := Lib.hid (HB13.out.grow hg)
  have HX14 := Lib.hid (HX13.out.grow hg)
  have HY14 := Lib.hid (HY13.out.grow hg)
  have HZ14 := Lib.hid (HZ13.out.grown hg (by simp))
  clear hg hbn ht q0 q1
  go_wp2_with fail
  refine (bufCopy_nil w14 _ _ _ _ HB14.out.p 0 (Nat.zero_le _)).mono ?_
  rintro e w15 ⟨rfl, hg⟩
  have HG15 := Lib.hid (join0 HG14.out hg)
  have HB15 := Lib.hid (HB14.out.grow hg)
  have HX15 := Lib.hid (HX14.out.grow hg)
  have HY15 := Lib.hid (HY14.out.grow hg)
  clear hg
  go_wp2_with fail
  refine (bufCopy_no none _ w15 0 0 _ _ [] _ (BufP.nil _ _ _) (HB15.out.p) 0 0 1 ⟨by omega, by omega⟩ ⟨by omega, by omega⟩ ⟨by omega, by omega⟩ rfl).mono ?_
  rintro e w16 ⟨rfl, hg⟩
  have HG16 := Lib.hid (join0 HG15.out hg)
  have HB16 := Lib.hid (HB15.out.grow hg)
  have HX16 := Lib.hid (HX15.out.grow hg)
  have HY16 := Lib.hid (HY15.out.grow hg)
  clear hg
  go_wp2_with fail
  refine (bufCells_any _ l _ _ _ HX16.out.p).mono ?_
  rintro e w17 ⟨A17, c17, rfl, ho, hg⟩
  rw [norms_length, HN.out] at ho
  rw [norms_length, HN.out]
  have HO17 := Lib.hid ho
  have HG17 := Lib.hid (join0 HG16.out hg)
  have HX17 := Lib.hid (HX16.out.grow hg)
  have HY17 := Lib.hid (HY16.out.grow hg)
  clear hg ho
  go_wp2_with fail
  refine (lawRefs_any A17 k c17 (norms l) w17 HO17.out.cels (by omega)).mono ?_
  rintro e w18 ⟨A18, c18, rfl, ho, hg⟩
  rw [norms_length, HN.out] at ho
  rw [norms_length, HN.out]
  have HO18 := Lib.hid ho
  have HG18 := Lib.hid (join0 HG17.out hg)
  have HY18 := Lib.hid (HY17.out.grow hg)
  clear hg ho
  go_wp2_with fail
  refine (ref3Same_any A18 A k k c18 c (norms l) l w18 HO18.out.cels (H.out.grow HG18.out) (by omega) (by omega)).mono ?_
  rw [HNN.out]
  rintro e w19 ⟨rfl, hg⟩
  have HG19 := Lib.hid (join0 HG18.out hg)
  have HY19 := Lib.hid (HY18.out.grow hg)
  clear hg
  go_wp2_with fail
  refine (lawRefs_any Ay k cy (norms l) w19 HY19.out.cels (by omega)).mono ?_
  rintro e w20 ⟨A20, c20, rfl, ho, hg⟩
  rw [norms_length, HN.out] at ho
  rw [norms_length, HN.out]
  have HO20 := Lib.hid ho
  have HG20 := Lib.hid (join0 HG19.out hg)
  have HY20 := Lib.hid (HY19.out.grow hg)
  clear hg ho
  go_wp2_with fail
  refine (ref3Same_any A20 A k k c20 c (norms l) l w20 HO20.out.cels (H.out.grow HG20.out) (by omega) (by omega)).mono ?_
  rw [HNN.out]
  rintro e w21 ⟨rfl, hg⟩
  have HG21 := Lib.hid (join0 HG20.out hg)
  clear hg
  go_wp2_with fail
  refine (bufOf_any none 0 0 [] w21 ⟨rfl, fun h => absurd h (by omega)⟩ (by omega)).mono ?_
  rintro e w22 ⟨g22, mp22, A22, c22, rfl, hb, hg⟩
  have HB22 := Lib.hid hb
  have HG22 := Lib.hid (join0 HG21.out hg)
  clear hg hb
  go_wp2_with fail
  refine (bufSame_any none _ [] [] 0 0 _ _ w22 (BufP.nil _ _ _) HB22.out.p).mono ?_
  rw [show decide (norms [] = norms []) = true from rfl]
  rintro e w23 ⟨rfl, hg⟩
  have HG23 := Lib.hid (join0 HG22.out hg)
  clear hg
  go_wp2_with fail
  go_ret
  exact ⟨rfl, HG23.out⟩
set_option maxRecDepth 100000 in
set_option maxHeartbeats 8000000 in
theorem apart_lo (A : Option Addr) (k c : Nat) (l : List Cel) (i : Int) (xv : Int) (xo : Bool) (w : World) (h : Cels w w.heap.size A k l) (hk : k ≤ 200) (hI : I64 i) (hi : i < 0) :
    Calls Try.prog 5 #[.slice A k c, .int .i64 i, .agg #[.int .i64 xv, .bool xo]] w (Gave (.bool true) w) := by
  have H := Lib.hid h
  have HN := Lib.hid h.1
  have HNN := Lib.hid (show decide (norms (norms l) = norms l) = true from decide_eq_true (norms_norms l))
  clear h
  have HI := Lib.hid hI
  have hI1 := hI.1
  have hI2 := hI.2
  unfold I64 at hI
  have HX := Lib.hid (show hasN l.length i 1 = false by rw [hasN_one]; exact decide_eq_false (by rw [HN.out]; omega))
  clear hI
  go_enter Try.func5, Try.ntmps5
  have HG0 := Lib.hid (World.grownBy_alloc w (.cells #[.int .i64 xv, .bool xo] 30) none)
  have HK0 := Lib.hid (Box.fresh w 30 #[.int .i64 xv, .bool xo])
  go_wp2_with fail
  refine (knows3_any _).mono ?_
  rintro e w1 ⟨rfl, hg⟩
  have HG1 := Lib.hid (join0 HG0.out hg)
  have HK1 := Lib.hid (HK0.out.grown hg (by simp))
  clear hg
  go_wp2_with fail
  refine (lawCells_any A k c l _ (H.out.grow HG1.out) (by omega)).mono ?_
  rintro e w2 ⟨A2, c2, rfl, ho, hg⟩
  rw [HN.out] at ho
  rw [HN.out]
  have HO2 := Lib.hid ho
  have HG2 := Lib.hid (join0 HG1.out hg)
  have HK2 := Lib.hid (HK1.out.grown hg (by simp))
  clear hg ho
  go_wp2_with fail
  refine (bufOf_any A2 k c2 l _ HO2.out.cels (by omega)).mono ?_
  rintro e w3 ⟨gb, mpb, Ab, cb, rfl, hb, hg⟩
  have HB3 := Lib.hid hb
  have HG3 := Lib.hid (join0 HG2.out hg)
  have HK3 := Lib.hid (HK2.out.grown hg (by simp))
  clear hg hb
  go_wp2_with fail
  refine (bufClone_any _ l _ _ _ HB3.out.p).mono ?_
  rintro e w4 ⟨gx, mpx, Ax, cx, rfl, hb, hg⟩
  have HX4 := Lib.hid hb
  have HG4 := Lib.hid (join0 HG3.out hg)
  have HK4 := Lib.hid (HK3.out.grown hg (by simp))
  have HB4 := Lib.hid (HB3.out.grow hg)
  clear hg hb
  go_wp2_with fail
  refine (bufCells_any _ l _ _ _ HB4.out.p).mono ?_
  rintro e w5 ⟨Ay, cy, rfl, ho, hg⟩
  rw [norms_length, HN.out] at ho
  rw [norms_length, HN.out]
  have HY5 := Lib.hid ho
  have HG5 := Lib.hid (join0 HG4.out hg)
  have HK5 := Lib.hid (HK4.out.grown hg (by simp))
  have HB5 := Lib.hid (HB4.out.grow hg)
  have HX5 := Lib.hid (HX4.out.grow hg)
  clear hg ho
  have HS2 := Lib.hid HG2.out.size
  have HS2B := Lib.hid HK2.out.small
  have HS5 := Lib.hid (show w3.heap.size ≤ w4.heap.size from Nat.le_trans HX4.out.1 (Nat.le_trans (Nat.le_of_lt HX4.out.2.1) HX4.out.2.2.1))
  obtain ⟨q0, q1⟩ := HK5.out.pair
  go_wp2_with fail
  refine (bufPut_no w5 _ _ _ l i ⟨xv, xo⟩ HI.out HB5.out.p HX.out).mono ?_
  rintro e w6 ⟨rfl, hb, ht⟩
  have HB6 := Lib.hid hb
  have HX6 := Lib.hid (HX5.out.turned ht (.inr (Nat.le_refl _)))
  have HY6 := Lib.hid (HY5.out.turned ht HS5.out)
  have HK6 := Lib.hid (ht.box HK5.out (.inl HS2B.out))
  have HG6 := Lib.hid (Turn.after HG5.out ht HS2.out)
  clear hb ht q0 q1
  go_wp2_with fail
  refine (bufGet_no w6 _ _ _ l i HI.out HB6.out HX.out).mono ?_
  rintro e w7 ⟨rfl, hg⟩
  have HG7 := Lib.hid (join0 HG6.out hg)
  have HK7 := Lib.hid (HK6.out.grown hg (by simp))
  have HB7 := Lib.hid (HB6.out.grow hg)
  have HX7 := Lib.hid (HX6.out.grow hg)
  have HY7 := Lib.hid (HY6.out.grow hg)
  clear hg
  obtain ⟨q0, q1⟩ := HK7.out.pair
  obtain ⟨q2, q3⟩ := (HK7.out.alloc (.cells #[.int .i64 0, .bool false] 34)).pair
  go_wp2_with fail
  refine (buflen_any none [] 0 0 _ (BufP.nil _ _ _)).mono ?_
  rintro e w8 ⟨rfl, hg⟩
  have HZ8 := Lib.hid ((Box.fresh w7 34 #[.int .i64 0, .bool false]).grown hg (by simp))
  replace hg := join0 (World.grownBy_alloc w7 _ none) hg
  have HG8 := Lib.hid (join0 HG7.out hg)
  have HB8 := Lib.hid (HB7.out.grow hg)
  have HX8 := Lib.hid (HX7.out.grow hg)
  have HY8 := Lib.hid (HY7.out.grow hg)
  clear hg q0 q1 q2 q3
  go_wp2_with fail
  refine (bufMissing_any none [] 0 0 _ (BufP.nil _ _ _)).mono ?_
  rw [show missN [] = 0 from rfl]
  rintro e w9 ⟨rfl, hg⟩
  have HG9 := Lib.hid (join0 HG8.out hg)
  have HB9 := Lib.hid (HB8.out.grow hg)
  have HX9 := Lib.hid (HX8.out.grow hg)
  have HY9 := Lib.hid (HY8.out.grow hg)
  have HZ9 := Lib.hid (HZ8.out.grown hg (by simp))
  clear hg
  go_wp2_with fail
  refine (bufCells_any none [] 0 0 _ (BufP.nil _ _ _)).mono ?_
  rintro e w10 ⟨An, cn, rfl, _, hg⟩
  rw [show (norms []).length = 0 from rfl]
  have HG10 := Lib.hid (join0 HG9.out hg)
  have HB10 := Lib.hid (HB9.out.grow hg)
  have HX10 := Lib.hid (HX9.out.grow hg)
  have HY10 := Lib.hid (HY9.out.grow hg)
  have HZ10 := Lib.hid (HZ9.out.grown hg (by simp))
  clear hg
  go_wp2_with fail
  refine (bufClone_any none [] 0 0 _ (BufP.nil _ _ _)).mono ?_
  rintro e w11 ⟨gn, mpn, An2, cn2, rfl, hb, hg⟩
  have HN11 := Lib.hid hb
  have HG11 := Lib.hid (join0 HG10.out hg)
  have HB11 := Lib.hid (HB10.out.grow hg)
  have HX11 := Lib.hid (HX10.out.grow hg)
  have HY11 := Lib.hid (HY10.out.grow hg)
  have HZ11 := Lib.hid (HZ10.out.grown hg (by simp))
  clear hg hb
  go_wp2_with fail
  refine (buflen_any _ [] _ _ _ HN11.out.p).mono ?_
  rintro e w12 ⟨rfl, hg⟩
  have HG12 := Lib.hid (join0 HG11.out hg)
  have HB12 := Lib.hid (HB11.out.grow hg)
  have HX12 := Lib.hid (HX11.out.grow hg)
  have HY12 := Lib.hid (HY11.out.grow hg)
  have HZ12 := Lib.hid (HZ11.out.grown hg (by simp))
  clear hg
  obtain ⟨q0, q1⟩ := HZ12.out.pair
  go_wp2_with fail
  refine (bufPut_no w12 w12.heap.size 0 none [] 0 ⟨0, false⟩ ⟨by omega, by omega⟩ (BufP.nil _ _ _) rfl).mono ?_
  rintro e w13 ⟨rfl, hbn, ht⟩
  have hg := Turn.below ht (Nat.le_refl _)
  have HG13 := Lib.hid (join0 HG12.out hg)
  have HB13 := Lib.hid (HB12.out.grow hg)
  have HX13 := Lib.hid (HX12.out.grow hg)
  have HY13 := Lib.hid (HY12.out.grow hg)
  have HZ13 := Lib.hid (HZ12.out.grown hg (by simp))
  clear hg hbn ht q0 q1
  obtain ⟨q0, q1⟩ := HZ13.out.pair
  go_wp2_with fail
  refine (bufFill_no w13 w13.heap.size 0 none [] 0 1 ⟨0, false⟩ (BufP.nil _ _ _) rfl).mono ?_
  rintro e w14 ⟨rfl, hbn, ht⟩
  have hg := Turn.below ht (Nat.le_refl _)
  have HG14 := Lib.hid (join0 HG13.out hg)
  have HB14 := Lib.hid (HB13.out.grow hg)
  have HX14 := Lib.hid (HX13.out.grow hg)
  have HY14 := Lib.hid (HY13.out.grow hg)
  have HZ14 := Lib.hid (HZ13.out.grown hg (by simp))
  clear hg hbn ht q0 q1
  go_wp2_with fail
  refine (bufCopy_nil w14 _ _ _ _ HB14.out 0 (Nat.zero_le _)).mono ?_
  rintro e w15 ⟨rfl, hg⟩
  have HG15 := Lib.hid (join0 HG14.out hg)
  have HB15 := Lib.hid (HB14.out.grow hg)
  have HX15 := Lib.hid (HX14.out.grow hg)
  have HY15 := Lib.hid (HY14.out.grow hg)
  clear hg
  go_wp2_with fail
  refine (bufCopy_no none _ w15 0 0 _ _ [] _ (BufP.nil _ _ _) (HB15.out) 0 0 1 ⟨by omega, by omega⟩ ⟨by omega, by omega⟩ ⟨by omega, by omega⟩ rfl).mono ?_
  rintro e w16 ⟨rfl, hg⟩
  have HG16 := Lib.hid (join0 HG15.out hg)
  have HB16 := Lib.hid (HB15.out.grow hg)
  have HX16 := Lib.hid (HX15.out.grow hg)
  have HY16 := Lib.hid (HY15.out.grow hg)
  clear hg
  go_wp2_with fail
  refine (bufCells_any _ l _ _ _ HX16.out.p).mono ?_
  rintro e w17 ⟨A17, c17, rfl, ho, hg⟩
  rw [norms_length, HN.out] at ho
  rw [norms_length, HN.out]
  have HO17 := Lib.hid ho
  have HG17 := Lib.hid (join0 HG16.out hg)
  have HX17 := Lib.hid (HX16.out.grow hg)
  have HY17 := Lib.hid (HY16.out.grow hg)
  clear hg ho
  go_wp2_with fail
  refine (lawRefs_any A17 k c17 (norms l) w17 HO17.out.cels (by omega)).mono ?_
  rintro e w18 ⟨A18, c18, rfl, ho, hg⟩
  rw [norms_length, HN.out] at ho
  rw [norms_length, HN.out]
  have HO18 := Lib.hid ho
  have HG18 := Lib.hid (join0 HG17.out hg)
  have HY18 := Lib.hid (HY17.out.grow hg)
  clear hg ho
  go_wp2_with fail
  refine (ref3Same_any A18 A k k c18 c (norms l) l w18 HO18.out.cels (H.out.grow HG18.out) (by omega) (by omega)).mono ?_
  rw [HNN.out]
  rintro e w19 ⟨rfl, hg⟩
  have HG19 := Lib.hid (join0 HG18.out hg)
  have HY19 := Lib.hid (HY18.out.grow hg)
  clear hg
  go_wp2_with fail
  refine (lawRefs_any Ay k cy (norms l) w19 HY19.out.cels (by omega)).mono ?_
  rintro e w20 ⟨A20, c20, rfl, ho, hg⟩
  rw [norms_length, HN.out] at ho
  rw [norms_length, HN.out]
  have HO20 := Lib.hid ho
  have HG20 := Lib.hid (join0 HG19.out hg)
  have HY20 := Lib.hid (HY19.out.grow hg)
  clear hg ho
  go_wp2_with fail
  refine (ref3Same_any A20 A k k c20 c (norms l) l w20 HO20.out.cels (H.out.grow HG20.out) (by omega) (by omega)).mono ?_
  rw [HNN.out]
  rintro e w21 ⟨rfl, hg⟩
  have HG21 := Lib.hid (join0 HG20.out hg)
  clear hg
  go_wp2_with fail
  refine (bufOf_any none 0 0 [] w21 ⟨rfl, fun h => absurd h (by omega)⟩ (by omega)).mono ?_
  rintro e w22 ⟨g22, mp22, A22, c22, rfl, hb, hg⟩
  have HB22 := Lib.hid hb
  have HG22 := Lib.hid (join0 HG21.out hg)
  clear hg hb
  go_wp2_with fail
  refine (bufSame_any none _ [] [] 0 0 _ _ w22 (BufP.nil _ _ _) HB22.out.p).mono ?_
  rw [show decide (norms [] = norms []) = true from rfl]
  rintro e w23 ⟨rfl, hg⟩
  have HG23 := Lib.hid (join0 HG22.out hg)
  clear hg
  go_wp2_with fail
  go_ret
  exact ⟨rfl, HG23.out⟩
set_option maxRecDepth 100000 in
set_option maxHeartbeats 8000000 in
theorem apart_hi (A : Option Addr) (k c : Nat) (l : List Cel) (i : Int) (xv : Int) (xo : Bool) (w : World) (h : Cels w w.heap.size A k l) (hk : k ≤ 200) (hI : I64 i) (h0 : 0 ≤ i) (hi : (k : Int) ≤ i) :
    Calls Try.prog 5 #[.slice A k c, .int .i64 i, .agg #[.int .i64 xv, .bool xo]] w (Gave (.bool true) w) := by
  have H := Lib.hid h
  have HN := Lib.hid h.1
  have HNN := Lib.hid (show decide (norms (norms l) = norms l) = true from decide_eq_true (norms_norms l))
  clear h
  have HI := Lib.hid hI
  have hI1 := hI.1
  have hI2 := hI.2
  unfold I64 at hI
  have HX := Lib.hid (show hasN l.length i 1 = false by rw [hasN_one]; exact decide_eq_false (by rw [HN.out]; omega))
  clear hI
  go_enter Try.func5, Try.ntmps5
  have HG0 := Lib.hid (World.grownBy_alloc w (.cells #[.int .i64 xv, .bool xo] 30) none)
  have HK0 := Lib.hid (Box.fresh w 30 #[.int .i64 xv, .bool xo])
  go_wp2_with fail
  refine (knows3_any _).mono ?_
  rintro e w1 ⟨rfl, hg⟩
  have HG1 := Lib.hid (join0 HG0.out hg)
  have HK1 := Lib.hid (HK0.out.grown hg (by simp))
  clear hg
  go_wp2_with fail
  refine (lawCells_any A k c l _ (H.out.grow HG1.out) (by omega)).mono ?_
  rintro e w2 ⟨A2, c2, rfl, ho, hg⟩
  rw [HN.out] at ho
  rw [HN.out]
  have HO2 := Lib.hid ho
  have HG2 := Lib.hid (join0 HG1.out hg)
  have HK2 := Lib.hid (HK1.out.grown hg (by simp))
  clear hg ho
  go_wp2_with fail
  refine (bufOf_any A2 k c2 l _ HO2.out.cels (by omega)).mono ?_
  rintro e w3 ⟨gb, mpb, Ab, cb, rfl, hb, hg⟩
  have HB3 := Lib.hid hb
  have HG3 := Lib.hid (join0 HG2.out hg)
  have HK3 := Lib.hid (HK2.out.grown hg (by simp))
  clear hg hb
  go_wp2_with fail
  refine (bufClone_any _ l _ _ _ HB3.out.p).mono ?_
  rintro e w4 ⟨gx, mpx, Ax, cx, rfl, hb, hg⟩
  have HX4 := Lib.hid hb
  have HG4 := Lib.hid (join0 HG3.out hg)
  have HK4 := Lib.hid (HK3.out.grown hg (by simp))
  have HB4 := Lib.hid (HB3.out.grow hg)
  clear hg hb
  go_wp2_with fail
  refine (bufCells_any _ l _ _ _ HB4.out.p).mono ?_
  rintro e w5 ⟨Ay, cy, rfl, ho, hg⟩
  rw [norms_length, HN.out] at ho
  rw [norms_length, HN.out]
  have HY5 := Lib.hid ho
  have HG5 := Lib.hid (join0 HG4.out hg)
  have HK5 := Lib.hid (HK4.out.grown hg (by simp))
  have HB5 := Lib.hid (HB4.out.grow hg)
  have HX5 := Lib.hid (HX4.out.grow hg)
  clear hg ho
  have HS2 := Lib.hid HG2.out.size
  have HS2B := Lib.hid HK2.out.small
  have HS5 := Lib.hid (show w3.heap.size ≤ w4.heap.size from Nat.le_trans HX4.out.1 (Nat.le_trans (Nat.le_of_lt HX4.out.2.1) HX4.out.2.2.1))
  obtain ⟨q0, q1⟩ := HK5.out.pair
  go_wp2_with fail
  refine (bufPut_no w5 _ _ _ l i ⟨xv, xo⟩ HI.out HB5.out.p HX.out).mono ?_
  rintro e w6 ⟨rfl, hb, ht⟩
  have HB6 := Lib.hid hb
  have HX6 := Lib.hid (HX5.out.turned ht (.inr (Nat.le_refl _)))
  have HY6 := Lib.hid (HY5.out.turned ht HS5.out)
  have HK6 := Lib.hid (ht.box HK5.out (.inl HS2B.out))
  have HG6 := Lib.hid (Turn.after HG5.out ht HS2.out)
  clear hb ht q0 q1
  go_wp2_with fail
  refine (bufGet_no w6 _ _ _ l i HI.out HB6.out HX.out).mono ?_
  rintro e w7 ⟨rfl, hg⟩
  have HG7 := Lib.hid (join0 HG6.out hg)
  have HK7 := Lib.hid (HK6.out.grown hg (by simp))
  have HB7 := Lib.hid (HB6.out.grow hg)
  have HX7 := Lib.hid (HX6.out.grow hg)
  have HY7 := Lib.hid (HY6.out.grow hg)
  clear hg
  obtain ⟨q0, q1⟩ := HK7.out.pair
  obtain ⟨q2, q3⟩ := (HK7.out.alloc (.cells #[.int .i64 0, .bool false] 34)).pair
  go_wp2_with fail
  refine (buflen_any none [] 0 0 _ (BufP.nil _ _ _)).mono ?_
  rintro e w8 ⟨rfl, hg⟩
  have HZ8 := Lib.hid ((Box.fresh w7 34 #[.int .i64 0, .bool false]).grown hg (by simp))
  replace hg := join0 (World.grownBy_alloc w7 _ none) hg
  have HG8 := Lib.hid (join0 HG7.out hg)
  have HB8 := Lib.hid (HB7.out.grow hg)
  have HX8 := Lib.hid (HX7.out.grow hg)
  have HY8 := Lib.hid (HY7.out.grow hg)
  clear hg q0 q1 q2 q3
  go_wp2_with fail
  refine (bufMissing_any none [] 0 0 _ (BufP.nil _ _ _)).mono ?_
  rw [show missN [] = 0 from rfl]
  rintro e w9 ⟨rfl, hg⟩
  have HG9 := Lib.hid (join0 HG8.out hg)
  have HB9 := Lib.hid (HB8.out.grow hg)
  have HX9 := Lib.hid (HX8.out.grow hg)
  have HY9 := Lib.hid (HY8.out.grow hg)
  have HZ9 := Lib.hid (HZ8.out.grown hg (by simp))
  clear hg
  go_wp2_with fail
  refine (bufCells_any none [] 0 0 _ (BufP.nil _ _ _)).mono ?_
  rintro e w10 ⟨An, cn, rfl, _, hg⟩
  rw [show (norms []).length = 0 from rfl]
  have HG10 := Lib.hid (join0 HG9.out hg)
  have HB10 := Lib.hid (HB9.out.grow hg)
  have HX10 := Lib.hid (HX9.out.grow hg)
  have HY10 := Lib.hid (HY9.out.grow hg)
  have HZ10 := Lib.hid (HZ9.out.grown hg (by simp))
  clear hg
  go_wp2_with fail
  refine (bufClone_any none [] 0 0 _ (BufP.nil _ _ _)).mono ?_
  rintro e w11 ⟨gn, mpn, An2, cn2, rfl, hb, hg⟩
  have HN11 := Lib.hid hb
  have HG11 := Lib.hid (join0 HG10.out hg)
  have HB11 := Lib.hid (HB10.out.grow hg)
  have HX11 := Lib.hid (HX10.out.grow hg)
  have HY11 := Lib.hid (HY10.out.grow hg)
  have HZ11 := Lib.hid (HZ10.out.grown hg (by simp))
  clear hg hb
  go_wp2_with fail
  refine (buflen_any _ [] _ _ _ HN11.out.p).mono ?_
  rintro e w12 ⟨rfl, hg⟩
  have HG12 := Lib.hid (join0 HG11.out hg)
  have HB12 := Lib.hid (HB11.out.grow hg)
  have HX12 := Lib.hid (HX11.out.grow hg)
  have HY12 := Lib.hid (HY11.out.grow hg)
  have HZ12 := Lib.hid (HZ11.out.grown hg (by simp))
  clear hg
  obtain ⟨q0, q1⟩ := HZ12.out.pair
  go_wp2_with fail
  refine (bufPut_no w12 w12.heap.size 0 none [] 0 ⟨0, false⟩ ⟨by omega, by omega⟩ (BufP.nil _ _ _) rfl).mono ?_
  rintro e w13 ⟨rfl, hbn, ht⟩
  have hg := Turn.below ht (Nat.le_refl _)
  have HG13 := Lib.hid (join0 HG12.out hg)
  have HB13 := Lib.hid (HB12.out.grow hg)
  have HX13 := Lib.hid (HX12.out.grow hg)
  have HY13 := Lib.hid (HY12.out.grow hg)
  have HZ13 := Lib.hid (HZ12.out.grown hg (by simp))
  clear hg hbn ht q0 q1
  obtain ⟨q0, q1⟩ := HZ13.out.pair
  go_wp2_with fail
  refine (bufFill_no w13 w13.heap.size 0 none [] 0 1 ⟨0, false⟩ (BufP.nil _ _ _) rfl).mono ?_
  rintro e w14 ⟨rfl, hbn, ht⟩
  have hg := Turn.below ht (Nat.le_refl _)
  have HG14 := Lib.hid (join0 HG13.out hg)
  have HB14 := Lib.hid (HB13.out.grow hg)
  have HX14 := Lib.hid (HX13.out.grow hg)
  have HY14 := Lib.hid (HY13.out.grow hg)
  have HZ14 := Lib.hid (HZ13.out.grown hg (by simp))
  clear hg hbn ht q0 q1
  go_wp2_with fail
  refine (bufCopy_nil w14 _ _ _ _ HB14.out 0 (Nat.zero_le _)).mono ?_
  rintro e w15 ⟨rfl, hg⟩
  have HG15 := Lib.hid (join0 HG14.out hg)
  have HB15 := Lib.hid (HB14.out.grow hg)
  have HX15 := Lib.hid (HX14.out.grow hg)
  have HY15 := Lib.hid (HY14.out.grow hg)
  clear hg
  go_wp2_with fail
  refine (bufCopy_no none _ w15 0 0 _ _ [] _ (BufP.nil _ _ _) (HB15.out) 0 0 1 ⟨by omega, by omega⟩ ⟨by omega, by omega⟩ ⟨by omega, by omega⟩ rfl).mono ?_
  rintro e w16 ⟨rfl, hg⟩
  have HG16 := Lib.hid (join0 HG15.out hg)
  have HB16 := Lib.hid (HB15.out.grow hg)
  have HX16 := Lib.hid (HX15.out.grow hg)
  have HY16 := Lib.hid (HY15.out.grow hg)
  clear hg
  go_wp2_with fail
  refine (bufCells_any _ l _ _ _ HX16.out.p).mono ?_
  rintro e w17 ⟨A17, c17, rfl, ho, hg⟩
  rw [norms_length, HN.out] at ho
  rw [norms_length, HN.out]
  have HO17 := Lib.hid ho
  have HG17 := Lib.hid (join0 HG16.out hg)
  have HX17 := Lib.hid (HX16.out.grow hg)
  have HY17 := Lib.hid (HY16.out.grow hg)
  clear hg ho
  go_wp2_with fail
  refine (lawRefs_any A17 k c17 (norms l) w17 HO17.out.cels (by omega)).mono ?_
  rintro e w18 ⟨A18, c18, rfl, ho, hg⟩
  rw [norms_length, HN.out] at ho
  rw [norms_length, HN.out]
  have HO18 := Lib.hid ho
  have HG18 := Lib.hid (join0 HG17.out hg)
  have HY18 := Lib.hid (HY17.out.grow hg)
  clear hg ho
  go_wp2_with fail
  refine (ref3Same_any A18 A k k c18 c (norms l) l w18 HO18.out.cels (H.out.grow HG18.out) (by omega) (by omega)).mono ?_
  rw [HNN.out]
  rintro e w19 ⟨rfl, hg⟩
  have HG19 := Lib.hid (join0 HG18.out hg)
  have HY19 := Lib.hid (HY18.out.grow hg)
  clear hg
  go_wp2_with fail
  refine (lawRefs_any Ay k cy (norms l) w19 HY19.out.cels (by omega)).mono ?_
  rintro e w20 ⟨A20, c20, rfl, ho, hg⟩
  rw [norms_length, HN.out] at ho
  rw [norms_length, HN.out]
  have HO20 := Lib.hid ho
  have HG20 := Lib.hid (join0 HG19.out hg)
  have HY20 := Lib.hid (HY19.out.grow hg)
  clear hg ho
  go_wp2_with fail
  refine (ref3Same_any A20 A k k c20 c (norms l) l w20 HO20.out.cels (H.out.grow HG20.out) (by omega) (by omega)).mono ?_
  rw [HNN.out]
  rintro e w21 ⟨rfl, hg⟩
  have HG21 := Lib.hid (join0 HG20.out hg)
  clear hg
  go_wp2_with fail
  refine (bufOf_any none 0 0 [] w21 ⟨rfl, fun h => absurd h (by omega)⟩ (by omega)).mono ?_
  rintro e w22 ⟨g22, mp22, A22, c22, rfl, hb, hg⟩
  have HB22 := Lib.hid hb
  have HG22 := Lib.hid (join0 HG21.out hg)
  clear hg hb
  go_wp2_with fail
  refine (bufSame_any none _ [] [] 0 0 _ _ w22 (BufP.nil _ _ _) HB22.out.p).mono ?_
  rw [show decide (norms [] = norms []) = true from rfl]
  rintro e w23 ⟨rfl, hg⟩
  have HG23 := Lib.hid (join0 HG22.out hg)
  clear hg
  go_wp2_with fail
  go_ret
  exact ⟨rfl, HG23.out⟩
theorem bufApart_walk (A : Option Addr) (k c : Nat) (l : List Cel) (i : Int) (x : Cel) (w : World) (h : Cels w w.heap.size A k l) (hk : k ≤ 9223372036854775807) (hi : I64 i) :
    Calls Try.prog 5 #[.slice A k c, .int .i64 i, .agg #[.int .i64 x.v, .bool x.ok]] w fun e w' => e = .returned (.bool true) ∧ Below w.heap.size w w' := by
  have key : Calls Try.prog 5 #[.slice A k c, .int .i64 i, .agg #[.int .i64 x.v, .bool x.ok]] w (Gave (.bool true) w) := by
    by_cases h0 : 200 < k
    · exact apart_many A k c i x w h0 hk
    · obtain ⟨xv, xo⟩ := x
      by_cases h1 : 0 ≤ i ∧ i < k
      · obtain ⟨n, rfl⟩ : ∃ n : Nat, i = n := ⟨i.toNat, by omega⟩
        cases xo
        · exact apart_in0 A k c l n xv w h (by omega) (by omega)
        · exact apart_in1 A k c l n xv w h (by omega) (by omega)
      · by_cases h2 : i < 0
        · exact apart_lo A k c l i xv xo w h (by omega) hi h2
        · exact apart_hi A k c l i xv xo w h (by omega) hi (by omega) (by omega)
  exact key.mono fun e w' ⟨h1, h2⟩ => ⟨h1, below_of_grown h2⟩
end Go.Proofs.Ytabkgdichlebmaa
