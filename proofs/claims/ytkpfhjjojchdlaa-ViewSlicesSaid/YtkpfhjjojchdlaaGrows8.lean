/-
  Layer 8: the walk of ViewGrows, out of what is asked of the program's own view.
-/
import Derived.Test.YtkpfhjjojchdlaaWay8
namespace Go.Proofs.Ytkpfhjjojchdlaa
open Go.ChangeShapes Go.WideShapes Go.ChangeAt Go.RowKit
set_option linter.unusedVariables false
set_option maxRecDepth 100000

set_option maxRecDepth 100000 in
set_option maxHeartbeats 8000000 in
theorem viewGrows_any (S : ViewSays) (A A' : Option Addr) (n c n' c' : Nat) (s t : List Int) (o : Int) (Q : Option Addr) (m k : Nat) (q : List Int) (i x : Int) (w : World) (h : NumsF w A n c s) (h' : NumsF w A' n' c' t) (ho : I64 o) (hq : NumsF w Q m k q) (hi : I64 i) (hx : I64 x) :
    Calls Try.prog 5 #[.agg #[.slice A n c, .slice A' n' c', .int .i64 o], .int .i64 i, .int .i64 x, .slice Q m k] w (TellG (.bool true) w) := by
  have HK := Lib.hid (fun w' => knows8_any S w')
  have HLI := Lib.hid (fun w' (hg : w.grownBy w' none) => light8_any A A' n c n' c' s t o 1048576 w' (h.grow hg) (h'.grow hg))
  obtain ⟨w1, hw1⟩ : ∃ w1, w1 = w.alloc (.cells #[.slice A n c, .slice A' n' c', .int .i64 o] 24) := ⟨_, rfl⟩
  have HBV : Hid (Box w1 w.heap.size 24 #[.slice A n c, .slice A' n' c', .int .i64 o]) := Lib.hid (by rw [hw1]; exact Box.fresh w _ _)
  have HG1 : Hid (w.grownBy w1 none) := Lib.hid (by rw [hw1]; exact World.grownBy_alloc w _ none)
  have HW1 := Lib.hid hw1
  clear hw1
  cases hlb : lightB ⟨s, t, o⟩ 1048576 with
  | false =>
    have HLB := Lib.hid hlb
    clear hlb
    go_enter Try.func5, Try.ntmps5
    go_upto_region 1 with fail
    rw [← HW1.out]
    have x0 := HBV.out.get 0
    have x1 := HBV.out.get 1
    have x2 := HBV.out.get 2
    go_wp2_with fail
    refine (HLI.out _ HG1.out).mono ?_
    rintro e w2 ⟨rfl, hg⟩
    rw [HLB.out]
    have HG2 := Lib.hid (grown_join HG1.out hg (.inr (by simp)))
    have HBV := Lib.hid (HBV.out.grown hg (by simp))
    clear hg x0 x1 x2
    go_wp2_with fail
    refine (HK.out _).mono ?_
    rintro e w9 ⟨rfl, hg⟩
    have HGK := Lib.hid (grown_join HG2.out hg (.inr (by simp)))
    clear hg
    go_wp2_with fail
    go_ret
    exact ⟨rfl, HGK.out⟩
  | true =>
    have HLB := Lib.hid hlb
    have hsm := light_small hlb
    have hn : n ≤ 1048576 := by have := h.len; omega
    have hn' : n' ≤ 1048576 := by have := h'.len; omega
    clear hlb hsm
    by_cases hb0 : 20 < m
    · have z0 : decide ((20 : Int) < (m : Int)) = true := decide_eq_true (by omega)
      have y0 : decide (20 < m) = true := decide_eq_true hb0
      clear hb0
      go_enter Try.func5, Try.ntmps5
      go_upto_region 1 with fail
      rw [← HW1.out]
      have x0 := HBV.out.get 0
      have x1 := HBV.out.get 1
      have x2 := HBV.out.get 2
      go_wp2_with fail
      refine (HLI.out _ HG1.out).mono ?_
      rintro e w2 ⟨rfl, hg⟩
      rw [HLB.out]
      have HG2 := Lib.hid (grown_join HG1.out hg (.inr (by simp)))
      have HBV := Lib.hid (HBV.out.grown hg (by simp))
      clear hg x0 x1 x2
      go_wp2_with fail
      refine (HK.out _).mono ?_
      rintro e w9 ⟨rfl, hg⟩
      have HGK := Lib.hid (grown_join HG2.out hg (.inr (by simp)))
      clear hg
      go_wp2_with fail
      go_ret
      exact ⟨rfl, HGK.out⟩
    · have z0 : decide ((20 : Int) < (m : Int)) = false := decide_eq_false (by omega)
      have y0 : decide (20 < m) = false := decide_eq_false hb0
      have hl0 : m ≤ 1048576 := by omega
      clear hb0
      have HV : Hid (∀ w', w.grownBy w' none → ViewF w' A n c A' n' c' ⟨s, t, o⟩) := Lib.hid fun w' hg => ⟨h.grow hg, h'.grow hg, hn, hn'⟩
      have HOW : Hid (∀ w', w.grownBy w' none → Calls Try.prog 9 #[.agg #[.slice A n c, .slice A' n' c', .int .i64 o]] w' (TellG (.agg #[.slice A n c, .slice A' n' c', .int .i64 o]) w')) := Lib.hid fun w' hg => own8_any A A' n c n' c' o w'
      have HKN : Hid (∀ w', w.grownBy w' none → Calls Try.prog 8 #[] w' (TellG (.bool true) w')) := Lib.hid fun w' hg => HK.out w'
      have HDO : Hid (∀ w', w.grownBy w' none → Calls Try.prog 34 #[.agg #[.slice A n c, .slice A' n' c', .int .i64 o]] w' (TellG (.bool (denseB ⟨s, t, o⟩)) w')) := Lib.hid fun w' hg => S.dense A n c A' n' c' ⟨s, t, o⟩ w' (HV.out w' hg) ho
      have HDR : Hid (∀ w', w.grownBy w' none → Calls Try.prog 35 #[.agg #[.slice A n c, .slice A' n' c', .int .i64 o]] w' (TellG (.bool (denseB ⟨s, t, o⟩)) w')) := Lib.hid fun w' hg => ref8Dense_any A A' n c n' c' s t o w' (h.grow hg) (h'.grow hg) hn hn'
      have HC1 : Hid (∀ w', w.grownBy w' none → Calls Try.prog 26 #[.agg #[.slice A n c, .slice A' n' c', .int .i64 o], .int .i64 i, .int .i64 x] w' (GaveVP (dropV ⟨s, t, o⟩ i x) w')) := Lib.hid fun w' hg => S.drop A n c A' n' c' ⟨s, t, o⟩ i x w' (HV.out w' hg) ho hi hx
      have HC2 : Hid (∀ w', w.grownBy w' none → Calls Try.prog 27 #[.agg #[.slice A n c, .slice A' n' c', .int .i64 o], .int .i64 i, .int .i64 x] w' (GaveVP (dropV ⟨s, t, o⟩ i x) w')) := Lib.hid fun w' hg => ref8Drop_any A A' n c n' c' s t o i x w' (h.grow hg) (h'.grow hg) hn hn'
      have HC3 : Hid (∀ w', w.grownBy w' none → Calls Try.prog 28 #[.agg #[.slice A n c, .slice A' n' c', .int .i64 o], .int .i64 i, .int .i64 x] w' (GaveVP (growV ⟨s, t, o⟩ i x) w')) := Lib.hid fun w' hg => S.expand A n c A' n' c' ⟨s, t, o⟩ i x w' (HV.out w' hg) ho hi hx
      have HC4 : Hid (∀ w', w.grownBy w' none → Calls Try.prog 29 #[.agg #[.slice A n c, .slice A' n' c', .int .i64 o], .int .i64 i, .int .i64 x] w' (GaveVP (growV ⟨s, t, o⟩ i x) w')) := Lib.hid fun w' hg => ref8Expand_any A A' n c n' c' s t o i x w' (h.grow hg) (h'.grow hg) hn hn'
      have HC5 : Hid (∀ w', w.grownBy w' none → Calls Try.prog 30 #[.agg #[.slice A n c, .slice A' n' c', .int .i64 o], .int .i64 i, .int .i64 x] w' (GaveVP (windowV ⟨s, t, o⟩ i x) w')) := Lib.hid fun w' hg => S.window A n c A' n' c' ⟨s, t, o⟩ i x w' (HV.out w' hg) ho hi hx
      have HC6 : Hid (∀ w', w.grownBy w' none → Calls Try.prog 31 #[.agg #[.slice A n c, .slice A' n' c', .int .i64 o], .int .i64 i, .int .i64 x] w' (GaveVP (windowV ⟨s, t, o⟩ i x) w')) := Lib.hid fun w' hg => ref8Window_any A A' n c n' c' s t o i x w' (h.grow hg) (h'.grow hg) hn hn'
      have HC7 : Hid (∀ w', w.grownBy w' none → Calls Try.prog 32 #[.agg #[.slice A n c, .slice A' n' c', .int .i64 o], .slice Q m k] w' (GaveVP (shapeV ⟨s, t, o⟩ q) w')) := Lib.hid fun w' hg => S.reshape A n c A' n' c' ⟨s, t, o⟩ Q m k q w' (HV.out w' hg) ho (hq.grow hg) hl0
      have HC8 : Hid (∀ w', w.grownBy w' none → Calls Try.prog 33 #[.agg #[.slice A n c, .slice A' n' c', .int .i64 o], .slice Q m k] w' (GaveVP (shapeV ⟨s, t, o⟩ q) w')) := Lib.hid fun w' hg => ref8Reshape_any A A' Q n c n' c' m k s t q o w' (h.grow hg) (h'.grow hg) (hq.grow hg) hn hn' hl0
      have hsh1 := drop8_short ⟨s, t, o⟩ i x
      obtain ⟨⟨⟨s1, t1, o1⟩, b1⟩, hp1⟩ : ∃ vp, vp = dropV ⟨s, t, o⟩ i x := ⟨_, rfl⟩
      rw [← hp1] at HC1 HC2 hsh1
      have HSH1 := Lib.hid hsh1
      clear hsh1 hp1
      have hsh2 := grow8_short ⟨s, t, o⟩ i x
      obtain ⟨⟨⟨s2, t2, o2⟩, b2⟩, hp2⟩ : ∃ vp, vp = growV ⟨s, t, o⟩ i x := ⟨_, rfl⟩
      rw [← hp2] at HC3 HC4 hsh2
      have HSH2 := Lib.hid hsh2
      clear hsh2 hp2
      have hsh3 := window8_short ⟨s, t, o⟩ i x
      obtain ⟨⟨⟨s3, t3, o3⟩, b3⟩, hp3⟩ : ∃ vp, vp = windowV ⟨s, t, o⟩ i x := ⟨_, rfl⟩
      rw [← hp3] at HC5 HC6 hsh3
      have HSH3 := Lib.hid hsh3
      clear hsh3 hp3
      have hsh4 := shape8_short ⟨s, t, o⟩ q
      obtain ⟨⟨⟨s4, t4, o4⟩, b4⟩, hp4⟩ : ∃ vp, vp = shapeV ⟨s, t, o⟩ q := ⟨_, rfl⟩
      rw [← hp4] at HC7 HC8 hsh4
      have HSH4 := Lib.hid hsh4
      clear hsh4 hp4
      generalize denseB ⟨s, t, o⟩ = rv at *
      have erv : (rv == rv) = true := by simp
      clear hq
      clear h h'
      go_enter Try.func5, Try.ntmps5
      go_upto_region 1 with fail
      rw [← HW1.out]
      have x0 := HBV.out.get 0
      have x1 := HBV.out.get 1
      have x2 := HBV.out.get 2
      go_wp2_with fail
      refine (HLI.out _ HG1.out).mono ?_
      rintro e w2 ⟨rfl, hg⟩
      rw [HLB.out]
      have HG2 := Lib.hid (grown_join HG1.out hg (.inr (by simp)))
      have HBV := Lib.hid (HBV.out.grown hg (by simp))
      clear hg x0 x1 x2
      have x0 := HBV.out.get 0
      have x1 := HBV.out.get 1
      have x2 := HBV.out.get 2
      go_wp2_with fail
      refine (HOW.out _ HG2.out).mono ?_
      rintro e w3 ⟨rfl, hg⟩
      have HG3 := Lib.hid (grown_join HG2.out hg (.inr (by simp)))
      have HBV := Lib.hid (HBV.out.grown hg (by simp))
      clear hg x0 x1 x2
      go_upto_region 4 with fail
      obtain ⟨w4, hw⟩ : ∃ w4, w4 = w3.alloc (.cells #[.slice A n c, .slice A' n' c', .int .i64 o] 29) := ⟨_, rfl⟩
      rw [← hw]
      have HBX : Hid (Box w4 w3.heap.size 29 #[.slice A n c, .slice A' n' c', .int .i64 o]) := Lib.hid (by rw [hw]; exact Box.fresh w3 _ _)
      have hg : w3.grownBy w4 none := by rw [hw]; exact World.grownBy_alloc w3 _ none
      have HG4 := Lib.hid (grown_join HG3.out hg (.inr (by simp)))
      have HBV := Lib.hid (HBV.out.grown hg (by simp))
      clear hw hg
      have x0 := HBX.out.get 0
      have x1 := HBX.out.get 1
      have x2 := HBX.out.get 2
      go_wp2_with fail
      refine (HC1.out _ HG4.out).mono ?_
      rintro e w5 ⟨A1, n1, c1, B1, m1, d1, rfl, h, h', hg⟩
      have HG5 := Lib.hid (grown_join HG4.out hg (.inr (by simp)))
      have HBV := Lib.hid (HBV.out.grown hg (by simp))
      have HBX := Lib.hid (HBX.out.grown hg (by simp))
      have HA1 := Lib.hid h
      have HB1 := Lib.hid h'
      clear hg h h' x0 x1 x2
      go_upto_region 5 with fail
      obtain ⟨w6, hw⟩ : ∃ w6, w6 = w5.alloc (.cells #[.slice A1 n1 c1, .slice B1 m1 d1, .int .i64 o1] 29) := ⟨_, rfl⟩
      rw [← hw]
      have HX1 : Hid (Box w6 w5.heap.size 29 #[.slice A1 n1 c1, .slice B1 m1 d1, .int .i64 o1]) := Lib.hid (by rw [hw]; exact Box.fresh w5 _ _)
      have hg : w5.grownBy w6 none := by rw [hw]; exact World.grownBy_alloc w5 _ none
      have HG6 := Lib.hid (grown_join HG5.out hg (.inr (by simp)))
      have HA1 := Lib.hid (HA1.out.grow hg)
      have HB1 := Lib.hid (HB1.out.grow hg)
      have HBV := Lib.hid (HBV.out.grown hg (by simp))
      have HBX := Lib.hid (HBX.out.grown hg (by simp))
      clear hw hg
      have x0 := HBV.out.get 0
      have x1 := HBV.out.get 1
      have x2 := HBV.out.get 2
      go_wp2_with fail
      refine (HC2.out _ HG6.out).mono ?_
      rintro e w7 ⟨A2, n2, c2, B2, m2, d2, rfl, h, h', hg⟩
      have HG7 := Lib.hid (grown_join HG6.out hg (.inr (by simp)))
      have HA1 := Lib.hid (HA1.out.grow hg)
      have HB1 := Lib.hid (HB1.out.grow hg)
      have HBV := Lib.hid (HBV.out.grown hg (by simp))
      have HBX := Lib.hid (HBX.out.grown hg (by simp))
      have HX1 := Lib.hid (HX1.out.grown hg (by simp))
      have HA2 := Lib.hid h
      have HB2 := Lib.hid h'
      clear hg h h' x0 x1 x2
      go_upto_region 6 with fail
      obtain ⟨w8, hw⟩ : ∃ w8, w8 = w7.alloc (.cells #[.slice A2 n2 c2, .slice B2 m2 d2, .int .i64 o1] 24) := ⟨_, rfl⟩
      rw [← hw]
      have HX2 : Hid (Box w8 w7.heap.size 24 #[.slice A2 n2 c2, .slice B2 m2 d2, .int .i64 o1]) := Lib.hid (by rw [hw]; exact Box.fresh w7 _ _)
      have hg : w7.grownBy w8 none := by rw [hw]; exact World.grownBy_alloc w7 _ none
      have HG8 := Lib.hid (grown_join HG7.out hg (.inr (by simp)))
      have HA1 := Lib.hid (HA1.out.grow hg)
      have HB1 := Lib.hid (HB1.out.grow hg)
      have HA2 := Lib.hid (HA2.out.grow hg)
      have HB2 := Lib.hid (HB2.out.grow hg)
      have HBV := Lib.hid (HBV.out.grown hg (by simp))
      have HBX := Lib.hid (HBX.out.grown hg (by simp))
      have HX1 := Lib.hid (HX1.out.grown hg (by simp))
      clear hw hg
      have x0 := HBX.out.get 0
      have x1 := HBX.out.get 1
      have x2 := HBX.out.get 2
      go_wp2_with fail
      refine (HC3.out _ HG8.out).mono ?_
      rintro e w9 ⟨A3, n3, c3, B3, m3, d3, rfl, h, h', hg⟩
      have HG9 := Lib.hid (grown_join HG8.out hg (.inr (by simp)))
      have HA1 := Lib.hid (HA1.out.grow hg)
      have HB1 := Lib.hid (HB1.out.grow hg)
      have HA2 := Lib.hid (HA2.out.grow hg)
      have HB2 := Lib.hid (HB2.out.grow hg)
      have HBV := Lib.hid (HBV.out.grown hg (by simp))
      have HBX := Lib.hid (HBX.out.grown hg (by simp))
      have HX1 := Lib.hid (HX1.out.grown hg (by simp))
      have HX2 := Lib.hid (HX2.out.grown hg (by simp))
      have HA3 := Lib.hid h
      have HB3 := Lib.hid h'
      clear hg h h' x0 x1 x2
      go_upto_region 7 with fail
      obtain ⟨w10, hw⟩ : ∃ w10, w10 = w9.alloc (.cells #[.slice A3 n3 c3, .slice B3 m3 d3, .int .i64 o2] 29) := ⟨_, rfl⟩
      rw [← hw]
      have HX3 : Hid (Box w10 w9.heap.size 29 #[.slice A3 n3 c3, .slice B3 m3 d3, .int .i64 o2]) := Lib.hid (by rw [hw]; exact Box.fresh w9 _ _)
      have hg : w9.grownBy w10 none := by rw [hw]; exact World.grownBy_alloc w9 _ none
      have HG10 := Lib.hid (grown_join HG9.out hg (.inr (by simp)))
      have HA1 := Lib.hid (HA1.out.grow hg)
      have HB1 := Lib.hid (HB1.out.grow hg)
      have HA2 := Lib.hid (HA2.out.grow hg)
      have HB2 := Lib.hid (HB2.out.grow hg)
      have HA3 := Lib.hid (HA3.out.grow hg)
      have HB3 := Lib.hid (HB3.out.grow hg)
      have HBV := Lib.hid (HBV.out.grown hg (by simp))
      have HBX := Lib.hid (HBX.out.grown hg (by simp))
      have HX1 := Lib.hid (HX1.out.grown hg (by simp))
      have HX2 := Lib.hid (HX2.out.grown hg (by simp))
      clear hw hg
      have x0 := HBV.out.get 0
      have x1 := HBV.out.get 1
      have x2 := HBV.out.get 2
      go_wp2_with fail
      refine (HC4.out _ HG10.out).mono ?_
      rintro e w11 ⟨A4, n4, c4, B4, m4, d4, rfl, h, h', hg⟩
      have HG11 := Lib.hid (grown_join HG10.out hg (.inr (by simp)))
      have HA1 := Lib.hid (HA1.out.grow hg)
      have HB1 := Lib.hid (HB1.out.grow hg)
      have HA2 := Lib.hid (HA2.out.grow hg)
      have HB2 := Lib.hid (HB2.out.grow hg)
      have HA3 := Lib.hid (HA3.out.grow hg)
      have HB3 := Lib.hid (HB3.out.grow hg)
      have HBV := Lib.hid (HBV.out.grown hg (by simp))
      have HBX := Lib.hid (HBX.out.grown hg (by simp))
      have HX1 := Lib.hid (HX1.out.grown hg (by simp))
      have HX2 := Lib.hid (HX2.out.grown hg (by simp))
      have HX3 := Lib.hid (HX3.out.grown hg (by simp))
      have HA4 := Lib.hid h
      have HB4 := Lib.hid h'
      clear hg h h' x0 x1 x2
      go_upto_region 8 with fail
      obtain ⟨w12, hw⟩ : ∃ w12, w12 = w11.alloc (.cells #[.slice A4 n4 c4, .slice B4 m4 d4, .int .i64 o2] 24) := ⟨_, rfl⟩
      rw [← hw]
      have HX4 : Hid (Box w12 w11.heap.size 24 #[.slice A4 n4 c4, .slice B4 m4 d4, .int .i64 o2]) := Lib.hid (by rw [hw]; exact Box.fresh w11 _ _)
      have hg : w11.grownBy w12 none := by rw [hw]; exact World.grownBy_alloc w11 _ none
      have HG12 := Lib.hid (grown_join HG11.out hg (.inr (by simp)))
      have HA1 := Lib.hid (HA1.out.grow hg)
      have HB1 := Lib.hid (HB1.out.grow hg)
      have HA2 := Lib.hid (HA2.out.grow hg)
      have HB2 := Lib.hid (HB2.out.grow hg)
      have HA3 := Lib.hid (HA3.out.grow hg)
      have HB3 := Lib.hid (HB3.out.grow hg)
      have HA4 := Lib.hid (HA4.out.grow hg)
      have HB4 := Lib.hid (HB4.out.grow hg)
      have HBV := Lib.hid (HBV.out.grown hg (by simp))
      have HBX := Lib.hid (HBX.out.grown hg (by simp))
      have HX1 := Lib.hid (HX1.out.grown hg (by simp))
      have HX2 := Lib.hid (HX2.out.grown hg (by simp))
      have HX3 := Lib.hid (HX3.out.grown hg (by simp))
      clear hw hg
      have x0 := HBX.out.get 0
      have x1 := HBX.out.get 1
      have x2 := HBX.out.get 2
      go_wp2_with fail
      refine (HC5.out _ HG12.out).mono ?_
      rintro e w13 ⟨A5, n5, c5, B5, m5, d5, rfl, h, h', hg⟩
      have HG13 := Lib.hid (grown_join HG12.out hg (.inr (by simp)))
      have HA1 := Lib.hid (HA1.out.grow hg)
      have HB1 := Lib.hid (HB1.out.grow hg)
      have HA2 := Lib.hid (HA2.out.grow hg)
      have HB2 := Lib.hid (HB2.out.grow hg)
      have HA3 := Lib.hid (HA3.out.grow hg)
      have HB3 := Lib.hid (HB3.out.grow hg)
      have HA4 := Lib.hid (HA4.out.grow hg)
      have HB4 := Lib.hid (HB4.out.grow hg)
      have HBV := Lib.hid (HBV.out.grown hg (by simp))
      have HBX := Lib.hid (HBX.out.grown hg (by simp))
      have HX1 := Lib.hid (HX1.out.grown hg (by simp))
      have HX2 := Lib.hid (HX2.out.grown hg (by simp))
      have HX3 := Lib.hid (HX3.out.grown hg (by simp))
      have HX4 := Lib.hid (HX4.out.grown hg (by simp))
      have HA5 := Lib.hid h
      have HB5 := Lib.hid h'
      clear hg h h' x0 x1 x2
      go_upto_region 9 with fail
      obtain ⟨w14, hw⟩ : ∃ w14, w14 = w13.alloc (.cells #[.slice A5 n5 c5, .slice B5 m5 d5, .int .i64 o3] 29) := ⟨_, rfl⟩
      rw [← hw]
      have HX5 : Hid (Box w14 w13.heap.size 29 #[.slice A5 n5 c5, .slice B5 m5 d5, .int .i64 o3]) := Lib.hid (by rw [hw]; exact Box.fresh w13 _ _)
      have hg : w13.grownBy w14 none := by rw [hw]; exact World.grownBy_alloc w13 _ none
      have HG14 := Lib.hid (grown_join HG13.out hg (.inr (by simp)))
      have HA1 := Lib.hid (HA1.out.grow hg)
      have HB1 := Lib.hid (HB1.out.grow hg)
      have HA2 := Lib.hid (HA2.out.grow hg)
      have HB2 := Lib.hid (HB2.out.grow hg)
      have HA3 := Lib.hid (HA3.out.grow hg)
      have HB3 := Lib.hid (HB3.out.grow hg)
      have HA4 := Lib.hid (HA4.out.grow hg)
      have HB4 := Lib.hid (HB4.out.grow hg)
      have HA5 := Lib.hid (HA5.out.grow hg)
      have HB5 := Lib.hid (HB5.out.grow hg)
      have HBV := Lib.hid (HBV.out.grown hg (by simp))
      have HBX := Lib.hid (HBX.out.grown hg (by simp))
      have HX1 := Lib.hid (HX1.out.grown hg (by simp))
      have HX2 := Lib.hid (HX2.out.grown hg (by simp))
      have HX3 := Lib.hid (HX3.out.grown hg (by simp))
      have HX4 := Lib.hid (HX4.out.grown hg (by simp))
      clear hw hg
      have x0 := HBV.out.get 0
      have x1 := HBV.out.get 1
      have x2 := HBV.out.get 2
      go_wp2_with fail
      refine (HC6.out _ HG14.out).mono ?_
      rintro e w15 ⟨A6, n6, c6, B6, m6, d6, rfl, h, h', hg⟩
      have HG15 := Lib.hid (grown_join HG14.out hg (.inr (by simp)))
      have HA1 := Lib.hid (HA1.out.grow hg)
      have HB1 := Lib.hid (HB1.out.grow hg)
      have HA2 := Lib.hid (HA2.out.grow hg)
      have HB2 := Lib.hid (HB2.out.grow hg)
      have HA3 := Lib.hid (HA3.out.grow hg)
      have HB3 := Lib.hid (HB3.out.grow hg)
      have HA4 := Lib.hid (HA4.out.grow hg)
      have HB4 := Lib.hid (HB4.out.grow hg)
      have HA5 := Lib.hid (HA5.out.grow hg)
      have HB5 := Lib.hid (HB5.out.grow hg)
      have HBV := Lib.hid (HBV.out.grown hg (by simp))
      have HBX := Lib.hid (HBX.out.grown hg (by simp))
      have HX1 := Lib.hid (HX1.out.grown hg (by simp))
      have HX2 := Lib.hid (HX2.out.grown hg (by simp))
      have HX3 := Lib.hid (HX3.out.grown hg (by simp))
      have HX4 := Lib.hid (HX4.out.grown hg (by simp))
      have HX5 := Lib.hid (HX5.out.grown hg (by simp))
      have HA6 := Lib.hid h
      have HB6 := Lib.hid h'
      clear hg h h' x0 x1 x2
      go_upto_region 10 with fail
      obtain ⟨w16, hw⟩ : ∃ w16, w16 = w15.alloc (.cells #[.slice A6 n6 c6, .slice B6 m6 d6, .int .i64 o3] 24) := ⟨_, rfl⟩
      rw [← hw]
      have HX6 : Hid (Box w16 w15.heap.size 24 #[.slice A6 n6 c6, .slice B6 m6 d6, .int .i64 o3]) := Lib.hid (by rw [hw]; exact Box.fresh w15 _ _)
      have hg : w15.grownBy w16 none := by rw [hw]; exact World.grownBy_alloc w15 _ none
      have HG16 := Lib.hid (grown_join HG15.out hg (.inr (by simp)))
      have HA1 := Lib.hid (HA1.out.grow hg)
      have HB1 := Lib.hid (HB1.out.grow hg)
      have HA2 := Lib.hid (HA2.out.grow hg)
      have HB2 := Lib.hid (HB2.out.grow hg)
      have HA3 := Lib.hid (HA3.out.grow hg)
      have HB3 := Lib.hid (HB3.out.grow hg)
      have HA4 := Lib.hid (HA4.out.grow hg)
      have HB4 := Lib.hid (HB4.out.grow hg)
      have HA5 := Lib.hid (HA5.out.grow hg)
      have HB5 := Lib.hid (HB5.out.grow hg)
      have HA6 := Lib.hid (HA6.out.grow hg)
      have HB6 := Lib.hid (HB6.out.grow hg)
      have HBV := Lib.hid (HBV.out.grown hg (by simp))
      have HBX := Lib.hid (HBX.out.grown hg (by simp))
      have HX1 := Lib.hid (HX1.out.grown hg (by simp))
      have HX2 := Lib.hid (HX2.out.grown hg (by simp))
      have HX3 := Lib.hid (HX3.out.grown hg (by simp))
      have HX4 := Lib.hid (HX4.out.grown hg (by simp))
      have HX5 := Lib.hid (HX5.out.grown hg (by simp))
      clear hw hg
      have x0 := HBX.out.get 0
      have x1 := HBX.out.get 1
      have x2 := HBX.out.get 2
      go_wp2_with fail
      refine (HC7.out _ HG16.out).mono ?_
      rintro e w17 ⟨A7, n7, c7, B7, m7, d7, rfl, h, h', hg⟩
      have HG17 := Lib.hid (grown_join HG16.out hg (.inr (by simp)))
      have HA1 := Lib.hid (HA1.out.grow hg)
      have HB1 := Lib.hid (HB1.out.grow hg)
      have HA2 := Lib.hid (HA2.out.grow hg)
      have HB2 := Lib.hid (HB2.out.grow hg)
      have HA3 := Lib.hid (HA3.out.grow hg)
      have HB3 := Lib.hid (HB3.out.grow hg)
      have HA4 := Lib.hid (HA4.out.grow hg)
      have HB4 := Lib.hid (HB4.out.grow hg)
      have HA5 := Lib.hid (HA5.out.grow hg)
      have HB5 := Lib.hid (HB5.out.grow hg)
      have HA6 := Lib.hid (HA6.out.grow hg)
      have HB6 := Lib.hid (HB6.out.grow hg)
      have HBV := Lib.hid (HBV.out.grown hg (by simp))
      have HBX := Lib.hid (HBX.out.grown hg (by simp))
      have HX1 := Lib.hid (HX1.out.grown hg (by simp))
      have HX2 := Lib.hid (HX2.out.grown hg (by simp))
      have HX3 := Lib.hid (HX3.out.grown hg (by simp))
      have HX4 := Lib.hid (HX4.out.grown hg (by simp))
      have HX5 := Lib.hid (HX5.out.grown hg (by simp))
      have HX6 := Lib.hid (HX6.out.grown hg (by simp))
      have HA7 := Lib.hid h
      have HB7 := Lib.hid h'
      clear hg h h' x0 x1 x2
      go_upto_region 11 with fail
      obtain ⟨w18, hw⟩ : ∃ w18, w18 = w17.alloc (.cells #[.slice A7 n7 c7, .slice B7 m7 d7, .int .i64 o4] 29) := ⟨_, rfl⟩
      rw [← hw]
      have HX7 : Hid (Box w18 w17.heap.size 29 #[.slice A7 n7 c7, .slice B7 m7 d7, .int .i64 o4]) := Lib.hid (by rw [hw]; exact Box.fresh w17 _ _)
      have hg : w17.grownBy w18 none := by rw [hw]; exact World.grownBy_alloc w17 _ none
      have HG18 := Lib.hid (grown_join HG17.out hg (.inr (by simp)))
      have HA1 := Lib.hid (HA1.out.grow hg)
      have HB1 := Lib.hid (HB1.out.grow hg)
      have HA2 := Lib.hid (HA2.out.grow hg)
      have HB2 := Lib.hid (HB2.out.grow hg)
      have HA3 := Lib.hid (HA3.out.grow hg)
      have HB3 := Lib.hid (HB3.out.grow hg)
      have HA4 := Lib.hid (HA4.out.grow hg)
      have HB4 := Lib.hid (HB4.out.grow hg)
      have HA5 := Lib.hid (HA5.out.grow hg)
      have HB5 := Lib.hid (HB5.out.grow hg)
      have HA6 := Lib.hid (HA6.out.grow hg)
      have HB6 := Lib.hid (HB6.out.grow hg)
      have HA7 := Lib.hid (HA7.out.grow hg)
      have HB7 := Lib.hid (HB7.out.grow hg)
      have HBV := Lib.hid (HBV.out.grown hg (by simp))
      have HBX := Lib.hid (HBX.out.grown hg (by simp))
      have HX1 := Lib.hid (HX1.out.grown hg (by simp))
      have HX2 := Lib.hid (HX2.out.grown hg (by simp))
      have HX3 := Lib.hid (HX3.out.grown hg (by simp))
      have HX4 := Lib.hid (HX4.out.grown hg (by simp))
      have HX5 := Lib.hid (HX5.out.grown hg (by simp))
      have HX6 := Lib.hid (HX6.out.grown hg (by simp))
      clear hw hg
      have x0 := HBV.out.get 0
      have x1 := HBV.out.get 1
      have x2 := HBV.out.get 2
      go_wp2_with fail
      refine (HC8.out _ HG18.out).mono ?_
      rintro e w19 ⟨A8, n8, c8, B8, m8, d8, rfl, h, h', hg⟩
      have HG19 := Lib.hid (grown_join HG18.out hg (.inr (by simp)))
      have HA1 := Lib.hid (HA1.out.grow hg)
      have HB1 := Lib.hid (HB1.out.grow hg)
      have HA2 := Lib.hid (HA2.out.grow hg)
      have HB2 := Lib.hid (HB2.out.grow hg)
      have HA3 := Lib.hid (HA3.out.grow hg)
      have HB3 := Lib.hid (HB3.out.grow hg)
      have HA4 := Lib.hid (HA4.out.grow hg)
      have HB4 := Lib.hid (HB4.out.grow hg)
      have HA5 := Lib.hid (HA5.out.grow hg)
      have HB5 := Lib.hid (HB5.out.grow hg)
      have HA6 := Lib.hid (HA6.out.grow hg)
      have HB6 := Lib.hid (HB6.out.grow hg)
      have HA7 := Lib.hid (HA7.out.grow hg)
      have HB7 := Lib.hid (HB7.out.grow hg)
      have HBV := Lib.hid (HBV.out.grown hg (by simp))
      have HBX := Lib.hid (HBX.out.grown hg (by simp))
      have HX1 := Lib.hid (HX1.out.grown hg (by simp))
      have HX2 := Lib.hid (HX2.out.grown hg (by simp))
      have HX3 := Lib.hid (HX3.out.grown hg (by simp))
      have HX4 := Lib.hid (HX4.out.grown hg (by simp))
      have HX5 := Lib.hid (HX5.out.grown hg (by simp))
      have HX6 := Lib.hid (HX6.out.grown hg (by simp))
      have HX7 := Lib.hid (HX7.out.grown hg (by simp))
      have HA8 := Lib.hid h
      have HB8 := Lib.hid h'
      clear hg h h' x0 x1 x2
      go_upto_region 12 with fail
      obtain ⟨w20, hw⟩ : ∃ w20, w20 = w19.alloc (.cells #[.slice A8 n8 c8, .slice B8 m8 d8, .int .i64 o4] 24) := ⟨_, rfl⟩
      rw [← hw]
      have HX8 : Hid (Box w20 w19.heap.size 24 #[.slice A8 n8 c8, .slice B8 m8 d8, .int .i64 o4]) := Lib.hid (by rw [hw]; exact Box.fresh w19 _ _)
      have hg : w19.grownBy w20 none := by rw [hw]; exact World.grownBy_alloc w19 _ none
      have HG20 := Lib.hid (grown_join HG19.out hg (.inr (by simp)))
      have HA1 := Lib.hid (HA1.out.grow hg)
      have HB1 := Lib.hid (HB1.out.grow hg)
      have HA2 := Lib.hid (HA2.out.grow hg)
      have HB2 := Lib.hid (HB2.out.grow hg)
      have HA3 := Lib.hid (HA3.out.grow hg)
      have HB3 := Lib.hid (HB3.out.grow hg)
      have HA4 := Lib.hid (HA4.out.grow hg)
      have HB4 := Lib.hid (HB4.out.grow hg)
      have HA5 := Lib.hid (HA5.out.grow hg)
      have HB5 := Lib.hid (HB5.out.grow hg)
      have HA6 := Lib.hid (HA6.out.grow hg)
      have HB6 := Lib.hid (HB6.out.grow hg)
      have HA7 := Lib.hid (HA7.out.grow hg)
      have HB7 := Lib.hid (HB7.out.grow hg)
      have HA8 := Lib.hid (HA8.out.grow hg)
      have HB8 := Lib.hid (HB8.out.grow hg)
      have HBV := Lib.hid (HBV.out.grown hg (by simp))
      have HBX := Lib.hid (HBX.out.grown hg (by simp))
      have HX1 := Lib.hid (HX1.out.grown hg (by simp))
      have HX2 := Lib.hid (HX2.out.grown hg (by simp))
      have HX3 := Lib.hid (HX3.out.grown hg (by simp))
      have HX4 := Lib.hid (HX4.out.grown hg (by simp))
      have HX5 := Lib.hid (HX5.out.grown hg (by simp))
      have HX6 := Lib.hid (HX6.out.grown hg (by simp))
      have HX7 := Lib.hid (HX7.out.grown hg (by simp))
      clear hw hg
      have HS1 := Lib.hid (fun w' (hg : w20.grownBy w' none) => same8_any A1 B1 A2 B2 n1 c1 m1 d1 n2 c2 m2 d2 s1 t1 o1 b1 w' (HA1.out.grow hg) (HB1.out.grow hg) (HA2.out.grow hg) (HB2.out.grow hg) (by have h : s1.length ≤ 6 := HSH1.out.1; omega) (by have h : t1.length ≤ 6 := HSH1.out.2; omega))
      have HS2 := Lib.hid (fun w' (hg : w20.grownBy w' none) => same8_any A3 B3 A4 B4 n3 c3 m3 d3 n4 c4 m4 d4 s2 t2 o2 b2 w' (HA3.out.grow hg) (HB3.out.grow hg) (HA4.out.grow hg) (HB4.out.grow hg) (by have h : s2.length ≤ 6 := HSH2.out.1; omega) (by have h : t2.length ≤ 6 := HSH2.out.2; omega))
      have HS3 := Lib.hid (fun w' (hg : w20.grownBy w' none) => same8_any A5 B5 A6 B6 n5 c5 m5 d5 n6 c6 m6 d6 s3 t3 o3 b3 w' (HA5.out.grow hg) (HB5.out.grow hg) (HA6.out.grow hg) (HB6.out.grow hg) (by have h : s3.length ≤ 6 := HSH3.out.1; omega) (by have h : t3.length ≤ 6 := HSH3.out.2; omega))
      have HS4 := Lib.hid (fun w' (hg : w20.grownBy w' none) => same8_any A7 B7 A8 B8 n7 c7 m7 d7 n8 c8 m8 d8 s4 t4 o4 b4 w' (HA7.out.grow hg) (HB7.out.grow hg) (HA8.out.grow hg) (HB8.out.grow hg) (by have h : s4.length ≤ 6 := HSH4.out.1; omega) (by have h : t4.length ≤ 6 := HSH4.out.2; omega))
      have HDOL := Lib.hid (fun w' (hg : w20.grownBy w' none) => HDO.out w' (grown_join HG20.out hg (.inr (by simp))))
      have HDRL := Lib.hid (fun w' (hg : w20.grownBy w' none) => HDR.out w' (grown_join HG20.out hg (.inr (by simp))))
      have HKNL := Lib.hid (fun w' (hg : w20.grownBy w' none) => HKN.out w' (grown_join HG20.out hg (.inr (by simp))))
      have HGC := Lib.hid (grown_refl w20 none)
      have KEEP0 := Lib.hid (boxes8_10 HX1.out HX2.out HX3.out HX4.out HX5.out HX6.out HX7.out HX8.out HBX.out HBV.out)
      have KEEPD := Lib.hid (boxes8_10 (box8_drew HX1.out) (box8_drew HX2.out) (box8_drew HX3.out) (box8_drew HX4.out) (box8_drew HX5.out) (box8_drew HX6.out) (box8_drew HX7.out) (box8_drew HX8.out) (box8_drew HBX.out) (box8_drew HBV.out))
      go_region_held3 (fun w' => w'.cell? ⟨w5.heap.size, 0, none⟩ = some (.slice A1 n1 c1) ∧ w'.cell? ⟨w5.heap.size, 1, none⟩ = some (.slice B1 m1 d1) ∧ w'.cell? ⟨w5.heap.size, 2, none⟩ = some (.int .i64 o1) ∧ w'.cell? ⟨w7.heap.size, 0, none⟩ = some (.slice A2 n2 c2) ∧ w'.cell? ⟨w7.heap.size, 1, none⟩ = some (.slice B2 m2 d2) ∧ w'.cell? ⟨w7.heap.size, 2, none⟩ = some (.int .i64 o1) ∧ w'.cell? ⟨w9.heap.size, 0, none⟩ = some (.slice A3 n3 c3) ∧ w'.cell? ⟨w9.heap.size, 1, none⟩ = some (.slice B3 m3 d3) ∧ w'.cell? ⟨w9.heap.size, 2, none⟩ = some (.int .i64 o2) ∧ w'.cell? ⟨w11.heap.size, 0, none⟩ = some (.slice A4 n4 c4) ∧ w'.cell? ⟨w11.heap.size, 1, none⟩ = some (.slice B4 m4 d4) ∧ w'.cell? ⟨w11.heap.size, 2, none⟩ = some (.int .i64 o2) ∧ w'.cell? ⟨w13.heap.size, 0, none⟩ = some (.slice A5 n5 c5) ∧ w'.cell? ⟨w13.heap.size, 1, none⟩ = some (.slice B5 m5 d5) ∧ w'.cell? ⟨w13.heap.size, 2, none⟩ = some (.int .i64 o3) ∧ w'.cell? ⟨w15.heap.size, 0, none⟩ = some (.slice A6 n6 c6) ∧ w'.cell? ⟨w15.heap.size, 1, none⟩ = some (.slice B6 m6 d6) ∧ w'.cell? ⟨w15.heap.size, 2, none⟩ = some (.int .i64 o3) ∧ w'.cell? ⟨w17.heap.size, 0, none⟩ = some (.slice A7 n7 c7) ∧ w'.cell? ⟨w17.heap.size, 1, none⟩ = some (.slice B7 m7 d7) ∧ w'.cell? ⟨w17.heap.size, 2, none⟩ = some (.int .i64 o4) ∧ w'.cell? ⟨w19.heap.size, 0, none⟩ = some (.slice A8 n8 c8) ∧ w'.cell? ⟨w19.heap.size, 1, none⟩ = some (.slice B8 m8 d8) ∧ w'.cell? ⟨w19.heap.size, 2, none⟩ = some (.int .i64 o4) ∧ w'.cell? ⟨w3.heap.size, 0, none⟩ = some (.slice A n c) ∧ w'.cell? ⟨w3.heap.size, 1, none⟩ = some (.slice A' n' c') ∧ w'.cell? ⟨w3.heap.size, 2, none⟩ = some (.int .i64 o) ∧ w'.cell? ⟨w.heap.size, 0, none⟩ = some (.slice A n c) ∧ w'.cell? ⟨w.heap.size, 1, none⟩ = some (.slice A' n' c') ∧ w'.cell? ⟨w.heap.size, 2, none⟩ = some (.int .i64 o)) (first | (with_reducible exact KEEP.out) | (with_reducible exact KEEPD.out) | (with_reducible exact KEEP0.out) | exact KEEP.out | exact KEEPD.out) (first
        | (go_at_call 17; (with_reducible refine (HS2.out _ HGC.out).mono ?_); rintro e w199 ⟨rfl, hg⟩; have HGC := Lib.hid (grown_join HGC.out hg (.inr (by simp))); clear hg; have KEEP := Lib.hid (boxes8_10 (HX1.out.grown HGC.out (by simp)) (HX2.out.grown HGC.out (by simp)) (HX3.out.grown HGC.out (by simp)) (HX4.out.grown HGC.out (by simp)) (HX5.out.grown HGC.out (by simp)) (HX6.out.grown HGC.out (by simp)) (HX7.out.grown HGC.out (by simp)) (HX8.out.grown HGC.out (by simp)) (HBX.out.grown HGC.out (by simp)) (HBV.out.grown HGC.out (by simp))))
        | (go_at_call 17; (with_reducible refine (HS3.out _ HGC.out).mono ?_); rintro e w199 ⟨rfl, hg⟩; have HGC := Lib.hid (grown_join HGC.out hg (.inr (by simp))); clear hg; have KEEP := Lib.hid (boxes8_10 (HX1.out.grown HGC.out (by simp)) (HX2.out.grown HGC.out (by simp)) (HX3.out.grown HGC.out (by simp)) (HX4.out.grown HGC.out (by simp)) (HX5.out.grown HGC.out (by simp)) (HX6.out.grown HGC.out (by simp)) (HX7.out.grown HGC.out (by simp)) (HX8.out.grown HGC.out (by simp)) (HBX.out.grown HGC.out (by simp)) (HBV.out.grown HGC.out (by simp))))
        | (go_at_call 17; (with_reducible refine (HS4.out _ HGC.out).mono ?_); rintro e w199 ⟨rfl, hg⟩; have HGC := Lib.hid (grown_join HGC.out hg (.inr (by simp))); clear hg; have KEEP := Lib.hid (boxes8_10 (HX1.out.grown HGC.out (by simp)) (HX2.out.grown HGC.out (by simp)) (HX3.out.grown HGC.out (by simp)) (HX4.out.grown HGC.out (by simp)) (HX5.out.grown HGC.out (by simp)) (HX6.out.grown HGC.out (by simp)) (HX7.out.grown HGC.out (by simp)) (HX8.out.grown HGC.out (by simp)) (HBX.out.grown HGC.out (by simp)) (HBV.out.grown HGC.out (by simp))))
        | (go_at_call 34; (with_reducible refine (HDOL.out _ HGC.out).mono ?_); rintro e w199 ⟨rfl, hg⟩; have HGC := Lib.hid (grown_join HGC.out hg (.inr (by simp))); clear hg; have KEEP := Lib.hid (boxes8_10 (HX1.out.grown HGC.out (by simp)) (HX2.out.grown HGC.out (by simp)) (HX3.out.grown HGC.out (by simp)) (HX4.out.grown HGC.out (by simp)) (HX5.out.grown HGC.out (by simp)) (HX6.out.grown HGC.out (by simp)) (HX7.out.grown HGC.out (by simp)) (HX8.out.grown HGC.out (by simp)) (HBX.out.grown HGC.out (by simp)) (HBV.out.grown HGC.out (by simp))))
        | (go_at_call 35; (with_reducible refine (HDRL.out _ HGC.out).mono ?_); rintro e w199 ⟨rfl, hg⟩; have HGC := Lib.hid (grown_join HGC.out hg (.inr (by simp))); clear hg; have KEEP := Lib.hid (boxes8_10 (HX1.out.grown HGC.out (by simp)) (HX2.out.grown HGC.out (by simp)) (HX3.out.grown HGC.out (by simp)) (HX4.out.grown HGC.out (by simp)) (HX5.out.grown HGC.out (by simp)) (HX6.out.grown HGC.out (by simp)) (HX7.out.grown HGC.out (by simp)) (HX8.out.grown HGC.out (by simp)) (HBX.out.grown HGC.out (by simp)) (HBV.out.grown HGC.out (by simp))))
        | (go_at_call 8; (with_reducible refine (HKNL.out _ HGC.out).mono ?_); rintro e w199 ⟨rfl, hg⟩; have HGC := Lib.hid (grown_join HGC.out hg (.inr (by simp))); clear hg; have KEEP := Lib.hid (boxes8_10 (HX1.out.grown HGC.out (by simp)) (HX2.out.grown HGC.out (by simp)) (HX3.out.grown HGC.out (by simp)) (HX4.out.grown HGC.out (by simp)) (HX5.out.grown HGC.out (by simp)) (HX6.out.grown HGC.out (by simp)) (HX7.out.grown HGC.out (by simp)) (HX8.out.grown HGC.out (by simp)) (HBX.out.grown HGC.out (by simp)) (HBV.out.grown HGC.out (by simp))))
        | (go_at_call 17; (with_reducible refine (HS1.out _ (grown_drew HGC.out)).mono ?_); rintro e w199 ⟨rfl, hg⟩; have HGC := Lib.hid (grown_join (grown_drew HGC.out) hg (.inr (by simp))); clear hg; have KEEP := Lib.hid (boxes8_10 (HX1.out.grown HGC.out (by simp)) (HX2.out.grown HGC.out (by simp)) (HX3.out.grown HGC.out (by simp)) (HX4.out.grown HGC.out (by simp)) (HX5.out.grown HGC.out (by simp)) (HX6.out.grown HGC.out (by simp)) (HX7.out.grown HGC.out (by simp)) (HX8.out.grown HGC.out (by simp)) (HBX.out.grown HGC.out (by simp)) (HBV.out.grown HGC.out (by simp))))
        )
      all_goals go_wp2
      all_goals go_ret
      all_goals exact ⟨rfl, grown_join HG20.out HGC.out (.inr (by simp))⟩
end Go.Proofs.Ytkpfhjjojchdlaa
