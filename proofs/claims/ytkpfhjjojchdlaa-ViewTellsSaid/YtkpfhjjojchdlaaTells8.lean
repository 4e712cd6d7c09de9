/-
  Layer 8: the walk of ViewTells, out of what is asked of the program's own view.
-/
import Derived.Test.YtkpfhjjojchdlaaWay8
namespace Go.Proofs.Ytkpfhjjojchdlaa
open Go.ChangeShapes Go.WideShapes Go.ChangeAt Go.RowKit
set_option linter.unusedVariables false
set_option maxRecDepth 100000

set_option maxRecDepth 100000 in
set_option maxHeartbeats 8000000 in
theorem viewTells_any (S : ViewSays) (A A' : Option Addr) (n c n' c' : Nat) (s t : List Int) (o : Int) (Q R : Option Addr) (m k rn rc : Nat) (q l : List Int) (x : Int) (w : World) (h : NumsF w A n c s) (h' : NumsF w A' n' c' t) (ho : I64 o) (hq : NumsF w Q m k q) (hr : NumsF w R rn rc l) (hx : I64 x) :
    Calls Try.prog 3 #[.agg #[.slice A n c, .slice A' n' c', .int .i64 o], .slice Q m k, .slice R rn rc, .int .i64 x] w (TellG (.bool true) w) := by
  have HK := Lib.hid (fun w' => knows8_any S w')
  have HLI := Lib.hid (fun w' (hg : w.grownBy w' none) => light8_any A A' n c n' c' s t o 1048576 w' (h.grow hg) (h'.grow hg))
  obtain ⟨w1, hw1⟩ : ∃ w1, w1 = w.alloc (.cells #[.slice A n c, .slice A' n' c', .int .i64 o] 24) := ⟨_, rfl⟩
  have HBV : Hid (Box w1 w.heap.size 24 #[.slice A n c, .slice A' n' c', .int .i64 o]) := Lib.hid (by rw [hw1]; exact Box.fresh w _ _)
  have HG1 : Hid (w.grownBy w1 none) := Lib.hid (by rw [hw1]; exact World.grownBy_alloc w _ none)
  have HW1 := Lib.hid hw1
  clear hw1
  cases hlb : lightB ⟨s, t, o⟩ 1048576 with
  | false =>
    have HLB := Lib.hid hlb
    clear hlb
    go_enter Try.func3, Try.ntmps3
    go_upto_region 1 with fail
    rw [← HW1.out]
    have x0 := HBV.out.get 0
    have x1 := HBV.out.get 1
    have x2 := HBV.out.get 2
    go_wp2_with fail
    refine (HLI.out _ HG1.out).mono ?_
    rintro e w2 ⟨rfl, hg⟩
    rw [HLB.out]
    have HG2 := Lib.hid (grown_join HG1.out hg (.inr (by simp)))
    have HBV := Lib.hid (HBV.out.grown hg (by simp))
    clear hg x0 x1 x2
    go_wp2_with fail
    refine (HK.out _).mono ?_
    rintro e w9 ⟨rfl, hg⟩
    have HGK := Lib.hid (grown_join HG2.out hg (.inr (by simp)))
    clear hg
    go_wp2_with fail
    go_ret
    exact ⟨rfl, HGK.out⟩
  | true =>
    have HLB := Lib.hid hlb
    have hsm := light_small hlb
    have hn : n ≤ 1048576 := by have := h.len; omega
    have hn' : n' ≤ 1048576 := by have := h'.len; omega
    clear hlb hsm
    by_cases hb0 : 20 < m
    · have z0 : decide ((20 : Int) < (m : Int)) = true := decide_eq_true (by omega)
      have y0 : decide (20 < m) = true := decide_eq_true hb0
      clear hb0
      go_enter Try.func3, Try.ntmps3
      go_upto_region 1 with fail
      rw [← HW1.out]
      have x0 := HBV.out.get 0
      have x1 := HBV.out.get 1
      have x2 := HBV.out.get 2
      go_wp2_with fail
      refine (HLI.out _ HG1.out).mono ?_
      rintro e w2 ⟨rfl, hg⟩
      rw [HLB.out]
      have HG2 := Lib.hid (grown_join HG1.out hg (.inr (by simp)))
      have HBV := Lib.hid (HBV.out.grown hg (by simp))
      clear hg x0 x1 x2
      go_wp2_with fail
      refine (HK.out _).mono ?_
      rintro e w9 ⟨rfl, hg⟩
      have HGK := Lib.hid (grown_join HG2.out hg (.inr (by simp)))
      clear hg
      go_wp2_with fail
      go_ret
      exact ⟨rfl, HGK.out⟩
    · have z0 : decide ((20 : Int) < (m : Int)) = false := decide_eq_false (by omega)
      have y0 : decide (20 < m) = false := decide_eq_false hb0
      have hl0 : m ≤ 1048576 := by omega
      clear hb0
      by_cases hb1 : 20 < rn
      · have z1 : decide ((20 : Int) < (rn : Int)) = true := decide_eq_true (by omega)
        have y1 : decide (20 < rn) = true := decide_eq_true hb1
        clear hb1
        go_enter Try.func3, Try.ntmps3
        go_upto_region 1 with fail
        rw [← HW1.out]
        have x0 := HBV.out.get 0
        have x1 := HBV.out.get 1
        have x2 := HBV.out.get 2
        go_wp2_with fail
        refine (HLI.out _ HG1.out).mono ?_
        rintro e w2 ⟨rfl, hg⟩
        rw [HLB.out]
        have HG2 := Lib.hid (grown_join HG1.out hg (.inr (by simp)))
        have HBV := Lib.hid (HBV.out.grown hg (by simp))
        clear hg x0 x1 x2
        go_wp2_with fail
        refine (HK.out _).mono ?_
        rintro e w9 ⟨rfl, hg⟩
        have HGK := Lib.hid (grown_join HG2.out hg (.inr (by simp)))
        clear hg
        go_wp2_with fail
        go_ret
        exact ⟨rfl, HGK.out⟩
      · have z1 : decide ((20 : Int) < (rn : Int)) = false := decide_eq_false (by omega)
        have y1 : decide (20 < rn) = false := decide_eq_false hb1
        have hl1 : rn ≤ 1048576 := by omega
        clear hb1
        have HV : Hid (∀ w', w.grownBy w' none → ViewF w' A n c A' n' c' ⟨s, t, o⟩) := Lib.hid fun w' hg => ⟨h.grow hg, h'.grow hg, hn, hn'⟩
        have HOW : Hid (∀ w', w.grownBy w' none → Calls Try.prog 9 #[.agg #[.slice A n c, .slice A' n' c', .int .i64 o]] w' (TellG (.agg #[.slice A n c, .slice A' n' c', .int .i64 o]) w')) := Lib.hid fun w' hg => own8_any A A' n c n' c' o w'
        have HRR : Hid (∀ w', w.grownBy w' none → Calls Try.prog 16 #[.agg #[.slice A n c, .slice A' n' c', .int .i64 o]] w' (TellG (.bool (rightV ⟨s, t, o⟩)) w')) := Lib.hid fun w' hg => ref8Right_any A A' n c n' c' s t o w' (h.grow hg).1 (h'.grow hg).1 hn hn'
        have HRO : Hid (∀ w', w.grownBy w' none → Calls Try.prog 18 #[.agg #[.slice A n c, .slice A' n' c', .int .i64 o]] w' (TellG (.bool (rightV ⟨s, t, o⟩)) w')) := Lib.hid fun w' hg => S.right A n c A' n' c' ⟨s, t, o⟩ w' (HV.out w' hg) ho
        have HKN : Hid (∀ w', w.grownBy w' none → Calls Try.prog 8 #[] w' (TellG (.bool true) w')) := Lib.hid fun w' hg => HK.out w'
        have HC1 : Hid (∀ w', w.grownBy w' none → Calls Try.prog 10 #[.slice Q m k] w' (GaveVP (newV q) w')) := Lib.hid fun w' hg => S.new Q m k q w' (hq.grow hg) hl0
        have HC2 : Hid (∀ w', w.grownBy w' none → Calls Try.prog 11 #[.slice Q m k] w' (GaveVP (newV q) w')) := Lib.hid fun w' hg => (ref8New_any Q m k q w' (hq.grow hg) hl0).mono fun _ _ h => gaveVQ_tells h
        have HC3 : Hid (∀ w', w.grownBy w' none → Calls Try.prog 12 #[.agg #[.slice A n c, .slice A' n' c', .int .i64 o], .slice R rn rc] w' (TellG (.tuple #[.int .i64 (offV ⟨s, t, o⟩ l), .bool (offB ⟨s, t, o⟩ l)]) w')) := Lib.hid fun w' hg => S.offset A n c A' n' c' ⟨s, t, o⟩ R rn rc l w' (HV.out w' hg) ho (hr.grow hg) hl1
        have HC4 : Hid (∀ w', w.grownBy w' none → Calls Try.prog 13 #[.agg #[.slice A n c, .slice A' n' c', .int .i64 o], .slice R rn rc] w' (TellG (.tuple #[.int .i64 (offV ⟨s, t, o⟩ l), .bool (offB ⟨s, t, o⟩ l)]) w')) := Lib.hid fun w' hg => ref8Offset_any A A' R n c n' c' rn rc s t l o w' (h.grow hg) (h'.grow hg) (hr.grow hg) hn hn' hl1
        have HC5 : Hid (∀ w', w.grownBy w' none → Calls Try.prog 14 #[.agg #[.slice A n c, .slice A' n' c', .int .i64 o]] w' (TellG (.tuple #[.int .i64 (lowV ⟨s, t, o⟩), .int .i64 (highV ⟨s, t, o⟩), .bool (someB ⟨s, t, o⟩)]) w')) := Lib.hid fun w' hg => S.bounds A n c A' n' c' ⟨s, t, o⟩ w' (HV.out w' hg) ho
        have HC6 : Hid (∀ w', w.grownBy w' none → Calls Try.prog 15 #[.agg #[.slice A n c, .slice A' n' c', .int .i64 o]] w' (TellG (.tuple #[.int .i64 (lowV ⟨s, t, o⟩), .int .i64 (highV ⟨s, t, o⟩), .bool (someB ⟨s, t, o⟩)]) w')) := Lib.hid fun w' hg => ref8Bounds_any A A' n c n' c' s t o w' (h.grow hg) (h'.grow hg) hn hn'
        have HFT : Hid (∀ w', w.grownBy w' none → Calls Try.prog 19 #[.agg #[.slice A n c, .slice A' n' c', .int .i64 o], .int .i64 x] w' (TellG (.bool (fitsB ⟨s, t, o⟩ x)) w')) := Lib.hid fun w' hg => S.fits A n c A' n' c' ⟨s, t, o⟩ x w' (HV.out w' hg) ho hx
        have hsh1 := new8_short q
        obtain ⟨⟨⟨s1, t1, o1⟩, b1⟩, hp1⟩ : ∃ vp, vp = newV q := ⟨_, rfl⟩
        rw [← hp1] at HC1 HC2 hsh1
        have HSH1 := Lib.hid hsh1
        clear hsh1 hp1
        have HFE := Lib.hid (show fitsB ⟨s, t, o⟩ x = (rightV ⟨s, t, o⟩ && (!someB ⟨s, t, o⟩ || decide (0 ≤ lowV ⟨s, t, o⟩ ∧ highV ⟨s, t, o⟩ < x))) from rfl)
        generalize rightV ⟨s, t, o⟩ = rv at *
        generalize fitsB ⟨s, t, o⟩ x = fb at *
        generalize offV ⟨s, t, o⟩ l = ov at *
        generalize offB ⟨s, t, o⟩ l = ob at *
        generalize lowV ⟨s, t, o⟩ = lo at *
        generalize highV ⟨s, t, o⟩ = hi at *
        generalize someB ⟨s, t, o⟩ = sb at *
        have erv : (rv == rv) = true := by simp
        have efb : (fb == fb) = true := by simp
        have eov : (ov == ov) = true := by simp
        have eob : (ob == ob) = true := by simp
        have elo : (lo == lo) = true := by simp
        have ehi : (hi == hi) = true := by simp
        have esb : (sb == sb) = true := by simp
        clear hq hr
        clear h h'
        go_enter Try.func3, Try.ntmps3
        go_upto_region 1 with fail
        rw [← HW1.out]
        have x0 := HBV.out.get 0
        have x1 := HBV.out.get 1
        have x2 := HBV.out.get 2
        go_wp2_with fail
        refine (HLI.out _ HG1.out).mono ?_
        rintro e w2 ⟨rfl, hg⟩
        rw [HLB.out]
        have HG2 := Lib.hid (grown_join HG1.out hg (.inr (by simp)))
        have HBV := Lib.hid (HBV.out.grown hg (by simp))
        clear hg x0 x1 x2
        have x0 := HBV.out.get 0
        have x1 := HBV.out.get 1
        have x2 := HBV.out.get 2
        go_wp2_with fail
        refine (HOW.out _ HG2.out).mono ?_
        rintro e w3 ⟨rfl, hg⟩
        have HG3 := Lib.hid (grown_join HG2.out hg (.inr (by simp)))
        have HBV := Lib.hid (HBV.out.grown hg (by simp))
        clear hg x0 x1 x2
        go_upto_region 4 with fail
        obtain ⟨w4, hw⟩ : ∃ w4, w4 = w3.alloc (.cells #[.slice A n c, .slice A' n' c', .int .i64 o] 29) := ⟨_, rfl⟩
        rw [← hw]
        have HBX : Hid (Box w4 w3.heap.size 29 #[.slice A n c, .slice A' n' c', .int .i64 o]) := Lib.hid (by rw [hw]; exact Box.fresh w3 _ _)
        have hg : w3.grownBy w4 none := by rw [hw]; exact World.grownBy_alloc w3 _ none
        have HG4 := Lib.hid (grown_join HG3.out hg (.inr (by simp)))
        have HBV := Lib.hid (HBV.out.grown hg (by simp))
        clear hw hg
        go_wp2_with fail
        refine (HC1.out _ HG4.out).mono ?_
        rintro e w5 ⟨A1, n1, c1, B1, m1, d1, rfl, h, h', hg⟩
        have HG5 := Lib.hid (grown_join HG4.out hg (.inr (by simp)))
        have HBV := Lib.hid (HBV.out.grown hg (by simp))
        have HBX := Lib.hid (HBX.out.grown hg (by simp))
        have HA1 := Lib.hid h
        have HB1 := Lib.hid h'
        clear hg h h'
        go_upto_region 5 with fail
        obtain ⟨w6, hw⟩ : ∃ w6, w6 = w5.alloc (.cells #[.slice A1 n1 c1, .slice B1 m1 d1, .int .i64 o1] 29) := ⟨_, rfl⟩
        rw [← hw]
        have HX1 : Hid (Box w6 w5.heap.size 29 #[.slice A1 n1 c1, .slice B1 m1 d1, .int .i64 o1]) := Lib.hid (by rw [hw]; exact Box.fresh w5 _ _)
        have hg : w5.grownBy w6 none := by rw [hw]; exact World.grownBy_alloc w5 _ none
        have HG6 := Lib.hid (grown_join HG5.out hg (.inr (by simp)))
        have HA1 := Lib.hid (HA1.out.grow hg)
        have HB1 := Lib.hid (HB1.out.grow hg)
        have HBV := Lib.hid (HBV.out.grown hg (by simp))
        have HBX := Lib.hid (HBX.out.grown hg (by simp))
        clear hw hg
        go_wp2_with fail
        refine (HC2.out _ HG6.out).mono ?_
        rintro e w7 ⟨A2, n2, c2, B2, m2, d2, rfl, h, h', hg⟩
        have HG7 := Lib.hid (grown_join HG6.out hg (.inr (by simp)))
        have HA1 := Lib.hid (HA1.out.grow hg)
        have HB1 := Lib.hid (HB1.out.grow hg)
        have HBV := Lib.hid (HBV.out.grown hg (by simp))
        have HBX := Lib.hid (HBX.out.grown hg (by simp))
        have HX1 := Lib.hid (HX1.out.grown hg (by simp))
        have HA2 := Lib.hid h
        have HB2 := Lib.hid h'
        clear hg h h'
        go_upto_region 6 with fail
        obtain ⟨w8, hw⟩ : ∃ w8, w8 = w7.alloc (.cells #[.slice A2 n2 c2, .slice B2 m2 d2, .int .i64 o1] 24) := ⟨_, rfl⟩
        rw [← hw]
        have HX2 : Hid (Box w8 w7.heap.size 24 #[.slice A2 n2 c2, .slice B2 m2 d2, .int .i64 o1]) := Lib.hid (by rw [hw]; exact Box.fresh w7 _ _)
        have hg : w7.grownBy w8 none := by rw [hw]; exact World.grownBy_alloc w7 _ none
        have HG8 := Lib.hid (grown_join HG7.out hg (.inr (by simp)))
        have HA1 := Lib.hid (HA1.out.grow hg)
        have HB1 := Lib.hid (HB1.out.grow hg)
        have HA2 := Lib.hid (HA2.out.grow hg)
        have HB2 := Lib.hid (HB2.out.grow hg)
        have HBV := Lib.hid (HBV.out.grown hg (by simp))
        have HBX := Lib.hid (HBX.out.grown hg (by simp))
        have HX1 := Lib.hid (HX1.out.grown hg (by simp))
        clear hw hg
        have x0 := HBX.out.get 0
        have x1 := HBX.out.get 1
        have x2 := HBX.out.get 2
        go_wp2_with fail
        refine (HC3.out _ HG8.out).mono ?_
        rintro e w9 ⟨rfl, hg⟩
        have HG9 := Lib.hid (grown_join HG8.out hg (.inr (by simp)))
        have HA1 := Lib.hid (HA1.out.grow hg)
        have HB1 := Lib.hid (HB1.out.grow hg)
        have HA2 := Lib.hid (HA2.out.grow hg)
        have HB2 := Lib.hid (HB2.out.grow hg)
        have HBV := Lib.hid (HBV.out.grown hg (by simp))
        have HBX := Lib.hid (HBX.out.grown hg (by simp))
        have HX1 := Lib.hid (HX1.out.grown hg (by simp))
        have HX2 := Lib.hid (HX2.out.grown hg (by simp))
        clear hg x0 x1 x2
        have x0 := HBV.out.get 0
        have x1 := HBV.out.get 1
        have x2 := HBV.out.get 2
        go_wp2_with fail
        refine (HC4.out _ HG9.out).mono ?_
        rintro e w10 ⟨rfl, hg⟩
        have HG10 := Lib.hid (grown_join HG9.out hg (.inr (by simp)))
        have HA1 := Lib.hid (HA1.out.grow hg)
        have HB1 := Lib.hid (HB1.out.grow hg)
        have HA2 := Lib.hid (HA2.out.grow hg)
        have HB2 := Lib.hid (HB2.out.grow hg)
        have HBV := Lib.hid (HBV.out.grown hg (by simp))
        have HBX := Lib.hid (HBX.out.grown hg (by simp))
        have HX1 := Lib.hid (HX1.out.grown hg (by simp))
        have HX2 := Lib.hid (HX2.out.grown hg (by simp))
        clear hg x0 x1 x2
        have x0 := HBX.out.get 0
        have x1 := HBX.out.get 1
        have x2 := HBX.out.get 2
        go_wp2_with fail
        refine (HC5.out _ HG10.out).mono ?_
        rintro e w11 ⟨rfl, hg⟩
        have HG11 := Lib.hid (grown_join HG10.out hg (.inr (by simp)))
        have HA1 := Lib.hid (HA1.out.grow hg)
        have HB1 := Lib.hid (HB1.out.grow hg)
        have HA2 := Lib.hid (HA2.out.grow hg)
        have HB2 := Lib.hid (HB2.out.grow hg)
        have HBV := Lib.hid (HBV.out.grown hg (by simp))
        have HBX := Lib.hid (HBX.out.grown hg (by simp))
        have HX1 := Lib.hid (HX1.out.grown hg (by simp))
        have HX2 := Lib.hid (HX2.out.grown hg (by simp))
        clear hg x0 x1 x2
        have x0 := HBV.out.get 0
        have x1 := HBV.out.get 1
        have x2 := HBV.out.get 2
        go_wp2_with fail
        refine (HC6.out _ HG11.out).mono ?_
        rintro e w12 ⟨rfl, hg⟩
        have HG12 := Lib.hid (grown_join HG11.out hg (.inr (by simp)))
        have HA1 := Lib.hid (HA1.out.grow hg)
        have HB1 := Lib.hid (HB1.out.grow hg)
        have HA2 := Lib.hid (HA2.out.grow hg)
        have HB2 := Lib.hid (HB2.out.grow hg)
        have HBV := Lib.hid (HBV.out.grown hg (by simp))
        have HBX := Lib.hid (HBX.out.grown hg (by simp))
        have HX1 := Lib.hid (HX1.out.grown hg (by simp))
        have HX2 := Lib.hid (HX2.out.grown hg (by simp))
        clear hg x0 x1 x2
        go_upto_region 10 with fail
        go_cut [24] from 75 to 89 (fun v wx => v = .bool fb ∧ w12.grownBy wx none)
        case first =>
          have x0 := HBV.out.get 0
          have x1 := HBV.out.get 1
          have x2 := HBV.out.get 2
          cases rv with
          | false =>
            go_wp2_with fail
            refine (HRR.out _ HG12.out).mono ?_
            rintro e w99 ⟨rfl, hg⟩
            have HGC := Lib.hid hg
            clear hg
            go_wp2_with fail
            go_meet
            exact ⟨congrArg Value.bool (by rw [HFE.out]; rfl), HGC.out⟩
          | true =>
            cases sb with
            | false =>
              go_wp2_with fail
              refine (HRR.out _ HG12.out).mono ?_
              rintro e w99 ⟨rfl, hg⟩
              have HGC := Lib.hid hg
              clear hg
              go_wp2_with fail
              go_meet
              exact ⟨congrArg Value.bool (by rw [HFE.out]; rfl), HGC.out⟩
            | true =>
              by_cases hlo : 0 ≤ lo
              · by_cases hhi : hi < x
                · have HQ := Lib.hid (show decide (0 ≤ lo ∧ hi < x) = true from decide_eq_true ⟨hlo, hhi⟩)
                  have d0 : decide (0 ≤ lo) = true := decide_eq_true hlo
                  have d1 : decide (hi < x) = true := decide_eq_true hhi
                  go_wp2_with fail
                  refine (HRR.out _ HG12.out).mono ?_
                  rintro e w99 ⟨rfl, hg⟩
                  have HGC := Lib.hid hg
                  clear hg
                  go_wp2_with fail
                  go_meet
                  exact ⟨congrArg Value.bool (by rw [HFE.out]; rw [HQ.out]; rfl), HGC.out⟩
                · have HQ := Lib.hid (show decide (0 ≤ lo ∧ hi < x) = false from decide_eq_false fun h => hhi h.2)
                  have d0 : decide (0 ≤ lo) = true := decide_eq_true hlo
                  have d1 : decide (hi < x) = false := decide_eq_false hhi
                  go_wp2_with fail
                  refine (HRR.out _ HG12.out).mono ?_
                  rintro e w99 ⟨rfl, hg⟩
                  have HGC := Lib.hid hg
                  clear hg
                  go_wp2_with fail
                  go_meet
                  exact ⟨congrArg Value.bool (by rw [HFE.out]; rw [HQ.out]; rfl), HGC.out⟩
              · have HQ := Lib.hid (show decide (0 ≤ lo ∧ hi < x) = false from decide_eq_false fun h => hlo h.1)
                have d0 : decide (0 ≤ lo) = false := decide_eq_false hlo
                go_wp2_with fail
                refine (HRR.out _ HG12.out).mono ?_
                rintro e w99 ⟨rfl, hg⟩
                have HGC := Lib.hid hg
                clear hg
                go_wp2_with fail
                go_meet
                exact ⟨congrArg Value.bool (by rw [HFE.out]; rw [HQ.out]; rfl), HGC.out⟩
        case rest =>
          obtain ⟨rfl, hg⟩ := hcut
          have HG99 := Lib.hid (grown_join HG12.out hg (.inr (by simp)))
          have HA1 := Lib.hid (HA1.out.grow hg)
          have HB1 := Lib.hid (HB1.out.grow hg)
          have HA2 := Lib.hid (HA2.out.grow hg)
          have HB2 := Lib.hid (HB2.out.grow hg)
          have HBV := Lib.hid (HBV.out.grown hg (by simp))
          have HBX := Lib.hid (HBX.out.grown hg (by simp))
          have HX1 := Lib.hid (HX1.out.grown hg (by simp))
          have HX2 := Lib.hid (HX2.out.grown hg (by simp))
          clear hg
          obtain ⟨w99, rfl⟩ : ∃ w99, w99 = wc := ⟨_, rfl⟩
          go_upto_region 11 with fail
          have HS1 := Lib.hid (fun w' (hg : w99.grownBy w' none) => same8_any A1 B1 A2 B2 n1 c1 m1 d1 n2 c2 m2 d2 s1 t1 o1 b1 w' (HA1.out.grow hg) (HB1.out.grow hg) (HA2.out.grow hg) (HB2.out.grow hg) (by have h : s1.length ≤ 6 := HSH1.out.1; omega) (by have h : t1.length ≤ 6 := HSH1.out.2; omega))
          have HRRL := Lib.hid (fun w' (hg : w99.grownBy w' none) => HRR.out w' (grown_join HG99.out hg (.inr (by simp))))
          have HROL := Lib.hid (fun w' (hg : w99.grownBy w' none) => HRO.out w' (grown_join HG99.out hg (.inr (by simp))))
          have HFTL := Lib.hid (fun w' (hg : w99.grownBy w' none) => HFT.out w' (grown_join HG99.out hg (.inr (by simp))))
          have HKNL := Lib.hid (fun w' (hg : w99.grownBy w' none) => HKN.out w' (grown_join HG99.out hg (.inr (by simp))))
          have HGC := Lib.hid (grown_refl w99 none)
          have KEEP0 := Lib.hid (boxes8_4 HX1.out HX2.out HBX.out HBV.out)
          have KEEPD := Lib.hid (boxes8_4 (box8_drew HX1.out) (box8_drew HX2.out) (box8_drew HBX.out) (box8_drew HBV.out))
          go_region_held3 (fun w' => w'.cell? ⟨w5.heap.size, 0, none⟩ = some (.slice A1 n1 c1) ∧ w'.cell? ⟨w5.heap.size, 1, none⟩ = some (.slice B1 m1 d1) ∧ w'.cell? ⟨w5.heap.size, 2, none⟩ = some (.int .i64 o1) ∧ w'.cell? ⟨w7.heap.size, 0, none⟩ = some (.slice A2 n2 c2) ∧ w'.cell? ⟨w7.heap.size, 1, none⟩ = some (.slice B2 m2 d2) ∧ w'.cell? ⟨w7.heap.size, 2, none⟩ = some (.int .i64 o1) ∧ w'.cell? ⟨w3.heap.size, 0, none⟩ = some (.slice A n c) ∧ w'.cell? ⟨w3.heap.size, 1, none⟩ = some (.slice A' n' c') ∧ w'.cell? ⟨w3.heap.size, 2, none⟩ = some (.int .i64 o) ∧ w'.cell? ⟨w.heap.size, 0, none⟩ = some (.slice A n c) ∧ w'.cell? ⟨w.heap.size, 1, none⟩ = some (.slice A' n' c') ∧ w'.cell? ⟨w.heap.size, 2, none⟩ = some (.int .i64 o)) (first | (with_reducible exact KEEP.out) | (with_reducible exact KEEPD.out) | (with_reducible exact KEEP0.out) | exact KEEP.out | exact KEEPD.out) (first
            | (go_at_call 18; (with_reducible refine (HROL.out _ HGC.out).mono ?_); rintro e w199 ⟨rfl, hg⟩; have HGC := Lib.hid (grown_join HGC.out hg (.inr (by simp))); clear hg; have KEEP := Lib.hid (boxes8_4 (HX1.out.grown HGC.out (by simp)) (HX2.out.grown HGC.out (by simp)) (HBX.out.grown HGC.out (by simp)) (HBV.out.grown HGC.out (by simp))))
            | (go_at_call 16; (with_reducible refine (HRRL.out _ HGC.out).mono ?_); rintro e w199 ⟨rfl, hg⟩; have HGC := Lib.hid (grown_join HGC.out hg (.inr (by simp))); clear hg; have KEEP := Lib.hid (boxes8_4 (HX1.out.grown HGC.out (by simp)) (HX2.out.grown HGC.out (by simp)) (HBX.out.grown HGC.out (by simp)) (HBV.out.grown HGC.out (by simp))))
            | (go_at_call 19; (with_reducible refine (HFTL.out _ HGC.out).mono ?_); rintro e w199 ⟨rfl, hg⟩; have HGC := Lib.hid (grown_join HGC.out hg (.inr (by simp))); clear hg; have KEEP := Lib.hid (boxes8_4 (HX1.out.grown HGC.out (by simp)) (HX2.out.grown HGC.out (by simp)) (HBX.out.grown HGC.out (by simp)) (HBV.out.grown HGC.out (by simp))))
            | (go_at_call 8; (with_reducible refine (HKNL.out _ HGC.out).mono ?_); rintro e w199 ⟨rfl, hg⟩; have HGC := Lib.hid (grown_join HGC.out hg (.inr (by simp))); clear hg; have KEEP := Lib.hid (boxes8_4 (HX1.out.grown HGC.out (by simp)) (HX2.out.grown HGC.out (by simp)) (HBX.out.grown HGC.out (by simp)) (HBV.out.grown HGC.out (by simp))))
            | (go_at_call 17; (with_reducible refine (HS1.out _ (grown_drew HGC.out)).mono ?_); rintro e w199 ⟨rfl, hg⟩; have HGC := Lib.hid (grown_join (grown_drew HGC.out) hg (.inr (by simp))); clear hg; have KEEP := Lib.hid (boxes8_4 (HX1.out.grown HGC.out (by simp)) (HX2.out.grown HGC.out (by simp)) (HBX.out.grown HGC.out (by simp)) (HBV.out.grown HGC.out (by simp))))
            )
          all_goals go_wp2
          all_goals go_ret
          all_goals exact ⟨rfl, grown_join HG99.out HGC.out (.inr (by simp))⟩
end Go.Proofs.Ytkpfhjjojchdlaa
