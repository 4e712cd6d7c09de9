/-
  Layer 5: the walk of LabelTells.
-/
import Derived.Test.YtblmnbaejfhagaaGreatDoorAll5
import Derived.Test.YtblmnbaejfhagaaGreatDoorUniqO5
namespace Go.Proofs.YtblmnbaejfhagaaGreatDoor
open Go.ChangeShapes Go.WideShapes Go.ChangeAt Go.RowKit
set_option linter.unusedVariables false

theorem PartsV.labs {e : TypeId} {a : Lab} {base n c : Nat} {A : Option Addr} {w : World} (h : PartsV e (partsE a) base A n c w) : Labs w w.heap.size A n (partsD a) ∧ n ≤ 4 := by
  unfold partsD
  rcases h with ⟨h1, rfl, rfl, rfl⟩ | ⟨out, h1, rfl, _, ho⟩
  · rw [h1]; exact ⟨Labs.nil _ _, by omega⟩
  · rw [h1]; exact ⟨ho.labs, parts_le h1⟩
/-- a slice of these labels is told. -/
def ToldLabs (l : List Lab) (w : World) (en : Ending) (w' : World) : Prop := ∃ A n c, en = .returned (.slice A n c) ∧ Labs w' w'.heap.size A n l ∧ n ≤ 1048576 ∧ w.grownBy w' none
theorem PartsG.told {e : TypeId} {a : Lab} {w w' : World} {en : Ending} (h : PartsG e (partsE a) w en w') : ToldLabs (partsD a) w en w' := by
  obtain ⟨A, n, c, rfl, hp, hg⟩ := h
  exact ⟨A, n, c, rfl, hp.labs.1, by have := hp.labs.2; omega, hg⟩
theorem GaveLabs.told {e : TypeId} {l : List Lab} {w w' : World} {en : Ending} (h : GaveLabs e l w en w') (hl : l.length ≤ 1048576) : ToldLabs l w en w' := by
  obtain ⟨A, c, rfl, ho, hg⟩ := h
  exact ⟨A, _, c, rfl, ho.labs, hl, hg⟩
theorem SaysD.g {P : Prop} {w w' : World} {en : Ending} (h : SaysD P w en w') : SaysG P w en w' := by
  obtain ⟨b, rfl, hb, m, rfl⟩ := h
  exact ⟨b, rfl, hb, grown_drewN (grown_refl _ _) _⟩
theorem same_bool {P : Prop} {x y : Bool} (h1 : x = true ↔ P) (h2 : y = true ↔ P) : x = y := by
  cases x <;> cases y <;> simp_all
set_option maxRecDepth 100000 in
set_option maxHeartbeats 4000000 in
theorem tells5_any (ak an kind : Int) (as' : ByteArray) (A : Option Addr) (n c : Nat) (l : List Lab) (w : World) (ha : LabIn ⟨ak, an, as'⟩) (h : Labs w w.heap.size A n l) (hin : ∀ i, LabIn (l.getD i noLab)) (hn : n ≤ 9223372036854775807) (hk0 : 0 ≤ kind) (hk1 : kind < 256) (hv : Vars w) :
    Calls Tryz.prog 3 #[.agg #[.int .u8 ak, .int .i64 an, .string as'], .slice A n c, .int .u8 kind] w (ToldG (.bool true) w) := by
  have HV := Lib.hid hv
  have HK := Lib.hid (fun w' hv => knows5_any intSays textSays tupleSays readSays showSays partsSays compareSays w' hv)
  have H := Lib.hid h
  have HL := Lib.hid h.1
  have HIN := Lib.hid hin
  have HA := Lib.hid ha
  have HG0 := Lib.hid (World.grownBy_alloc w (.cells #[.int .u8 ak, .int .i64 an, .string as'] 23) none)
  have HBX := Lib.hid (Box.fresh w 23 #[.int .u8 ak, .int .i64 an, .string as'])
  have HLI := Lib.hid (light_any A n c l _ _ (h.grow HG0.out) hn)
  clear h hin ha hv
  go_enter Tryz.func3, Tryz.ntmps3
  go_wp2_with fail
  refine HLI.out.mono ?_
  rintro e w1 ⟨b, rfl, hl, hw1⟩
  have HLT := Lib.hid hl
  have HG1 := Lib.hid (show w.grownBy w1 none by rw [hw1]; exact HG0.out)
  have HB1 := Lib.hid (show Box w1 w.heap.size 23 #[.int .u8 ak, .int .i64 an, .string as'] by rw [hw1]; exact HBX.out)
  clear hw1 hl HLI HBX HG0
  obtain ⟨q0, q1, q2⟩ := cells3 HB1.out
  cases b
  · go_wp2_with fail
    refine (HK.out _ (HV.out.grow HG1.out)).mono ?_
    rintro e w2 ⟨rfl, hg⟩
    have HG2 := Lib.hid (grown_join HG1.out hg (.inr (by simp)))
    clear hg q0 q1 q2
    go_wp2_with fail
    go_ret
    exact ⟨rfl, HG2.out⟩
  · by_cases h60 : n ≤ 60
    · have d1 : decide ((60 : Int) < (n : Int)) = false := by simp; omega
      by_cases h300 : as'.size ≤ 300
      · have d2 : decide ((300 : Int) < (as'.size : Int)) = false := by simp; omega
        have HOK := Lib.hid (show ∀ i, i < n → okL (l.getD i noLab) from fun i hi => by
          obtain ⟨h1, h2, h3, h4⟩ := HIN.out i
          exact ⟨h1, h2, h3, h4, by have := (HLT.out rfl).2 i (by rw [HL.out]; exact hi); omega⟩)
        have HLN := Lib.hid (show l.length ≤ 1048576 by rw [HL.out]; omega)
        have HOWN := Lib.hid (fun w' (hg : w.grownBy w' none) => (lawOwn_any A n c l w' (H.out.grow hg) (by omega)).mono fun _ _ h => h.told HLN.out)
        have HTU := Lib.hid (fun A' c' k w' (h : Labs w' w'.heap.size A' k l) (hk : k ≤ 1048576) => tupleSays A' k c' l w' h hk (by
          have := h.1.symm.trans HL.out
          subst this
          exact HOK.out))
        have HRT := Lib.hid (fun w' (hg : w.grownBy w' none) => ref5Tuple_any A n c l w' (H.out.grow hg) (by omega) (fun i hi => by
          obtain ⟨_, _, h3, h4, h5⟩ := HOK.out i hi
          exact ⟨h5, h3, h4⟩))
        go_wp2_with fail
        refine (HOWN.out _ HG1.out).mono ?_
        rintro e w2 ⟨A2, n2, c2, rfl, hl2, hn2, hg⟩
        have HG2 := Lib.hid (grown_join HG1.out hg (.inr (by simp)))
        have HB2 := Lib.hid (HB1.out.grown hg (by simp))
        have HTU2 := Lib.hid (HTU.out A2 c2 n2 w2 hl2 hn2)
        clear hg q0 q1 q2 hl2
        go_wp2_with fail
        refine HTU2.out.mono ?_
        intro e w3 hgt
        obtain ⟨⟨yk, yn, ys⟩, ok, ⟨rfl, hg⟩, hy, hok⟩ := hgt.any
        have HG3 := Lib.hid (grown_join HG2.out hg (.inr (by simp)))
        have HB3 := Lib.hid (HB2.out.grown hg (by simp))
        have HTE := Lib.hid (And.intro hy hok)
        clear hg hgt hy hok HTU2 hn2
        dsimp only
        go_wp2_with fail
        refine (HRT.out _ (grown_alloc HG3.out _)).mono ?_
        intro e w4 hgt
        obtain ⟨⟨zk, zn, zs⟩, is, ⟨rfl, hg⟩, hz, his⟩ := hgt.any
        obtain rfl : ok = is := HTE.out.2.symm.trans his
        have he := HTE.out.1.symm.trans hz
        injection he with e1 e2 e3
        subst e1 e2 e3
        have HG4 := Lib.hid (grown_join (grown_alloc HG3.out _) hg (.inr (by simp)))
        have HBA := Lib.hid (((HB3.out.alloc (.cells #[.int .u8 yk, .int .i64 yn, .string ys] 27)).grown hg (by simp)).alloc (.cells #[.int .u8 yk, .int .i64 yn, .string ys] 23))
        have HBY := Lib.hid (((Box.fresh w3 27 #[.int .u8 yk, .int .i64 yn, .string ys]).grown hg (by simp)).alloc (.cells #[.int .u8 yk, .int .i64 yn, .string ys] 23))
        have HBZ := Lib.hid (Box.fresh w4 23 #[.int .u8 yk, .int .i64 yn, .string ys])
        clear hg hgt hz his HTE
        dsimp only
        go_upto_region 5 with fail
        obtain ⟨W5, hW5⟩ : ∃ W5, W5 = w4.alloc (.cells #[.int .u8 yk, .int .i64 yn, .string ys] 23) := ⟨_, rfl⟩
        rw [← hW5]
        have HG5 := Lib.hid (show w.grownBy W5 none by rw [hW5]; exact grown_alloc HG4.out _)
        have HBA5 := Lib.hid (show Box W5 w.heap.size 23 #[.int .u8 ak, .int .i64 an, .string as'] by rw [hW5]; exact HBA.out)
        have HBY5 := Lib.hid (show Box W5 w3.heap.size 27 #[.int .u8 yk, .int .i64 yn, .string ys] by rw [hW5]; exact HBY.out)
        have HBZ5 := Lib.hid (show Box W5 w4.heap.size 23 #[.int .u8 yk, .int .i64 yn, .string ys] by rw [hW5]; exact HBZ.out)
        clear hW5 HBA HBY HBZ HG4 HG3 HG2 HG1 HB1 HB2 HB3
        have NINE := Lib.hid (nine_box (a := ⟨ak, an, as'⟩) (b := ⟨yk, yn, ys⟩) (c := ⟨yk, yn, ys⟩) HBA5.out HBY5.out HBZ5.out)
        have HGC := Lib.hid (grown_refl W5 none)
        have okA : okL ⟨ak, an, as'⟩ := ⟨HA.out.1, HA.out.2.1, HA.out.2.2.1, HA.out.2.2.2, by show as'.size ≤ 1048576; omega⟩
        have HRi := Lib.hid (fun w' => show Calls Tryz.prog 9 #[.agg #[.int .u8 ak, .int .i64 an, .string as']] w' (ToldG (.bool (rightE ⟨ak, an, as'⟩)) w') from rightSays _ w' okA)
        have HRr := Lib.hid (fun w' => ref5Right_any ak an as' w' okA.2.2.2.2)
        have HPa := Lib.hid (fun w' => show Calls Tryz.prog 13 #[.agg #[.int .u8 ak, .int .i64 an, .string as']] w' (ToldLabs (partsD ⟨ak, an, as'⟩) w') from (partsSays _ w' okA).mono fun _ _ h => h.told)
        have HPr := Lib.hid (fun w' => (ref5Parts_any ak an as' w' okA.2.2.2.2).mono fun _ _ h => h.told)
        generalize rightE ⟨ak, an, as'⟩ = rb at *
        generalize partsD ⟨ak, an, as'⟩ = lp at *
        have HRf := Lib.hid (fun A' n' c' w' (h : Labs w' w'.heap.size A' n' lp) (hn : n' ≤ 1048576) => (lawRef_any A' n' c' lp w' h hn).mono fun _ _ h2 => h2.told (by rw [h.1]; exact hn))
        have HSm := Lib.hid (fun A' n' c' A'' n'' c'' w' (h : Labs w' w'.heap.size A' n' lp) (h2 : Labs w' w'.heap.size A'' n'' lp) (hn : n' ≤ 1048576) (hn2 : n'' ≤ 1048576) => (ref5Same_any A' A'' n' n'' c' c'' lp lp _ _ w' h h2 hn hn2).mono fun e w2 (h3 : ToldD _ w' e w2) => show ToldG (.bool true) w' e w2 from by
          obtain ⟨rfl, m, rfl⟩ := h3
          exact ⟨by rw [decide_eq_true rfl], grown_drewN (grown_refl _ _) _⟩)
        have HOw := Lib.hid (fun w' (hg : W5.grownBy w' none) => HOWN.out w' (grown_join HG5.out hg (.inr (by simp))))
        have HOL := Lib.hid (fun n' (hn : l.length = n') => show ∀ i, i < n' → okL (l.getD i noLab) from by
          have := hn.symm.trans HL.out
          subst this
          exact HOK.out)
        have HUn := Lib.hid (fun A' n' c' w' (h : Labs w' w'.heap.size A' n' l) (hn : n' ≤ 1048576) => uniqueSays A' n' c' l w' h hn (HOL.out n' h.1))
        have HAl := Lib.hid (fun A' n' c' w' (h : Labs w' w'.heap.size A' n' l) (hn : n' ≤ 1048576) => allSays A' n' c' l kind w' h hn (HOL.out n' h.1) hk0 hk1)
        have HUr := Lib.hid (fun w' (hg : W5.grownBy w' none) => (ref5Unique_any A n c l _ w' (H.out.grow (grown_join HG5.out hg (.inr (by simp)))) (by omega)).mono fun _ _ h => h.g)
        have HAr := Lib.hid (fun w' (hg : W5.grownBy w' none) => ref5All_any A n c l kind w' (H.out.grow (grown_join HG5.out hg (.inr (by simp)))) (by omega) (fun i hi => (HOK.out i hi).2.2.2.2))
        have HIn := Lib.hid (fun w' => show Calls Tryz.prog 19 #[.int .i64 an] w' (ToldG (.agg #[.int .u8 0, .int .i64 an, .string ⟨#[]⟩]) w') from intSays an w' okA.2.2.1 okA.2.2.2.1)
        have HTx := Lib.hid (fun w' => show Calls Tryz.prog 20 #[.string as'] w' (ToldG (.agg #[.int .u8 1, .int .i64 0, .string as']) w') from textSays as' w' okA.2.2.2.2)
        have hq1 := eql_rlab ⟨yk, yn, ys⟩ ⟨yk, yn, ys⟩
        rw [show eqlL ⟨yk, yn, ys⟩ ⟨yk, yn, ys⟩ = true from decide_eq_true rfl] at hq1
        have hq2 := eql_rlab ⟨0, an, ⟨#[]⟩⟩ ⟨0, an, ⟨#[]⟩⟩
        rw [show eqlL ⟨0, an, ⟨#[]⟩⟩ ⟨0, an, ⟨#[]⟩⟩ = true from decide_eq_true rfl] at hq2
        have hq3 := eql_rlab ⟨1, 0, as'⟩ ⟨1, 0, as'⟩
        rw [show eqlL ⟨1, 0, as'⟩ ⟨1, 0, as'⟩ = true from decide_eq_true rfl] at hq3
        dsimp only at hq1 hq2 hq3
        clear okA H HL HIN HA HLT HTU HRT HOWN HOK HLN HOL d1 d2 h60 h300 hk0 hk1 hn
        go_region_held3 (fun w' => w'.cell? ⟨w.heap.size, 0, none⟩ = some (.int .u8 ak) ∧ w'.cell? ⟨w.heap.size, 1, none⟩ = some (.int .i64 an) ∧ w'.cell? ⟨w.heap.size, 2, none⟩ = some (.string as') ∧ w'.cell? ⟨w3.heap.size, 0, none⟩ = some (.int .u8 yk) ∧ w'.cell? ⟨w3.heap.size, 1, none⟩ = some (.int .i64 yn) ∧ w'.cell? ⟨w3.heap.size, 2, none⟩ = some (.string ys) ∧ w'.cell? ⟨w4.heap.size, 0, none⟩ = some (.int .u8 yk) ∧ w'.cell? ⟨w4.heap.size, 1, none⟩ = some (.int .i64 yn) ∧ w'.cell? ⟨w4.heap.size, 2, none⟩ = some (.string ys)) (first | exact KEEP.out | exact NINE.out) (first
          | (go_at_call 9; refine (HRi.out _).mono ?_; rintro e w9 ⟨rfl, hg⟩; have HGC := Lib.hid (grown_join (grown_drewN HGC.out _) hg (.inr (by simp))); clear hg; have KEEP := Lib.hid (nine_box (a := ⟨ak, an, as'⟩) (b := ⟨yk, yn, ys⟩) (c := ⟨yk, yn, ys⟩) (HBA5.out.grown HGC.out (by simp)) (HBY5.out.grown HGC.out (by simp)) (HBZ5.out.grown HGC.out (by simp))))
          | (go_at_call 10; refine (HRr.out _).mono ?_; rintro e w9 ⟨rfl, hg⟩; have HGC := Lib.hid (grown_join HGC.out hg (.inr (by simp))); clear hg; have KEEP := Lib.hid (nine_box (a := ⟨ak, an, as'⟩) (b := ⟨yk, yn, ys⟩) (c := ⟨yk, yn, ys⟩) (HBA5.out.grown HGC.out (by simp)) (HBY5.out.grown HGC.out (by simp)) (HBZ5.out.grown HGC.out (by simp))))
          | (go_at_call 13; refine (HPa.out _).mono ?_; rintro e w9 ⟨A5, n5, c5, rfl, hl5, hn5, hg⟩; have HGC := Lib.hid (grown_join HGC.out hg (.inr (by simp))); have HL5 := Lib.hid hl5; clear hl5; clear hg; have KEEP := Lib.hid (nine_box (a := ⟨ak, an, as'⟩) (b := ⟨yk, yn, ys⟩) (c := ⟨yk, yn, ys⟩) (HBA5.out.grown HGC.out (by simp)) (HBY5.out.grown HGC.out (by simp)) (HBZ5.out.grown HGC.out (by simp))))
          | (go_at_call 12; refine (HRf.out _ _ _ _ HL5.out hn5).mono ?_; rintro e w9 ⟨A6, n6, c6, rfl, hl6, hn6, hg⟩; have HGC := Lib.hid (grown_join HGC.out hg (.inr (by simp))); have HL6 := Lib.hid hl6; clear hl6; clear hg; have KEEP := Lib.hid (nine_box (a := ⟨ak, an, as'⟩) (b := ⟨yk, yn, ys⟩) (c := ⟨yk, yn, ys⟩) (HBA5.out.grown HGC.out (by simp)) (HBY5.out.grown HGC.out (by simp)) (HBZ5.out.grown HGC.out (by simp))))
          | (go_at_call 14; refine (HPr.out _).mono ?_; rintro e w9 ⟨A7, n7, c7, rfl, hl7, hn7, hg⟩; have HGC := Lib.hid (grown_join HGC.out hg (.inr (by simp))); have HL6 := Lib.hid (HL6.out.grow hg); have HL7 := Lib.hid hl7; clear hl7; clear hg; have KEEP := Lib.hid (nine_box (a := ⟨ak, an, as'⟩) (b := ⟨yk, yn, ys⟩) (c := ⟨yk, yn, ys⟩) (HBA5.out.grown HGC.out (by simp)) (HBY5.out.grown HGC.out (by simp)) (HBZ5.out.grown HGC.out (by simp))))
          | (go_at_call 11; refine (HSm.out _ _ _ _ _ _ _ HL6.out HL7.out hn6 hn7).mono ?_; rintro e w9 ⟨rfl, hg⟩; have HGC := Lib.hid (grown_join HGC.out hg (.inr (by simp))); clear hg; have KEEP := Lib.hid (nine_box (a := ⟨ak, an, as'⟩) (b := ⟨yk, yn, ys⟩) (c := ⟨yk, yn, ys⟩) (HBA5.out.grown HGC.out (by simp)) (HBY5.out.grown HGC.out (by simp)) (HBZ5.out.grown HGC.out (by simp))))
          | (go_at_call 7; refine (HOw.out _ HGC.out).mono ?_; rintro e w9 ⟨A8, n8, c8, rfl, hl8, hn8, hg⟩; have HGC := Lib.hid (grown_join HGC.out hg (.inr (by simp))); have HL8 := Lib.hid hl8; clear hl8; clear hg; have KEEP := Lib.hid (nine_box (a := ⟨ak, an, as'⟩) (b := ⟨yk, yn, ys⟩) (c := ⟨yk, yn, ys⟩) (HBA5.out.grown HGC.out (by simp)) (HBY5.out.grown HGC.out (by simp)) (HBZ5.out.grown HGC.out (by simp))))
          | (go_at_call 15; refine (HUn.out _ _ _ _ HL8.out hn8).mono ?_; rintro e w9 ⟨b1, rfl, hb1, hg⟩; have HGC := Lib.hid (grown_join HGC.out hg (.inr (by simp))); have HB1 := Lib.hid hb1; clear hb1; clear hg; have KEEP := Lib.hid (nine_box (a := ⟨ak, an, as'⟩) (b := ⟨yk, yn, ys⟩) (c := ⟨yk, yn, ys⟩) (HBA5.out.grown HGC.out (by simp)) (HBY5.out.grown HGC.out (by simp)) (HBZ5.out.grown HGC.out (by simp))))
          | (go_at_call 16; refine (HUr.out _ HGC.out).mono ?_; rintro e w9 ⟨b2, rfl, hb2, hg⟩; have HGC := Lib.hid (grown_join HGC.out hg (.inr (by simp))); obtain rfl := same_bool HB1.out hb2; clear hb2; clear hg; have KEEP := Lib.hid (nine_box (a := ⟨ak, an, as'⟩) (b := ⟨yk, yn, ys⟩) (c := ⟨yk, yn, ys⟩) (HBA5.out.grown HGC.out (by simp)) (HBY5.out.grown HGC.out (by simp)) (HBZ5.out.grown HGC.out (by simp))))
          | (go_at_call 17; refine (HAl.out _ _ _ _ HL8.out hn8).mono ?_; rintro e w9 ⟨b3, rfl, hb3, hg⟩; have HGC := Lib.hid (grown_join HGC.out hg (.inr (by simp))); have HB3 := Lib.hid hb3; clear hb3; clear hg; have KEEP := Lib.hid (nine_box (a := ⟨ak, an, as'⟩) (b := ⟨yk, yn, ys⟩) (c := ⟨yk, yn, ys⟩) (HBA5.out.grown HGC.out (by simp)) (HBY5.out.grown HGC.out (by simp)) (HBZ5.out.grown HGC.out (by simp))))
          | (go_at_call 18; refine (HAr.out _ HGC.out).mono ?_; rintro e w9 ⟨b4, rfl, hb4, hg⟩; have HGC := Lib.hid (grown_join HGC.out hg (.inr (by simp))); obtain rfl := same_bool HB3.out hb4; clear hb4; clear hg; have KEEP := Lib.hid (nine_box (a := ⟨ak, an, as'⟩) (b := ⟨yk, yn, ys⟩) (c := ⟨yk, yn, ys⟩) (HBA5.out.grown HGC.out (by simp)) (HBY5.out.grown HGC.out (by simp)) (HBZ5.out.grown HGC.out (by simp))))
          | (go_at_call 19; refine (HIn.out _).mono ?_; rintro e w9 ⟨rfl, hg⟩; have HGC := Lib.hid (grown_join HGC.out hg (.inr (by simp))); clear hg; have KEEP := Lib.hid (nine_box (a := ⟨ak, an, as'⟩) (b := ⟨yk, yn, ys⟩) (c := ⟨yk, yn, ys⟩) (HBA5.out.grown HGC.out (by simp)) (HBY5.out.grown HGC.out (by simp)) (HBZ5.out.grown HGC.out (by simp))))
          | (go_at_call 20; refine (HTx.out _).mono ?_; rintro e w9 ⟨rfl, hg⟩; have HGC := Lib.hid (grown_join HGC.out hg (.inr (by simp))); clear hg; have KEEP := Lib.hid (nine_box (a := ⟨ak, an, as'⟩) (b := ⟨yk, yn, ys⟩) (c := ⟨yk, yn, ys⟩) (HBA5.out.grown HGC.out (by simp)) (HBY5.out.grown HGC.out (by simp)) (HBZ5.out.grown HGC.out (by simp))))
          | (go_at_call 5; refine (HK.out _ (HV.out.grow (grown_join HG5.out HGC.out (.inr (by simp))))).mono ?_; rintro e w9 ⟨rfl, hg⟩; have HGC := Lib.hid (grown_join HGC.out hg (.inr (by simp))); clear hg; have KEEP := Lib.hid (nine_box (a := ⟨ak, an, as'⟩) (b := ⟨yk, yn, ys⟩) (c := ⟨yk, yn, ys⟩) (HBA5.out.grown HGC.out (by simp)) (HBY5.out.grown HGC.out (by simp)) (HBZ5.out.grown HGC.out (by simp))))
          )
        all_goals go_wp2
        all_goals go_ret
        all_goals exact ⟨rfl, grown_join HG5.out HGC.out (.inr (by simp))⟩
      · have d2 : decide ((300 : Int) < (as'.size : Int)) = true := by simp; omega
        go_wp2_with fail
        refine (HK.out _ (HV.out.grow HG1.out)).mono ?_
        rintro e w2 ⟨rfl, hg⟩
        have HG2 := Lib.hid (grown_join HG1.out hg (.inr (by simp)))
        clear hg q0 q1 q2
        go_wp2_with fail
        go_ret
        exact ⟨rfl, HG2.out⟩
    · have d1 : decide ((60 : Int) < (n : Int)) = true := by simp; omega
      go_wp2_with fail
      refine (HK.out _ (HV.out.grow HG1.out)).mono ?_
      rintro e w2 ⟨rfl, hg⟩
      have HG2 := Lib.hid (grown_join HG1.out hg (.inr (by simp)))
      clear hg q0 q1 q2
      go_wp2_with fail
      go_ret
      exact ⟨rfl, HG2.out⟩
theorem u8_of_wf {a : Int} (h : (Lit.int .u8 a).wf = true) : 0 ≤ a ∧ a < 256 := by
  have h1 : IntKind.u8.min = 0 := by decide
  have h2 : IntKind.u8.max = 255 := by decide
  have hw' : 0 ≤ a ∧ a ≤ 255 := by simpa [Lit.wf, h1, h2] using h
  omega
theorem labelTells_walk (a : Lab) (A : Option Addr) (n c : Nat) (l : List Lab) (kind : Int) (w : World) (ha : LabIn a) (h : Labs w w.heap.size A n l) (hl : ∀ i, LabIn (l.getD i noLab)) (hn : n ≤ 9223372036854775807) (hk : (Lit.int .u8 kind).wf = true) (hv : Vars w) :
    Calls Tryz.prog 3 #[.agg #[.int .u8 a.k, .int .i64 a.n, .string a.s], .slice A n c, .int .u8 kind] w fun e w' => e = .returned (.bool true) ∧ Below w.heap.size w w' := by
  refine (tells5_any a.k a.n kind a.s A n c l w ha h hl hn (u8_of_wf hk).1 (u8_of_wf hk).2 hv).mono ?_
  rintro e w' ⟨rfl, hg⟩
  exact ⟨rfl, below_of_grown hg⟩
end Go.Proofs.YtblmnbaejfhagaaGreatDoor
