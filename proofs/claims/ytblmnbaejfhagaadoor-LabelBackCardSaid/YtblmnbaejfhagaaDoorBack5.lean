/-
  Layer 5: the walk of LabelBack.
-/
import Derived.Test.YtblmnbaejfhagaaDoorBounds5
namespace Go.Proofs.YtblmnbaejfhagaaDoor
open Go.ChangeShapes Go.WideShapes Go.ChangeAt Go.RowKit
set_option linter.unusedVariables false

/-- what is read: a label and whether there is one. -/
theorem GaveTup.any {o : Option Lab} {w w' : World} {en : Ending} (h : GaveTup o w en w') : ∃ y : Lab, ∃ ok : Bool, ToldG (.tuple #[.agg #[.int .u8 y.k, .int .i64 y.n, .string y.s], .bool ok]) w en w' ∧ o.getD noLab = y ∧ o.isSome = ok := ⟨_, _, h, rfl, rfl⟩
/-- what a label told, and what was read of its text, say. -/
def BackOk (a y : Lab) (ok : Bool) : Prop := rightE a = true ∧ ok = true ∧ y = a ∨ rightE a = false ∧ showE a = []
def ReadOk (s : ByteArray) (z : Lab) (is : Bool) : Prop := is = true ∧ okL z ∧ z.s.size ≤ 300 ∧ rightE z = true ∧ txt (showE z) = s ∨ is = false ∧ z = noLab
theorem back_ok {a y : Lab} {ok : Bool} (h1 : -9223372036854775808 ≤ a.n) (h2 : a.n < 9223372036854775808) (hy : (readE (showE a)).getD noLab = y) (hok : (readE (showE a)).isSome = ok) : BackOk a y ok := by
  by_cases hr : rightE a = true
  · rw [read_show hr h1 h2] at hy hok
    exact .inl ⟨hr, hok.symm, hy.symm⟩
  · exact .inr ⟨by simpa using hr, show_wrong (by simpa using hr)⟩
theorem readok {s : ByteArray} {z : Lab} {is : Bool} (hz : (readE s.data.toList).getD noLab = z) (his : (readE s.data.toList).isSome = is) : ReadOk s z is := by
  cases h : readE s.data.toList with
  | none => rw [h] at hz his; exact .inr ⟨his.symm, hz.symm⟩
  | some x =>
    rw [h] at hz his
    obtain rfl : x = z := hz
    obtain ⟨h1, h2⟩ := show_read h
    exact .inl ⟨his.symm, (read_ok h).1, (read_ok h).2, h1, by rw [h2, txt_of]⟩
set_option maxRecDepth 100000 in
set_option maxHeartbeats 2000000 in
theorem back5_any (hI : IntSays) (hT : TextSays) (hU : TupleSays) (hR : ReadSays) (hS : ShowSays) (hP : PartsSays) (hC : CompareSays) (hRi : RightSays) (ak an : Int) (as' s : ByteArray) (w : World) (hk0 : 0 ≤ ak) (hk1 : ak < 256) (hn0 : -9223372036854775808 ≤ an) (hn1 : an < 9223372036854775808) (hv : Vars w) :
    Calls Tryd.prog 4 #[.agg #[.int .u8 ak, .int .i64 an, .string as'], .string s] w (ToldG (.bool true) w) := by
  have HV := Lib.hid hv
  clear hv
  have HK := Lib.hid (fun w' hv => knows5_any hI hT hU hR hS hP hC w' hv)
  have HG0 := Lib.hid (World.grownBy_alloc w (.cells #[.int .u8 ak, .int .i64 an, .string as'] 23) none)
  have HBX := Lib.hid (Box.fresh w 23 #[.int .u8 ak, .int .i64 an, .string as'])
  by_cases hb : as'.size ≤ 300
  · by_cases hs : s.size ≤ 300
    · have d1 : decide ((300 : Int) < (as'.size : Int)) = false := by simp; omega
      have d2 : decide ((300 : Int) < (s.size : Int)) = false := by simp; omega
      have hok : okL ⟨ak, an, as'⟩ := ⟨hk0, hk1, hn0, hn1, by show as'.size ≤ 1048576; omega⟩
      have HS := Lib.hid (fun w' hv => hS ⟨ak, an, as'⟩ w' hok hb hv)
      have HRI := Lib.hid (fun w' => hRi ⟨ak, an, as'⟩ w' hok)
      have HR1 := Lib.hid (fun w' hv => hR (txt (showE ⟨ak, an, as'⟩)) w' (by rw [txt_size]; have := showE_length (a := ⟨ak, an, as'⟩) hn0 hn1; omega) hv)
      rw [txt_data] at HR1
      have HR2 := Lib.hid (fun w' hv => hR s w' (by omega) hv)
      have HBK := Lib.hid (fun y ok => back_ok (a := ⟨ak, an, as'⟩) (y := y) (ok := ok) hn0 hn1)
      have HRK := Lib.hid (fun z is => readok (s := s) (z := z) (is := is))
      have HSZ := Lib.hid (fun (z : Lab) (h : okL z) (h2 : z.s.size ≤ 300) w' hv => hS z w' h h2 hv)
      have HRZ := Lib.hid (fun (z : Lab) (h : okL z) w' => hRi z w' h)
      clear hI hT hU hR hS hP hC hRi hb hs hk0 hk1 hn0 hn1 hok
      go_enter Tryd.func4, Tryd.ntmps4
      go_wp2_with fail
      refine (HK.out _ (HV.out.grow HG0.out)).mono ?_
      rintro e w1 ⟨rfl, hg⟩
      have HG1 := Lib.hid (grown_join HG0.out hg (.inr (by simp)))
      obtain ⟨q0, q1, q2⟩ := keep3 HBX.out hg
      clear hg
      go_wp2_with fail
      refine (HS.out _ (HV.out.grow (grown_alloc HG1.out _))).mono ?_
      rintro e w2 ⟨rfl, hg⟩
      have HX := Lib.hid ((Box.fresh w1 27 #[.int .u8 ak, .int .i64 an, .string as']).grown hg (by simp))
      have HG2 := Lib.hid (grown_join (grown_alloc HG1.out _) hg (.inr (by simp)))
      clear hg q0 q1 q2
      go_wp2_with fail
      refine (HR1.out _ (HV.out.grow HG2.out)).mono ?_
      intro e w3 hgt
      obtain ⟨⟨yk, yn, ys⟩, ok, ⟨rfl, hg⟩, hy, hok⟩ := hgt.any
      have HXB := Lib.hid (HX.out.grown hg (by simp))
      have HG3 := Lib.hid (grown_join HG2.out hg (.inr (by simp)))
      have HB := Lib.hid (HBK.out _ _ hy hok)
      clear hg hy hok hgt HX
      dsimp only
      go_wp2_with fail
      refine (HR2.out _ (HV.out.grow (grown_alloc HG3.out _))).mono ?_
      intro e w4 hgt
      obtain ⟨⟨zk, zn, zs⟩, is, ⟨rfl, hg⟩, hz, his⟩ := hgt.any
      have HXC := Lib.hid ((HXB.out.alloc (.cells #[.int .u8 yk, .int .i64 yn, .string ys] 27)).grown hg (by simp))
      have HYC := Lib.hid ((Box.fresh w3 27 #[.int .u8 yk, .int .i64 yn, .string ys]).grown hg (by simp))
      have HG4 := Lib.hid (grown_join (grown_alloc HG3.out _) hg (.inr (by simp)))
      have HZ := Lib.hid (HRK.out _ _ hz his)
      clear hg hz his hgt HXB
      dsimp only
      have HX4 := Lib.hid (HXC.out.alloc (.cells #[.int .u8 zk, .int .i64 zn, .string zs] 27))
      have HY4 := Lib.hid (HYC.out.alloc (.cells #[.int .u8 zk, .int .i64 zn, .string zs] 27))
      have HZ4 := Lib.hid (Box.fresh w4 27 #[.int .u8 zk, .int .i64 zn, .string zs])
      clear HXC HYC
      obtain ⟨x0, x1, x2⟩ := cells3 HX4.out
      obtain ⟨y0, y1, y2⟩ := cells3 HY4.out
      obtain ⟨z0, z1, z2⟩ := cells3 HZ4.out
      rcases HB.out with ⟨hr, rfl, hye⟩ | ⟨hr, hsh⟩
      · injection hye with e1 e2 e3
        subst e1 e2 e3
        rw [hr] at HRI
        clear hr HB
        have hn := neq_lab ⟨yk, yn, ys⟩ ⟨yk, yn, ys⟩
        rw [show eqlL ⟨yk, yn, ys⟩ ⟨yk, yn, ys⟩ = true from decide_eq_true rfl] at hn
        dsimp only [Bool.not_true] at hn
        go_wp2_with fail
        refine (HRI.out _).mono ?_
        rintro e w5 ⟨rfl, hg⟩
        have HX5 := Lib.hid (HX4.out.grown hg (by simp))
        have HY5 := Lib.hid (HY4.out.grown hg (by simp))
        have HZ5 := Lib.hid (HZ4.out.grown hg (by simp))
        have HG5 := Lib.hid (grown_join (grown_alloc HG4.out _) hg (.inr (by simp)))
        clear hg x0 x1 x2 y0 y1 y2 z0 z1 z2
        obtain ⟨x0, x1, x2⟩ := cells3 HX5.out
        obtain ⟨y0, y1, y2⟩ := cells3 HY5.out
        obtain ⟨z0, z1, z2⟩ := cells3 HZ5.out
        go_wp2_with fail
        refine (HRI.out _).mono ?_
        rintro e w6 ⟨rfl, hg⟩
        have HX6 := Lib.hid (HX5.out.grown hg (by simp))
        have HY6 := Lib.hid (HY5.out.grown hg (by simp))
        have HZ6 := Lib.hid (HZ5.out.grown hg (by simp))
        have HG6 := Lib.hid (grown_join HG5.out hg (.inr (by simp)))
        clear hg x0 x1 x2 y0 y1 y2 z0 z1 z2
        obtain ⟨x0, x1, x2⟩ := cells3 HX6.out
        obtain ⟨y0, y1, y2⟩ := cells3 HY6.out
        obtain ⟨z0, z1, z2⟩ := cells3 HZ6.out
        rcases HZ.out with ⟨rfl, hz1, hz2, hz3, hz4⟩ | ⟨rfl, hz1⟩
        · have HSZ2 := Lib.hid (fun w' hv => HSZ.out _ hz1 hz2 w' hv)
          have HRZ2 := Lib.hid (fun w' => HRZ.out _ hz1 w')
          rw [hz3] at HRZ2
          rw [hz4] at HSZ2
          clear hz1 hz2 hz3 hz4
          go_wp2_with fail
          refine (HRZ2.out _).mono ?_
          rintro e w7 ⟨rfl, hg⟩
          have HX7 := Lib.hid (HX6.out.grown hg (by simp))
          have HY7 := Lib.hid (HY6.out.grown hg (by simp))
          have HZ7 := Lib.hid (HZ6.out.grown hg (by simp))
          have HG7 := Lib.hid (grown_join HG6.out hg (.inr (by simp)))
          clear hg x0 x1 x2 y0 y1 y2 z0 z1 z2
          obtain ⟨x0, x1, x2⟩ := cells3 HX7.out
          obtain ⟨y0, y1, y2⟩ := cells3 HY7.out
          obtain ⟨z0, z1, z2⟩ := cells3 HZ7.out
          go_wp2_with fail
          refine (HSZ2.out _ (HV.out.grow HG7.out)).mono ?_
          rintro e w8 ⟨rfl, hg⟩
          have HX8 := Lib.hid (HX7.out.grown hg (by simp))
          have HY8 := Lib.hid (HY7.out.grown hg (by simp))
          have HZ8 := Lib.hid (HZ7.out.grown hg (by simp))
          have HG8 := Lib.hid (grown_join HG7.out hg (.inr (by simp)))
          clear hg x0 x1 x2 y0 y1 y2 z0 z1 z2
          obtain ⟨x0, x1, x2⟩ := cells3 HX8.out
          obtain ⟨y0, y1, y2⟩ := cells3 HY8.out
          obtain ⟨z0, z1, z2⟩ := cells3 HZ8.out
          go_wp2_with fail
          go_ret
          exact ⟨rfl, HG8.out⟩
        · injection hz1 with e1 e2 e3
          obtain rfl : zs = ⟨#[]⟩ := e3
          subst e1 e2
          have hq := eql_lab ⟨0, 0, ⟨#[]⟩⟩ ⟨0, 0, ⟨#[]⟩⟩
          rw [show eqlL ⟨0, 0, ⟨#[]⟩⟩ ⟨0, 0, ⟨#[]⟩⟩ = true from decide_eq_true rfl] at hq
          dsimp only at hq
          go_wp2_with fail
          go_ret
          exact ⟨rfl, HG6.out⟩
      · rw [hr] at HRI
        rw [hsh, show txt [] = ⟨#[]⟩ from rfl] at HS
        clear hr HB hsh
        go_wp2_with fail
        refine (HRI.out _).mono ?_
        rintro e w5 ⟨rfl, hg⟩
        have HX5 := Lib.hid (HX4.out.grown hg (by simp))
        have HY5 := Lib.hid (HY4.out.grown hg (by simp))
        have HZ5 := Lib.hid (HZ4.out.grown hg (by simp))
        have HG5 := Lib.hid (grown_join (grown_alloc HG4.out _) hg (.inr (by simp)))
        clear hg x0 x1 x2 y0 y1 y2 z0 z1 z2
        obtain ⟨x0, x1, x2⟩ := cells3 HX5.out
        obtain ⟨y0, y1, y2⟩ := cells3 HY5.out
        obtain ⟨z0, z1, z2⟩ := cells3 HZ5.out
        go_wp2_with fail
        refine (HRI.out _).mono ?_
        rintro e w6 ⟨rfl, hg⟩
        have HX6 := Lib.hid (HX5.out.grown hg (by simp))
        have HY6 := Lib.hid (HY5.out.grown hg (by simp))
        have HZ6 := Lib.hid (HZ5.out.grown hg (by simp))
        have HG6 := Lib.hid (grown_join HG5.out hg (.inr (by simp)))
        clear hg x0 x1 x2 y0 y1 y2 z0 z1 z2
        obtain ⟨x0, x1, x2⟩ := cells3 HX6.out
        obtain ⟨y0, y1, y2⟩ := cells3 HY6.out
        obtain ⟨z0, z1, z2⟩ := cells3 HZ6.out
        go_wp2_with fail
        refine (HS.out _ (HV.out.grow HG6.out)).mono ?_
        rintro e w7 ⟨rfl, hg⟩
        have HX7 := Lib.hid (HX6.out.grown hg (by simp))
        have HY7 := Lib.hid (HY6.out.grown hg (by simp))
        have HZ7 := Lib.hid (HZ6.out.grown hg (by simp))
        have HG7 := Lib.hid (grown_join HG6.out hg (.inr (by simp)))
        clear hg x0 x1 x2 y0 y1 y2 z0 z1 z2
        obtain ⟨x0, x1, x2⟩ := cells3 HX7.out
        obtain ⟨y0, y1, y2⟩ := cells3 HY7.out
        obtain ⟨z0, z1, z2⟩ := cells3 HZ7.out
        rcases HZ.out with ⟨rfl, hz1, hz2, hz3, hz4⟩ | ⟨rfl, hz1⟩
        · have HSZ2 := Lib.hid (fun w' hv => HSZ.out _ hz1 hz2 w' hv)
          have HRZ2 := Lib.hid (fun w' => HRZ.out _ hz1 w')
          rw [hz3] at HRZ2
          rw [hz4] at HSZ2
          clear hz1 hz2 hz3 hz4
          go_wp2_with fail
          refine (HRZ2.out _).mono ?_
          rintro e w8 ⟨rfl, hg⟩
          have HX8 := Lib.hid (HX7.out.grown hg (by simp))
          have HY8 := Lib.hid (HY7.out.grown hg (by simp))
          have HZ8 := Lib.hid (HZ7.out.grown hg (by simp))
          have HG8 := Lib.hid (grown_join HG7.out hg (.inr (by simp)))
          clear hg x0 x1 x2 y0 y1 y2 z0 z1 z2
          obtain ⟨x0, x1, x2⟩ := cells3 HX8.out
          obtain ⟨y0, y1, y2⟩ := cells3 HY8.out
          obtain ⟨z0, z1, z2⟩ := cells3 HZ8.out
          go_wp2_with fail
          refine (HSZ2.out _ (HV.out.grow HG8.out)).mono ?_
          rintro e w9 ⟨rfl, hg⟩
          have HX9 := Lib.hid (HX8.out.grown hg (by simp))
          have HY9 := Lib.hid (HY8.out.grown hg (by simp))
          have HZ9 := Lib.hid (HZ8.out.grown hg (by simp))
          have HG9 := Lib.hid (grown_join HG8.out hg (.inr (by simp)))
          clear hg x0 x1 x2 y0 y1 y2 z0 z1 z2
          obtain ⟨x0, x1, x2⟩ := cells3 HX9.out
          obtain ⟨y0, y1, y2⟩ := cells3 HY9.out
          obtain ⟨z0, z1, z2⟩ := cells3 HZ9.out
          go_wp2_with fail
          go_ret
          exact ⟨rfl, HG9.out⟩
        · injection hz1 with e1 e2 e3
          obtain rfl : zs = ⟨#[]⟩ := e3
          subst e1 e2
          have hq := eql_lab ⟨0, 0, ⟨#[]⟩⟩ ⟨0, 0, ⟨#[]⟩⟩
          rw [show eqlL ⟨0, 0, ⟨#[]⟩⟩ ⟨0, 0, ⟨#[]⟩⟩ = true from decide_eq_true rfl] at hq
          dsimp only at hq
          go_wp2_with fail
          go_ret
          exact ⟨rfl, HG7.out⟩
    · have d1 : decide ((300 : Int) < (as'.size : Int)) = false := by simp; omega
      have d2 : decide ((300 : Int) < (s.size : Int)) = true := by simp; omega
      clear hI hT hU hR hS hP hC hRi hb hs hk0 hk1 hn0 hn1
      go_enter Tryd.func4, Tryd.ntmps4
      go_wp2_with fail
      refine (HK.out _ (HV.out.grow HG0.out)).mono ?_
      rintro e w1 ⟨rfl, hg⟩
      have HG1 := Lib.hid (grown_join HG0.out hg (.inr (by simp)))
      clear hg
      go_wp2_with fail
      go_ret
      exact ⟨rfl, HG1.out⟩
  · have d1 : decide ((300 : Int) < (as'.size : Int)) = true := by simp; omega
    clear hI hT hU hR hS hP hC hRi hb hk0 hk1 hn0 hn1
    go_enter Tryd.func4, Tryd.ntmps4
    go_wp2_with fail
    refine (HK.out _ (HV.out.grow HG0.out)).mono ?_
    rintro e w1 ⟨rfl, hg⟩
    have HG1 := Lib.hid (grown_join HG0.out hg (.inr (by simp)))
    clear hg
    go_wp2_with fail
    go_ret
    exact ⟨rfl, HG1.out⟩
end Go.Proofs.YtblmnbaejfhagaaDoor
