/-
  Layer 5: the program's Show.
-/
import Derived.Test.YtblmnbaejfhagaaGreatDoorShowO5
namespace Go.Proofs.YtblmnbaejfhagaaGreatDoor
open Go.ChangeShapes Go.WideShapes Go.ChangeAt Go.RowKit
set_option linter.unusedVariables false

theorem info_pstr : (Tryz.prog.info? 9).map (fun i => (i.zero, i.size, i.bytes)) = some (some (.string noS), 1, 16) := by kernel_rfl
def shownV (l : List Lab) : List Value := l.map fun a => .string (txt (showP a))
theorem shownV_length (l : List Lab) : (shownV l).length = l.length := by simp [shownV]
theorem shownV_take {l : List Lab} {x : Nat} (h : x < l.length) : shownV (l.take (x + 1)) = shownV (l.take x) ++ [.string (txt (showP (l.getD x noLab)))] := by
  unfold shownV
  rw [List.take_succ_eq_append_getElem h, List.map_append, List.map_singleton, List.getD_eq_getElem?_getD, List.getElem?_eq_getElem h]
  rfl
theorem joinL_lib : ∀ (l : List Lab), Lib.join (l.map showP) [44] = joinL l
  | [] => rfl
  | [a] => by simp [Lib.join, List.intercalate, joinL]
  | a :: b :: l => by
    have ih := joinL_lib (b :: l)
    simp only [Lib.join, List.intercalate, List.map_cons] at ih ⊢
    simp only [joinL, ← ih, List.intersperse, List.flatten_cons, List.cons_append, List.nil_append]
theorem shown_map (l : List Lab) : ((l.map fun a => txt (showP a)).map (·.data.toList)) = l.map showP := by
  rw [List.map_map]
  refine List.map_congr_left fun a _ => ?_
  exact txt_data _
theorem joined_txt (l : List UInt8) : (⟨#[40]⟩ : ByteArray) ++ txt l ++ ⟨#[41]⟩ = txt (40 :: (l ++ [41])) := by
  have h1 : (⟨#[40]⟩ : ByteArray) = txt [40] := rfl
  have h2 : (⟨#[41]⟩ : ByteArray) = txt [41] := rfl
  rw [h1, h2, txt_add, txt_add]; rfl
set_option maxRecDepth 100000 in
set_option maxHeartbeats 4000000 in
theorem ownShow_any (k n : Int) (s : ByteArray) (w : World) (hs : s.size ≤ 1048576) (h1 : -9223372036854775808 ≤ n) (h2 : n < 9223372036854775808) (hv : Vars w) : Calls Tryz.prog 22 #[.agg #[.int .u8 k, .int .i64 n, .string s]] w (ToldG (.string (txt (showE ⟨k, n, s⟩))) w) := by
  have HRI := Lib.hid (fun w' => ownRight_any k n s w' hs h1 h2)
  have HPA := Lib.hid (fun w' => ownParts_any k n s w' hs h1 h2)
  have HV := Lib.hid hv
  have HIN := Lib.hid (info_parts info_pstr)
  have HSP := Lib.hid (fun a w' h hv => showPart_any a w' h hv)
  obtain ⟨w1, hw1⟩ : ∃ w1, w1 = w.alloc (.cells #[.int .u8 k, .int .i64 n, .string s] 27) := ⟨_, rfl⟩
  have HG1 := Lib.hid (show w.grownBy w1 none by rw [hw1]; exact World.grownBy_alloc w _ none)
  have HBX := Lib.hid (show Box w1 w.heap.size 27 #[.int .u8 k, .int .i64 n, .string s] by rw [hw1]; exact Box.fresh w _ _)
  have HW1 := Lib.hid hw1
  clear hw1 hv
  obtain ⟨q0, q1, q2⟩ := cells3 HBX.out
  go_enter Tryz.func22, Tryz.ntmps22
  go_upto_region 1 with fail
  rw [← HW1.out]
  go_wp2_with fail
  refine (HRI.out _).mono ?_
  rintro e w2 ⟨rfl, hg⟩
  have HG2 := Lib.hid (grown_join HG1.out hg (.inr (by simp)))
  have HB2 := Lib.hid (HBX.out.grown hg (by simp))
  clear hg q0 q1 q2 HBX
  obtain ⟨q0, q1, q2⟩ := cells3 HB2.out
  cases hr : rightE ⟨k, n, s⟩
  · have HE := Lib.hid (show_wrong hr)
    clear hr
    go_wp2_with fail
    go_ret
    exact toldG_eq (by rw [HE.out]; rfl) HG2.out
  · by_cases hk : k = 2
    · subst hk
      obtain ⟨out, ho, hne, hle, hpl, heq⟩ := tuple_parts (a := ⟨2, n, s⟩) rfl hr
      have HPL := Lib.hid hpl
      have HE : Hid (showE ⟨2, n, s⟩ = 40 :: (joinL out ++ [41])) := Lib.hid (by
        unfold showE
        rw [hr, if_neg (by simp), if_pos rfl]
        unfold partsD
        rw [ho]; rfl)
      have HJL := Lib.hid (joinL_length out hpl)
      rw [ho] at HPA
      have HNE := Lib.hid (show 0 < out.length by
        cases out with
        | nil => exact absurd rfl hne
        | cons _ _ => simp)
      clear hr ho hne hpl heq
      go_wp2_with fail
      refine (HPA.out _).mono ?_
      rintro e w3 hpe
      obtain ⟨A, c, rfl, hop, hg⟩ : ∃ A c, e = .returned (.slice (some A) out.length c) ∧ OwnL w3 w2.heap.size 27 (some A) out.length c out ∧ w2.grownBy w3 none := by
        rcases hpe with ⟨h, _⟩ | ⟨o, A, c, h, h3, h4, h5⟩
        · cases h
        · injection h with h
          subst h
          exact ⟨A, c, h3, h4, h5⟩
      have HG3 := Lib.hid (grown_join HG2.out hg (.inr (by simp)))
      have HLB := Lib.hid hop.labs
      clear hg hop hpe q0 q1 q2
      generalize hm : out.length = m at *
      have HM := Lib.hid hm
      clear hm
      go_wp2_with fail
      go_loopw [3, 17] (fun v3 v17 wr => ∃ x : Nat, x ≤ m ∧ v17 = .int .i64 (x : Int) ∧ wr.ownsRow w3.heap.size 9 1 v3 x (shownV (out.take x)) ∧ Below w3.heap.size w3 wr) (fun _ v17 _ => m - (intOf v17).toNat)
      case atStart => exact ⟨0, by omega, rfl, World.ownsRow_nil _ _ _ _, Below.refl _ _⟩
      case round =>
        obtain ⟨x, hx, rfl, ho, hb⟩ := hrel
        have HO := Lib.hid ho
        have HB := Lib.hid hb
        have HGR := Lib.hid (grown_below HG3.out hb)
        obtain ⟨A3, c3, hv3⟩ := own_slice3 ho
        subst hv3
        clear ho hb
        by_cases hlt : x < m
        · obtain ⟨b, off, hA, _, k0, k1, k2⟩ := (HLB.out.below HB.out).at_ hlt
          injection hA with hA
          subst hA
          have HT := Lib.hid (shownV_take (l := out) (x := x) (by rw [HM.out]; exact hlt))
          have HPX := Lib.hid (show plainL (out.getD x noLab) from HPL.out _ (by
            rw [List.getD_eq_getElem?_getD, List.getElem?_eq_getElem (by rw [HM.out]; exact hlt)]
            exact List.getElem_mem _))
          generalize out.getD x noLab = y at *
          obtain ⟨yk, yn, ys⟩ := y
          dsimp only at k0 k1 k2
          have i1 : (0 : Int) ≤ (x : Int) := by omega
          have i2 : (x : Int) < (m : Int) := by omega
          go_upto_region 9 with fail
          obtain ⟨W, hW⟩ : ∃ W, W = wr.alloc (.cells #[.int .u8 yk, .int .i64 yn, .string ys] 27) := ⟨_, rfl⟩
          rw [← hW]
          have HYB := Lib.hid (show Box W wr.heap.size 27 #[.int .u8 yk, .int .i64 yn, .string ys] by rw [hW]; exact Box.fresh _ _ _)
          have HBW := Lib.hid (show Below w3.heap.size w3 W by rw [hW]; exact HB.out.trans (below_alloc HB.out.size _))
          have HOW := Lib.hid (show W.ownsRow w3.heap.size 9 1 (.slice A3 x c3) x (shownV (out.take x)) by rw [hW]; exact HO.out.alloc _)
          clear hW k0 k1 k2
          obtain ⟨y0, y1, y2⟩ := cells3 HYB.out
          have HS := Lib.hid (HSP.out ⟨yk, yn, ys⟩ W HPX.out (HV.out.grow (grown_below HG3.out HBW.out)))
          dsimp only at HS
          go_wp2_with fail
          refine HS.out.mono ?_
          rintro e w4 ⟨rfl, hg⟩
          have HO4 := Lib.hid (own_grow HOW.out hg)
          have HB4 := Lib.hid (HBW.out.trans ((below_of_grown hg).mono HBW.out.size))
          have hsz4 := HB4.out.size
          clear hg y0 y1 y2
          generalize txt (showP ⟨yk, yn, ys⟩) = t at *
          go_wp2_with (at_builtin; obtain ⟨i0, hi, hz0, hz1, hz2⟩ := HIN.out; refine wpList_append_own_at _ rfl (.tmp 21) (.tmp 24) _ rfl w3.heap.size 9 i0 _ 1 16 Tryz.underlying59 hi hz0 hz1 hz2 rfl (by omega) (.slice A3 x c3) x _ rfl (HO4.out.alloc _) ⟨_, 0, none⟩ 1 1 [.string t] rfl rfl (cell_one_new _ _ _) (by intro y hy; simp at hy; subst hy; rfl) (by simp only [maxLen]; omega) (by omega) (by simp; omega) ?_; intro v5 w5 hown5 hg5 _ _; have HO5 := Lib.hid hown5; have HG5 := Lib.hid hg5; clear hown5 hg5 hi hz0 hz1 hz2)
          go_roundw
          case rel => exact ⟨x + 1, by omega, by go_num, by rw [HT.out]; exact HO5.out, HB4.out.trans ((below_alloc HB4.out.size _).trans (below_of_grown_row HG5.out (Nat.le_trans HB4.out.size (by simp)) fun y hy => (HO4.out.lt y hy).1))⟩
          case measure => simp [intOf]; omega
        · obtain rfl : x = m := by omega
          have HTA := Lib.hid (show out.take x = out by rw [← HM.out, List.take_length])
          rw [HTA.out] at HO
          obtain ⟨r, rfl, _, hrl, _, hc9⟩ := own_form HO.out HNE.out
          have hxl : (out.map fun a => txt (showP a)).length = x := by rw [List.length_map, HM.out]
          have HJ := Lib.hid (libJoin_any r 0 c3 (out.map fun a => txt (showP a)) wr (fun j y hy => by
            have hj : j < out.length := by
              by_cases h : j < out.length
              · exact h
              · rw [List.getElem?_eq_none (by rw [List.length_map]; omega)] at hy; cases hy
            have h1 := HO.out.cellAt j (by rw [← HM.out]; omega)
            rw [Nat.zero_add, h1]
            rw [List.getElem?_map, List.getElem?_eq_getElem hj] at hy
            unfold shownV
            rw [List.getElem?_map, List.getElem?_eq_getElem hj]
            injection hy with hy
            rw [← hy]; rfl) hrl (by rw [hxl]; exact hc9) (by rw [shown_map, joinL_lib]; have := HJL.out; omega) (by rw [hxl]; omega))
          rw [shown_map, joinL_lib, hxl] at HJ
          have HJT := Lib.hid (joined_txt (joinL out))
          have hjs : (txt (joinL out)).size ≤ 268 := by rw [txt_size]; have := HJL.out; omega
          generalize txt (joinL out) = jt at *
          clear hxl hc9
          go_wp2_with fail
          refine HJ.out.mono ?_
          rintro e w5 ⟨rfl, hg⟩
          have HG5 := Lib.hid (grown_join HGR.out hg (.inr (by simp)))
          clear hg
          go_wp2_with fail
          go_ret
          exact toldG_eq (by rw [HE.out, ← HJT.out]; rfl) HG5.out
    · have hkk : (k != 2) = true := by simp [hk]
      have hpl := simp_plain (a := ⟨k, n, s⟩) (by unfold simpE; rw [hr, decide_eq_true hk]; rfl) h1 h2
      have HE : Hid (showE ⟨k, n, s⟩ = showP ⟨k, n, s⟩) := Lib.hid (by unfold showE; rw [hr, if_neg (by simp), if_neg hk])
      have HS := Lib.hid (HSP.out ⟨k, n, s⟩ w2 hpl (HV.out.grow HG2.out))
      dsimp only at HS
      clear hk hr hpl
      go_wp2_with fail
      refine HS.out.mono ?_
      rintro e w3 ⟨rfl, hg⟩
      have HG3 := Lib.hid (grown_join HG2.out hg (.inr (by simp)))
      clear hg
      go_wp2_with fail
      go_ret
      exact toldG_eq (by rw [HE.out]; rfl) HG3.out
end Go.Proofs.YtblmnbaejfhagaaGreatDoor
