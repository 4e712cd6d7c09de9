/-
  Texts of this claim, one behind the other.
-/
import Derived.Test.YtdjenakmdjiknaaPack1
import Derived.Test.YtdjenakmdjiknaaPack2
import Derived.Test.YtdjenakmdjiknaaPack3
import Derived.Test.YtdjenakmdjiknaaPack4

/-! Layer 9: knows. -/
section
namespace Go.Proofs.Ytdjenakmdjiknaa
open Go.ChangeShapes Go.WideShapes Go.ChangeAt Go.RowKit
set_option linter.unusedVariables false
set_option maxRecDepth 100000

theorem vw_eq9 {p : Vw × Bool} {s t : List Int} {o : Int} {b : Bool} (h : p.1.sh = s ∧ p.1.st = t ∧ p.1.off = o ∧ p.2 = b) : p = (⟨s, t, o⟩, b) := by
  obtain ⟨⟨s', t', o'⟩, b'⟩ := p
  obtain ⟨rfl, rfl, rfl, rfl⟩ := h
  rfl
theorem k9new : newV [2, 2] = (⟨[2, 2], [2, 1], 0⟩, true) := vw_eq9 (by decide)
theorem k9perm : permV ⟨[2, 2], [2, 1], 0⟩ [1, 0] = (⟨[2, 2], [1, 2], 0⟩, true) := vw_eq9 (by decide)
theorem k9col : colL ⟨[2, 2], [1, 2], 0⟩ = [0, 2, 1, 3] := by decide +kernel
theorem lit_numsF9 (w : World) (zs : List Int) (hz : zs.length ≤ 1048576) : NumsF (w.alloc (.cells (intV zs).toArray 3)) (some ⟨w.heap.size, 0, none⟩) zs.length zs.length zs := by
  refine ⟨⟨rfl, ?_⟩, Nat.le_refl _, fun h => by cases h⟩
  intro h
  refine ⟨w.heap.size, 0, rfl, by simp, fun k hk => ?_⟩
  rw [cell_of_row _ _ _ _ _ _ (heap_alloc_new w _)]
  simp [intV, List.getD, hk]
set_option maxHeartbeats 4000000 in
theorem knows9_any {T : World → Nat → Addr → Vw → Nat → Bool → Prop} (V : ViewSays9) (S : OdoSays T) (w : World) : Calls Try.prog 7 #[] w (TellG (.bool true) w) := by
  have HV := Lib.hid V
  have HS := Lib.hid S
  obtain ⟨w1, hw1⟩ : ∃ w1, w1 = w.alloc (.cells #[.int .i64 2, .int .i64 2] 3) := ⟨_, rfl⟩
  have HN1 := Lib.hid (show NumsF w1 (some ⟨w.heap.size, 0, none⟩) 2 2 [2, 2] by rw [hw1]; exact lit_numsF9 w [2, 2] (by simp))
  have HG1 := Lib.hid (show w.grownBy w1 none by rw [hw1]; exact World.grownBy_alloc w _ none)
  have HW1 := Lib.hid hw1
  clear hw1
  go_enter Try.func7, Try.ntmps7
  go_wp2_with fail
  rw [← HW1.out]
  refine (HV.out.new _ _ _ [2, 2] w1 HN1.out (by omega)).mono ?_
  rintro e w2 ⟨A, n, c, A', n', c', rfl, h, h', hg⟩
  rw [k9new] at h h' ⊢
  dsimp only at h h' ⊢
  obtain rfl : n = 2 := h.len.symm
  obtain rfl : n' = 2 := h'.len.symm
  have HF2 := Lib.hid (show ViewF w2 A 2 c A' 2 c' ⟨[2, 2], [2, 1], 0⟩ from ⟨h, h', by omega, by omega⟩)
  have HG2 := Lib.hid (grown_join HG1.out hg (.inr (by simp)))
  clear h h' hg
  go_upto_region 2 with fail
  obtain ⟨w3, hw3⟩ : ∃ w3, w3 = w2.alloc (.cells #[.slice A 2 c, .slice A' 2 c', .int .i64 0] 34) := ⟨_, rfl⟩
  rw [← hw3]
  have HX3 : Hid (Box w3 w2.heap.size 34 #[.slice A 2 c, .slice A' 2 c', .int .i64 0]) := Lib.hid (by rw [hw3]; exact Box.fresh w2 _ _)
  have hg23 : w2.grownBy w3 none := by rw [hw3]; exact World.grownBy_alloc w2 _ none
  have HG3 := Lib.hid (grown_join HG2.out hg23 (.inr (by simp)))
  have HF3 := Lib.hid (HF2.out.grow hg23)
  clear hw3 hg23
  obtain ⟨w4, hw4⟩ : ∃ w4, w4 = w3.alloc (.cells #[.int .i64 1, .int .i64 0] 3) := ⟨_, rfl⟩
  have HN4 := Lib.hid (show NumsF w4 (some ⟨w3.heap.size, 0, none⟩) 2 2 [1, 0] by rw [hw4]; exact lit_numsF9 w3 [1, 0] (by simp))
  have hg34 : w3.grownBy w4 none := by rw [hw4]; exact World.grownBy_alloc w3 _ none
  have HG4 := Lib.hid (grown_join HG3.out hg34 (.inr (by simp)))
  have HF4 := Lib.hid (HF3.out.grow hg34)
  have HW4 := Lib.hid hw4
  clear hw4 hg34
  have x0 := HX3.out.get 0
  have x1 := HX3.out.get 1
  have x2 := HX3.out.get 2
  go_wp2_with fail
  rw [← HW4.out]
  refine (HV.out.permute _ _ _ _ _ _ ⟨[2, 2], [2, 1], 0⟩ _ _ _ [1, 0] w4 HF4.out ⟨by decide, by decide⟩ HN4.out (by omega) (fun z hz => by simp at hz; rcases hz with rfl | rfl <;> exact ⟨by decide, by decide⟩)).mono ?_
  rintro e w5 ⟨B, n, d, B', n', d', rfl, h, h', hg⟩
  rw [k9perm] at h h' ⊢
  dsimp only at h h' ⊢
  obtain rfl : n = 2 := h.len.symm
  obtain rfl : n' = 2 := h'.len.symm
  have HF5 := Lib.hid (show ViewF w5 B 2 d B' 2 d' ⟨[2, 2], [1, 2], 0⟩ from ⟨h, h', by omega, by omega⟩)
  have HG5 := Lib.hid (grown_join HG4.out hg (.inr (by simp)))
  clear h h' hg x0 x1 x2
  go_upto_region 3 with fail
  obtain ⟨w6, hw6⟩ : ∃ w6, w6 = w5.alloc (.cells #[.slice B 2 d, .slice B' 2 d', .int .i64 0] 34) := ⟨_, rfl⟩
  rw [← hw6]
  have HX6 : Hid (Box w6 w5.heap.size 34 #[.slice B 2 d, .slice B' 2 d', .int .i64 0]) := Lib.hid (by rw [hw6]; exact Box.fresh w5 _ _)
  have hg56 : w5.grownBy w6 none := by rw [hw6]; exact World.grownBy_alloc w5 _ none
  have HG6 := Lib.hid (grown_join HG5.out hg56 (.inr (by simp)))
  have HF6 := Lib.hid (HF5.out.grow hg56)
  clear hw6 hg56
  have x0 := HX6.out.get 0
  have x1 := HX6.out.get 1
  have x2 := HX6.out.get 2
  go_wp2_with fail
  refine (HS.out.collect _ _ _ _ _ _ ⟨[2, 2], [1, 2], 0⟩ w6 HF6.out ⟨by decide, by decide⟩).mono ?_
  rintro e w7 ⟨D, m, f, rfl, h, hg⟩
  rw [k9col] at h
  obtain rfl : m = 4 := h.len.symm
  have HG7 := Lib.hid (grown_join HG6.out hg (.inr (by simp)))
  clear hg x0 x1 x2
  obtain ⟨w8, hw8⟩ : ∃ w8, w8 = w7.alloc (.cells #[.int .i64 0, .int .i64 2, .int .i64 1, .int .i64 3] 3) := ⟨_, rfl⟩
  have HN8 := Lib.hid (show NumsF w8 (some ⟨w7.heap.size, 0, none⟩) 4 4 [0, 2, 1, 3] by rw [hw8]; exact lit_numsF9 w7 [0, 2, 1, 3] (by simp))
  have hg78 : w7.grownBy w8 none := by rw [hw8]; exact World.grownBy_alloc w7 _ none
  have HG8 := Lib.hid (grown_join HG7.out hg78 (.inr (by simp)))
  have HD8 := Lib.hid (h.grow hg78)
  have HW8 := Lib.hid hw8
  clear hw8 hg78 h
  go_wp2_with fail
  rw [← HW8.out]
  refine (ints9_any D _ 4 4 f 4 [0, 2, 1, 3] [0, 2, 1, 3] _ _ w8 HD8.out.1 HN8.out.1 (by omega) (by omega)).mono ?_
  rintro e w9 ⟨rfl, m, rfl⟩
  rw [decide_eq_true rfl]
  go_wp2_with fail
  go_ret
  exact ⟨rfl, grown_drewN HG8.out m⟩
end Go.Proofs.Ytdjenakmdjiknaa
end

/-! Layer 9: the walk of OdoSteps, out of what is asked of the program's own odometer. -/
section
namespace Go.Proofs.Ytdjenakmdjiknaa
open Go.ChangeShapes Go.WideShapes Go.ChangeAt Go.RowKit
set_option linter.unusedVariables false
set_option maxRecDepth 100000

theorem col_len9 {v : Vw} (hr : rightV v = true) : ((colL v).length : Int) = cellsV v := by
  rw [col_yes hr]
  unfold offsL
  rw [List.length_map, List.length_range, cells_right hr]
  have := prod_nonneg (s := v.sh) fun z hz => ((right_all (full_all (rightV_all hr).1).1).1 z hz).1
  omega
theorem col_get9 {v : Vw} {k : Nat} (hk : k < (colL v).length) : rightV v = true ∧ offB v (atL v.sh (k : Int)) = true ∧ (colL v).getD k 0 = offV v (atL v.sh (k : Int)) ∧ placeB v.sh (atL v.sh (k : Int)) = true ∧ placeV v.sh (atL v.sh (k : Int)) = (k : Int) ∧ (atL v.sh (k : Int)).length ≤ 6 := by
  have hr : rightV v = true := by
    cases h : rightV v with
    | true => rfl
    | false => rw [col_no h] at hk; exact absurd hk (by simp)
  have hl := col_len9 hr
  have h1 := offs_at hr (k := k) (by omega)
  have h2 := place_of_at h1.1
  refine ⟨hr, h1.2, ?_, h2.1, h2.2, ?_⟩
  · rw [offV_yes h1.2, col_yes hr]
    have hc : k < (cellsV v).toNat := by omega
    unfold offsL
    simp [List.getD, hc]
  · rw [atL_length h1.1]; exact rightV_dims hr
theorem box_three_cells9 {w : World} {b : Nat} {t : TypeId} {x y z : Value} (h : Box w b t #[x, y, z]) : w.cell? ⟨b, 0, none⟩ = some x ∧ w.cell? ⟨b, 1, none⟩ = some y ∧ w.cell? ⟨b, 2, none⟩ = some z :=
  ⟨by rw [h.get]; rfl, by rw [h.get]; rfl, by rw [h.get]; rfl⟩
theorem at_on (v : Vw) (k : Nat) : atO v (k + 1) true = atL v.sh (k : Int) := by
  unfold atO
  rw [if_pos rfl, show (((k + 1 : Nat) : Int) - 1) = (k : Int) by omega]
theorem at_off (v : Vw) (k : Nat) : atO v k false = [] := rfl
set_option maxHeartbeats 8000000 in
theorem odoSteps_any {T : World → Nat → Addr → Vw → Nat → Bool → Prop} (V : ViewSays9) (S : OdoSays T) (A A' : Option Addr) (n c n' c' : Nat) (s t : List Int) (o x : Int) (w : World) (h : NumsF w A n c s) (h' : NumsF w A' n' c' t) (ho : I64 o) (hx : I64 x) :
    Calls Try.prog 4 #[.agg #[.slice A n c, .slice A' n' c', .int .i64 o], .int .i64 x] w (TellG (.bool true) w) := by
  have HK := Lib.hid (fun w' => knows9_any V S w')
  have HLI := Lib.hid (fun w' (hg : w.grownBy w' none) => light9_any A A' n c n' c' s t o w' (h.grow hg) (h'.grow hg))
  have HVS := Lib.hid V
  have HS := Lib.hid S
  obtain ⟨w1, hw1⟩ : ∃ w1, w1 = w.alloc (.cells #[.slice A n c, .slice A' n' c', .int .i64 o] 24) := ⟨_, rfl⟩
  have HBV : Hid (Box w1 w.heap.size 24 #[.slice A n c, .slice A' n' c', .int .i64 o]) := Lib.hid (by rw [hw1]; exact Box.fresh w _ _)
  have HG1 : Hid (w.grownBy w1 none) := Lib.hid (by rw [hw1]; exact World.grownBy_alloc w _ none)
  have HW1 := Lib.hid hw1
  clear hw1
  cases hlb : lightB ⟨s, t, o⟩ 400 with
  | false =>
    have HLB := Lib.hid hlb
    clear hlb
    go_enter Try.func4, Try.ntmps4
    go_upto_region 1 with fail
    rw [← HW1.out]
    have x0 := HBV.out.get 0
    have x1 := HBV.out.get 1
    have x2 := HBV.out.get 2
    go_wp2_with fail
    refine (HLI.out _ HG1.out).mono ?_
    rintro e w2 ⟨rfl, hg⟩
    rw [HLB.out]
    have HG2 := Lib.hid (grown_join HG1.out hg (.inr (by simp)))
    have HBV := Lib.hid (HBV.out.grown hg (by simp))
    clear hg x0 x1 x2
    go_wp2_with fail
    refine (HK.out _).mono ?_
    rintro e w9 ⟨rfl, hg⟩
    have HGK := Lib.hid (grown_join HG2.out hg (.inr (by simp)))
    clear hg
    go_wp2_with fail
    go_ret
    exact ⟨rfl, HGK.out⟩
  | true =>
    have HLB := Lib.hid hlb
    have hsm : s.length ≤ 20 ∧ t.length ≤ 20 := by
      unfold lightB at hlb
      simp only [Bool.and_eq_true, decide_eq_true_eq] at hlb
      exact hlb.1
    have hn : n ≤ 1048576 := by have := h.len; omega
    have hn' : n' ≤ 1048576 := by have := h'.len; omega
    clear hlb hsm
    have HF : Hid (∀ w', w.grownBy w' none → ViewF w' A n c A' n' c' ⟨s, t, o⟩) := Lib.hid fun w' hg => ⟨h.grow hg, h'.grow hg, hn, hn'⟩
    have HSZ := Lib.hid (fun w' (hg : w.grownBy w' none) => ref7Size_any A n c _ s 1048576 w' (h.grow hg).1 hn)
    have HRR := Lib.hid (fun w' (hg : w.grownBy w' none) => ref8Right_any A A' n c n' c' s t o w' (h.grow hg).1 (h'.grow hg).1 hn hn')
    have HO := Lib.hid ho
    obtain ⟨N, hN⟩ : ∃ N, (colL ⟨s, t, o⟩).length = N := ⟨_, rfl⟩
    have HNN := Lib.hid hN
    have hns : N ≤ 1048576 := by rw [← hN]; exact col_small _
    obtain ⟨r, hr3⟩ : ∃ r, x.tmod 3 = r := ⟨_, rfl⟩
    have hrb : -3 < r ∧ r < 3 := by
      rw [← hr3]
      exact ⟨Int.lt_tmod_of_pos x (by omega), Int.tmod_lt_of_pos x (by omega)⟩
    have HR3 := Lib.hid hr3
    have HXX := Lib.hid hx
    clear h h' hN hr3 hx ho
    cases hrv : rightV ⟨s, t, o⟩ with
    | true =>
      have HRV := Lib.hid hrv
      have HNC := Lib.hid (show cellsV ⟨s, t, o⟩ = (N : Int) by rw [← HNN.out, col_len9 hrv])
      have HSB := Lib.hid (show sizeB s 1048576 = true from (rightV_all hrv).1)
      have HSV : Hid (sizeV s 1048576 = (N : Int)) := Lib.hid HNC.out
      rw [HSB.out, HSV.out] at HSZ
      have g0 : ((N : Int) != (N : Int)) = false := by simp
      have g1 : ((N : Int) == (N : Int)) = true := by simp
      clear hrv
      go_enter Try.func4, Try.ntmps4
      go_upto_region 1 with fail
      rw [← HW1.out]
      have x0 := HBV.out.get 0
      have x1 := HBV.out.get 1
      have x2 := HBV.out.get 2
      go_wp2_with fail
      refine (HLI.out _ HG1.out).mono ?_
      rintro e w2 ⟨rfl, hg⟩
      rw [HLB.out]
      have HG2 := Lib.hid (grown_join HG1.out hg (.inr (by simp)))
      have HBV := Lib.hid (HBV.out.grown hg (by simp))
      clear hg x0 x1 x2
      go_wp2_with fail
      refine (HK.out _).mono ?_
      rintro e w3 ⟨rfl, hg⟩
      have HG3 := Lib.hid (grown_join HG2.out hg (.inr (by simp)))
      have HBV := Lib.hid (HBV.out.grown hg (by simp))
      clear hg
      have x0 := HBV.out.get 0
      have x1 := HBV.out.get 1
      have x2 := HBV.out.get 2
      go_wp2_with fail
      refine (own8_any A A' n c n' c' o _).mono ?_
      rintro e w4 ⟨rfl, hg⟩
      have HGW4 := Lib.hid (grown_join HG3.out hg (.inr (by simp)))
      have HBV := Lib.hid (HBV.out.grown hg (by simp))
      clear hg x0 x1 x2
      go_upto_region 4 with fail
      obtain ⟨w5, hw5⟩ : ∃ w5, w5 = w4.alloc (.cells #[.slice A n c, .slice A' n' c', .int .i64 o] 34) := ⟨_, rfl⟩
      rw [← hw5]
      have HBX : Hid (Box w5 w4.heap.size 34 #[.slice A n c, .slice A' n' c', .int .i64 o]) := Lib.hid (by rw [hw5]; exact Box.fresh w4 _ _)
      have hg : w4.grownBy w5 none := by rw [hw5]; exact World.grownBy_alloc w4 _ none
      have HGW5 := Lib.hid (grown_join HGW4.out hg (.inr (by simp)))
      have HBV := Lib.hid (HBV.out.grown hg (by simp))
      clear hw5 hg
      have HG5 := Lib.hid (grown_refl w5 none)
      have HV5 := Lib.hid (fun w' (hg : w5.grownBy w' none) => HF.out w' (grown_join HGW5.out hg (.inr (by simp))))
      have HBV5 := Lib.hid (fun w' (hg : w5.grownBy w' none) => box_three_cells9 (HBV.out.grown hg (by simp)))
      have HBX5 := Lib.hid (fun w' (hg : w5.grownBy w' none) => box_three_cells9 (HBX.out.grown hg (by simp)))
      obtain ⟨y0, y1, y2⟩ := HBX5.out _ HG5.out
      go_wp2_with fail
      refine (HS.out.new _ _ _ _ _ _ ⟨s, t, o⟩ w5 (HV5.out _ HG5.out) HO.out).mono ?_
      rintro e w6 ⟨q, rfl, hT, hg⟩
      have HG6 := Lib.hid hg
      have HT6 := Lib.hid hT
      clear hg hT y0 y1 y2
      go_wp2_with fail
      refine (HS.out.left _ _ _ _ _ w6 HT6.out).mono ?_
      rintro e w7 ⟨rfl, hg⟩
      rw [HNN.out]
      have HG7 := Lib.hid (grown_join HG6.out hg (.inr (by simp)))
      have HT7 := Lib.hid (HS.out.keep HT6.out hg)
      clear hg
      rw [show ((N : Int) - ((0 : Nat) : Int)) = (N : Int) by omega]
      obtain ⟨x0, x1, x2⟩ := HBV5.out _ HG7.out
      go_wp2_with fail
      refine (HSZ.out _ (grown_join HGW5.out HG7.out (.inr (by simp)))).mono ?_
      rintro e w8 ⟨rfl, m, rfl⟩
      obtain ⟨w8, hw8⟩ : ∃ w8, w8 = w7.drewN m := ⟨_, rfl⟩
      rw [← hw8]
      have hg : w7.grownBy w8 none := by rw [hw8]; exact grown_drewN (grown_refl _ _) m
      have HG8 := Lib.hid (grown_join HG7.out hg (.inr (by simp)))
      have HT8 := Lib.hid (HS.out.keep HT7.out hg)
      clear hw8 hg x0 x1 x2
      obtain ⟨y0, y1, y2⟩ := HBX5.out _ HG8.out
      go_wp2_with fail
      refine (HVS.out.right _ _ _ _ _ _ ⟨s, t, o⟩ w8 (HV5.out _ HG8.out) HO.out).mono ?_
      rintro e w9 ⟨rfl, hg⟩
      rw [HRV.out]
      have HG9 := Lib.hid (grown_join HG8.out hg (.inr (by simp)))
      have HT9 := Lib.hid (HS.out.keep HT8.out hg)
      clear hg y0 y1 y2
      obtain ⟨y0, y1, y2⟩ := HBX5.out _ HG9.out
      go_wp2_with fail
      refine (HVS.out.right _ _ _ _ _ _ ⟨s, t, o⟩ w9 (HV5.out _ HG9.out) HO.out).mono ?_
      rintro e wa ⟨rfl, hg⟩
      rw [HRV.out]
      have HGa := Lib.hid (grown_join HG9.out hg (.inr (by simp)))
      have HTa := Lib.hid (HS.out.keep HT9.out hg)
      clear hg y0 y1 y2
      obtain ⟨x0, x1, x2⟩ := HBV5.out _ HGa.out
      go_wp2_with fail
      refine (HRR.out _ (grown_join HGW5.out HGa.out (.inr (by simp)))).mono ?_
      rintro e wb ⟨rfl, hg⟩
      rw [HRV.out]
      have HGb := Lib.hid (grown_join HGa.out hg (.inr (by simp)))
      have HTb := Lib.hid (HS.out.keep HTa.out hg)
      clear hg x0 x1 x2
      go_wp2_with fail
      refine (HS.out.at_ _ _ _ _ _ _ HTb.out).mono ?_
      rintro e wc ⟨D, m, d, rfl, hh, hg⟩
      rw [at_off] at hh
      obtain rfl : m = 0 := hh.len.symm
      have HGc := Lib.hid (grown_join HGb.out hg (.inr (by simp)))
      have HTc := Lib.hid (HS.out.keep HTb.out hg)
      clear hg hh
      go_wp2_with fail
      go_loopw [10] (fun i wr => ∃ k : Nat, k ≤ N ∧ i = .int .i64 k ∧ T wr w5.heap.size q ⟨s, t, o⟩ k (decide (0 < k)) ∧ w5.grownBy wr none) (fun i _ => N - (intOf i).toNat)
      case atStart => exact ⟨0, Nat.zero_le _, rfl, HTc.out, HGc.out⟩
      case round =>
        obtain ⟨k, hk, rfl, hT, hg⟩ := hrel
        have HT0 := Lib.hid hT
        have HG0 := Lib.hid hg
        clear hT hg
        by_cases hlt : k < N
        · have HCG := Lib.hid (col_get9 (v := ⟨s, t, o⟩) (k := k) (by rw [HNN.out]; exact hlt))
          have e0 : decide ((k : Int) < (N : Int)) = true := decide_eq_true (by omega)
          obtain ⟨z, hz⟩ : ∃ z, (colL ⟨s, t, o⟩).getD k 0 = z := ⟨_, rfl⟩
          obtain ⟨L, hL⟩ : ∃ L : Int, (N : Int) - (k : Int) - 1 = L := ⟨_, rfl⟩
          have HZ := Lib.hid hz
          have HL := Lib.hid hL
          have e1 : IntKind.i64.wrap ((N : Int) - (k : Int)) = (N : Int) - (k : Int) := IntWalk.i64_in _ (by omega)
          have e2 : IntKind.i64.wrap ((N : Int) - (k : Int) - 1) = L := by rw [hL]; exact IntWalk.i64_in _ (by omega)
          have e3 : wrap64 ((N : Int) - (k : Int)) = (N : Int) - (k : Int) := IntWalk.wrap64_in _ (by omega)
          have e4 : wrap64 ((N : Int) - (k : Int) - 1) = L := by rw [hL]; exact IntWalk.wrap64_in _ (by omega)
          have e5 : IntKind.i64.wrap ((k : Int) + 1) = (k : Int) + 1 := IntWalk.i64_in _ (by omega)
          have e6 : wrap64 ((k : Int) + 1) = (k : Int) + 1 := IntWalk.wrap64_in _ (by omega)
          have e7 : (z != z) = false := by simp
          have e8 : (((k : Int)) != ((k : Int))) = false := by simp
          have e9 : (L != L) = false := by simp
          clear hz hL
          go_wp2_with fail
          refine (HS.out.next _ _ _ _ _ _ HT0.out).mono ?_
          rintro e wd ⟨hon, hcase⟩
          have hHG := hon w5 HG0.out (Nat.le_refl _)
          obtain ⟨_, rfl, hT⟩ := hcase.resolve_right fun hno => hno.1 (by rw [HNN.out]; exact hlt)
          rw [HZ.out]
          have HGd := Lib.hid hHG
          have HTd := Lib.hid hT
          clear hon hHG hT
          go_wp2_with fail
          refine (HS.out.at_ _ _ _ _ _ _ HTd.out).mono ?_
          rintro e wf ⟨D, m, d, rfl, hh, hg⟩
          rw [at_on] at hh
          have HGf := Lib.hid (grown_join HGd.out hg (.inr (by simp)))
          have HTf := Lib.hid (HS.out.keep HTd.out hg)
          have HDf := Lib.hid hh
          have HM := Lib.hid (show m ≤ 1048576 by have h1 : (atL s (k : Int)).length = m := hh.len; have h2 : (atL s (k : Int)).length ≤ 6 := HCG.out.2.2.2.2.2; omega)
          clear hg hh
          obtain ⟨y0, y1, y2⟩ := HBX5.out _ HGf.out
          go_wp2_with fail
          refine (HVS.out.offset _ _ _ _ _ _ ⟨s, t, o⟩ _ _ _ _ wf (HV5.out _ HGf.out) HO.out HDf.out HM.out).mono ?_
          rintro e wg ⟨rfl, hg⟩
          rw [← HCG.out.2.2.1, HCG.out.2.1, HZ.out]
          have HGg := Lib.hid (grown_join HGf.out hg (.inr (by simp)))
          have HTg := Lib.hid (HS.out.keep HTf.out hg)
          have HDg := Lib.hid (HDf.out.grow hg)
          clear hg y0 y1 y2
          obtain ⟨y0, y1, y2⟩ := HBX5.out _ HGg.out
          go_wp2_with fail
          refine (HVS.out.place _ _ _ _ _ _ s _ wg (HV5.out _ HGg.out).1 (HV5.out _ HGg.out).2.2.1 HDg.out HM.out).mono ?_
          rintro e wh ⟨rfl, hg⟩
          rw [show placeB s (atL s (k : Int)) = true from HCG.out.2.2.2.1, show placeV s (atL s (k : Int)) = (k : Int) from HCG.out.2.2.2.2.1]
          have HGh := Lib.hid (grown_join HGg.out hg (.inr (by simp)))
          have HTh := Lib.hid (HS.out.keep HTg.out hg)
          clear hg y0 y1 y2
          go_wp2_with fail
          refine (HS.out.left _ _ _ _ _ wh HTh.out).mono ?_
          rintro e wi ⟨rfl, hg⟩
          rw [HNN.out, show ((N : Int) - ((k + 1 : Nat) : Int)) = L by rw [← HL.out]; omega]
          have HGi := Lib.hid (grown_join HGh.out hg (.inr (by simp)))
          have HTi := Lib.hid (HS.out.keep HTh.out hg)
          clear hg
          go_wp2_with fail
          go_roundw
          case rel => exact ⟨k + 1, by omega, by go_num, HTi.out, HGi.out⟩
          case measure => simp [intOf]; omega
        · obtain rfl : k = N := by omega
          have e0 : decide ((k : Int) < (k : Int)) = false := decide_eq_false (by omega)
          go_wp2_with fail
          go_loopw [18] (fun i wr => ∃ (j : Nat) (on : Bool), j ≤ 3 ∧ i = .int .i64 j ∧ T wr w5.heap.size q ⟨s, t, o⟩ k on ∧ w5.grownBy wr none) (fun i _ => 3 - (intOf i).toNat)
          case atStart => exact ⟨0, _, by omega, rfl, HT0.out, HG0.out⟩
          case round =>
            obtain ⟨j, on, hj, rfl, hT, hg⟩ := hrel
            have HT1 := Lib.hid hT
            have HG1' := Lib.hid hg
            clear hT hg
            have hr1 : x.tmod 3 = r := HR3.out
            have hr2 : IntKind.i64.wrap r = r := IntWalk.i64_in _ (by omega)
            have hr4 : wrap64 r = r := IntWalk.wrap64_in _ (by omega)
            by_cases hlt : (j : Int) < r
            · have f0 : decide ((j : Int) < r) = true := decide_eq_true hlt
              have f1 : IntKind.i64.wrap ((j : Int) + 1) = (j : Int) + 1 := IntWalk.i64_in _ (by omega)
              have f2 : wrap64 ((j : Int) + 1) = (j : Int) + 1 := IntWalk.wrap64_in _ (by omega)
              go_wp2_with fail
              refine (HS.out.next _ _ _ _ _ _ HT1.out).mono ?_
              rintro e wk ⟨hon, hcase⟩
              have hHG := hon w5 HG1'.out (Nat.le_refl _)
              obtain ⟨_, rfl, hT⟩ := hcase.resolve_left fun hno => absurd hno.1 (by rw [HNN.out]; omega)
              have HGk := Lib.hid hHG
              have HTk := Lib.hid hT
              clear hon hHG hT
              go_wp2_with fail
              refine (HS.out.at_ _ _ _ _ _ _ HTk.out).mono ?_
              rintro e wl ⟨D, m, d, rfl, hh, hg⟩
              rw [at_off] at hh
              obtain rfl : m = 0 := hh.len.symm
              have HGl := Lib.hid (grown_join HGk.out hg (.inr (by simp)))
              have HTl := Lib.hid (HS.out.keep HTk.out hg)
              clear hg hh
              go_wp2_with fail
              refine (HS.out.left _ _ _ _ _ wl HTl.out).mono ?_
              rintro e wm ⟨rfl, hg⟩
              rw [HNN.out, show ((k : Int) - (k : Int)) = 0 by omega]
              have HGm := Lib.hid (grown_join HGl.out hg (.inr (by simp)))
              have HTm := Lib.hid (HS.out.keep HTl.out hg)
              clear hg
              go_wp2_with fail
              go_roundw
              case rel => exact ⟨j + 1, _, by omega, by go_num, HTm.out, HGm.out⟩
              case measure => simp [intOf]; omega
            · have f0 : decide ((j : Int) < r) = false := decide_eq_false hlt
              go_wp2_with fail
              refine (HS.out.next0 _).mono ?_
              rintro e wn ⟨rfl, hg⟩
              have HGn := Lib.hid (grown_join HG1'.out hg (.inr (by simp)))
              clear hg
              go_wp2_with fail
              refine (HS.out.at0 _).mono ?_
              rintro e wo ⟨D, m, d, rfl, hh, hg⟩
              obtain rfl : m = 0 := hh.len.symm
              have HGo := Lib.hid (grown_join HGn.out hg (.inr (by simp)))
              clear hg hh
              go_wp2_with fail
              refine (HS.out.left0 _).mono ?_
              rintro e wp ⟨rfl, hg⟩
              have HGp := Lib.hid (grown_join HGo.out hg (.inr (by simp)))
              clear hg
              go_wp2_with fail
              go_ret
              exact ⟨rfl, grown_join HGW5.out HGp.out (.inr (by simp))⟩
    | false =>
      have HRV := Lib.hid hrv
      have hN0 : N = 0 := by rw [← HNN.out, col_no hrv]; rfl
      subst hN0
      generalize sizeV s 1048576 = sv at *
      cases hsb : sizeB s 1048576 with
      | false =>
        rw [hsb] at HSZ
        clear hrv hsb
        go_enter Try.func4, Try.ntmps4
        go_upto_region 1 with fail
        rw [← HW1.out]
        have x0 := HBV.out.get 0
        have x1 := HBV.out.get 1
        have x2 := HBV.out.get 2
        go_wp2_with fail
        refine (HLI.out _ HG1.out).mono ?_
        rintro e w2 ⟨rfl, hg⟩
        rw [HLB.out]
        have HG2 := Lib.hid (grown_join HG1.out hg (.inr (by simp)))
        have HBV := Lib.hid (HBV.out.grown hg (by simp))
        clear hg x0 x1 x2
        go_wp2_with fail
        refine (HK.out _).mono ?_
        rintro e w3 ⟨rfl, hg⟩
        have HG3 := Lib.hid (grown_join HG2.out hg (.inr (by simp)))
        have HBV := Lib.hid (HBV.out.grown hg (by simp))
        clear hg
        have x0 := HBV.out.get 0
        have x1 := HBV.out.get 1
        have x2 := HBV.out.get 2
        go_wp2_with fail
        refine (own8_any A A' n c n' c' o _).mono ?_
        rintro e w4 ⟨rfl, hg⟩
        have HGW4 := Lib.hid (grown_join HG3.out hg (.inr (by simp)))
        have HBV := Lib.hid (HBV.out.grown hg (by simp))
        clear hg x0 x1 x2
        go_upto_region 4 with fail
        obtain ⟨w5, hw5⟩ : ∃ w5, w5 = w4.alloc (.cells #[.slice A n c, .slice A' n' c', .int .i64 o] 34) := ⟨_, rfl⟩
        rw [← hw5]
        have HBX : Hid (Box w5 w4.heap.size 34 #[.slice A n c, .slice A' n' c', .int .i64 o]) := Lib.hid (by rw [hw5]; exact Box.fresh w4 _ _)
        have hg : w4.grownBy w5 none := by rw [hw5]; exact World.grownBy_alloc w4 _ none
        have HGW5 := Lib.hid (grown_join HGW4.out hg (.inr (by simp)))
        have HBV := Lib.hid (HBV.out.grown hg (by simp))
        clear hw5 hg
        have HG5 := Lib.hid (grown_refl w5 none)
        have HV5 := Lib.hid (fun w' (hg : w5.grownBy w' none) => HF.out w' (grown_join HGW5.out hg (.inr (by simp))))
        have HBV5 := Lib.hid (fun w' (hg : w5.grownBy w' none) => box_three_cells9 (HBV.out.grown hg (by simp)))
        have HBX5 := Lib.hid (fun w' (hg : w5.grownBy w' none) => box_three_cells9 (HBX.out.grown hg (by simp)))
        obtain ⟨y0, y1, y2⟩ := HBX5.out _ HG5.out
        go_wp2_with fail
        refine (HS.out.new _ _ _ _ _ _ ⟨s, t, o⟩ w5 (HV5.out _ HG5.out) HO.out).mono ?_
        rintro e w6 ⟨q, rfl, hT, hg⟩
        have HG6 := Lib.hid hg
        have HT6 := Lib.hid hT
        clear hg hT y0 y1 y2
        go_wp2_with fail
        refine (HS.out.left _ _ _ _ _ w6 HT6.out).mono ?_
        rintro e w7 ⟨rfl, hg⟩
        rw [HNN.out]
        have HG7 := Lib.hid (grown_join HG6.out hg (.inr (by simp)))
        have HT7 := Lib.hid (HS.out.keep HT6.out hg)
        clear hg
        rw [show (((0 : Nat) : Int) - ((0 : Nat) : Int)) = 0 by omega]
        obtain ⟨x0, x1, x2⟩ := HBV5.out _ HG7.out
        go_wp2_with fail
        refine (HSZ.out _ (grown_join HGW5.out HG7.out (.inr (by simp)))).mono ?_
        rintro e w8 ⟨rfl, m, rfl⟩
        obtain ⟨w8, hw8⟩ : ∃ w8, w8 = w7.drewN m := ⟨_, rfl⟩
        rw [← hw8]
        have hg : w7.grownBy w8 none := by rw [hw8]; exact grown_drewN (grown_refl _ _) m
        have HG8 := Lib.hid (grown_join HG7.out hg (.inr (by simp)))
        have HT8 := Lib.hid (HS.out.keep HT7.out hg)
        clear hw8 hg x0 x1 x2
        obtain ⟨y0, y1, y2⟩ := HBX5.out _ HG8.out
        go_wp2_with fail
        refine (HVS.out.right _ _ _ _ _ _ ⟨s, t, o⟩ w8 (HV5.out _ HG8.out) HO.out).mono ?_
        rintro e w9 ⟨rfl, hg⟩
        rw [HRV.out]
        have HG9 := Lib.hid (grown_join HG8.out hg (.inr (by simp)))
        have HT9 := Lib.hid (HS.out.keep HT8.out hg)
        clear hg y0 y1 y2
        have HGb := HG9
        have HTb := HT9
        go_wp2_with fail
        refine (HS.out.at_ _ _ _ _ _ _ HTb.out).mono ?_
        rintro e wc ⟨D, m, d, rfl, hh, hg⟩
        rw [at_off] at hh
        obtain rfl : m = 0 := hh.len.symm
        have HGc := Lib.hid (grown_join HGb.out hg (.inr (by simp)))
        have HTc := Lib.hid (HS.out.keep HTb.out hg)
        clear hg hh
        go_wp2_with fail
        go_loopw [10] (fun i wr => i = .int .i64 0 ∧ T wr w5.heap.size q ⟨s, t, o⟩ 0 (decide ((0 : Nat) < 0)) ∧ w5.grownBy wr none) (fun i _ => 0)
        case atStart => exact ⟨rfl, HTc.out, HGc.out⟩
        case round =>
          obtain ⟨rfl, hT, hg⟩ := hrel
          have HT0 := Lib.hid hT
          have HG0 := Lib.hid hg
          clear hT hg
          go_wp2_with fail
          go_loopw [18] (fun i wr => ∃ (j : Nat) (on : Bool), j ≤ 3 ∧ i = .int .i64 j ∧ T wr w5.heap.size q ⟨s, t, o⟩ 0 on ∧ w5.grownBy wr none) (fun i _ => 3 - (intOf i).toNat)
          case atStart => exact ⟨0, _, by omega, rfl, HT0.out, HG0.out⟩
          case round =>
            obtain ⟨j, on, hj, rfl, hT, hg⟩ := hrel
            have HT1 := Lib.hid hT
            have HG1' := Lib.hid hg
            clear hT hg
            have hr1 : x.tmod 3 = r := HR3.out
            have hr2 : IntKind.i64.wrap r = r := IntWalk.i64_in _ (by omega)
            have hr4 : wrap64 r = r := IntWalk.wrap64_in _ (by omega)
            by_cases hlt : (j : Int) < r
            · have f0 : decide ((j : Int) < r) = true := decide_eq_true hlt
              have f1 : IntKind.i64.wrap ((j : Int) + 1) = (j : Int) + 1 := IntWalk.i64_in _ (by omega)
              have f2 : wrap64 ((j : Int) + 1) = (j : Int) + 1 := IntWalk.wrap64_in _ (by omega)
              go_wp2_with fail
              refine (HS.out.next _ _ _ _ _ _ HT1.out).mono ?_
              rintro e wk ⟨hon, hcase⟩
              have hHG := hon w5 HG1'.out (Nat.le_refl _)
              obtain ⟨_, rfl, hT⟩ := hcase.resolve_left fun hno => absurd hno.1 (by rw [HNN.out]; omega)
              have HGk := Lib.hid hHG
              have HTk := Lib.hid hT
              clear hon hHG hT
              go_wp2_with fail
              refine (HS.out.at_ _ _ _ _ _ _ HTk.out).mono ?_
              rintro e wl ⟨D, m, d, rfl, hh, hg⟩
              rw [at_off] at hh
              obtain rfl : m = 0 := hh.len.symm
              have HGl := Lib.hid (grown_join HGk.out hg (.inr (by simp)))
              have HTl := Lib.hid (HS.out.keep HTk.out hg)
              clear hg hh
              go_wp2_with fail
              refine (HS.out.left _ _ _ _ _ wl HTl.out).mono ?_
              rintro e wm ⟨rfl, hg⟩
              rw [HNN.out, show (((0 : Nat) : Int) - ((0 : Nat) : Int)) = 0 by omega]
              have HGm := Lib.hid (grown_join HGl.out hg (.inr (by simp)))
              have HTm := Lib.hid (HS.out.keep HTl.out hg)
              clear hg
              go_wp2_with fail
              go_roundw
              case rel => exact ⟨j + 1, _, by omega, by go_num, HTm.out, HGm.out⟩
              case measure => simp [intOf]; omega
            · have f0 : decide ((j : Int) < r) = false := decide_eq_false hlt
              go_wp2_with fail
              refine (HS.out.next0 _).mono ?_
              rintro e wn ⟨rfl, hg⟩
              have HGn := Lib.hid (grown_join HG1'.out hg (.inr (by simp)))
              clear hg
              go_wp2_with fail
              refine (HS.out.at0 _).mono ?_
              rintro e wo ⟨D, m, d, rfl, hh, hg⟩
              obtain rfl : m = 0 := hh.len.symm
              have HGo := Lib.hid (grown_join HGn.out hg (.inr (by simp)))
              clear hg hh
              go_wp2_with fail
              refine (HS.out.left0 _).mono ?_
              rintro e wp ⟨rfl, hg⟩
              have HGp := Lib.hid (grown_join HGo.out hg (.inr (by simp)))
              clear hg
              go_wp2_with fail
              go_ret
              exact ⟨rfl, grown_join HGW5.out HGp.out (.inr (by simp))⟩
      | true =>
        rw [hsb] at HSZ
        clear hrv hsb
        go_enter Try.func4, Try.ntmps4
        go_upto_region 1 with fail
        rw [← HW1.out]
        have x0 := HBV.out.get 0
        have x1 := HBV.out.get 1
        have x2 := HBV.out.get 2
        go_wp2_with fail
        refine (HLI.out _ HG1.out).mono ?_
        rintro e w2 ⟨rfl, hg⟩
        rw [HLB.out]
        have HG2 := Lib.hid (grown_join HG1.out hg (.inr (by simp)))
        have HBV := Lib.hid (HBV.out.grown hg (by simp))
        clear hg x0 x1 x2
        go_wp2_with fail
        refine (HK.out _).mono ?_
        rintro e w3 ⟨rfl, hg⟩
        have HG3 := Lib.hid (grown_join HG2.out hg (.inr (by simp)))
        have HBV := Lib.hid (HBV.out.grown hg (by simp))
        clear hg
        have x0 := HBV.out.get 0
        have x1 := HBV.out.get 1
        have x2 := HBV.out.get 2
        go_wp2_with fail
        refine (own8_any A A' n c n' c' o _).mono ?_
        rintro e w4 ⟨rfl, hg⟩
        have HGW4 := Lib.hid (grown_join HG3.out hg (.inr (by simp)))
        have HBV := Lib.hid (HBV.out.grown hg (by simp))
        clear hg x0 x1 x2
        go_upto_region 4 with fail
        obtain ⟨w5, hw5⟩ : ∃ w5, w5 = w4.alloc (.cells #[.slice A n c, .slice A' n' c', .int .i64 o] 34) := ⟨_, rfl⟩
        rw [← hw5]
        have HBX : Hid (Box w5 w4.heap.size 34 #[.slice A n c, .slice A' n' c', .int .i64 o]) := Lib.hid (by rw [hw5]; exact Box.fresh w4 _ _)
        have hg : w4.grownBy w5 none := by rw [hw5]; exact World.grownBy_alloc w4 _ none
        have HGW5 := Lib.hid (grown_join HGW4.out hg (.inr (by simp)))
        have HBV := Lib.hid (HBV.out.grown hg (by simp))
        clear hw5 hg
        have HG5 := Lib.hid (grown_refl w5 none)
        have HV5 := Lib.hid (fun w' (hg : w5.grownBy w' none) => HF.out w' (grown_join HGW5.out hg (.inr (by simp))))
        have HBV5 := Lib.hid (fun w' (hg : w5.grownBy w' none) => box_three_cells9 (HBV.out.grown hg (by simp)))
        have HBX5 := Lib.hid (fun w' (hg : w5.grownBy w' none) => box_three_cells9 (HBX.out.grown hg (by simp)))
        obtain ⟨y0, y1, y2⟩ := HBX5.out _ HG5.out
        go_wp2_with fail
        refine (HS.out.new _ _ _ _ _ _ ⟨s, t, o⟩ w5 (HV5.out _ HG5.out) HO.out).mono ?_
        rintro e w6 ⟨q, rfl, hT, hg⟩
        have HG6 := Lib.hid hg
        have HT6 := Lib.hid hT
        clear hg hT y0 y1 y2
        go_wp2_with fail
        refine (HS.out.left _ _ _ _ _ w6 HT6.out).mono ?_
        rintro e w7 ⟨rfl, hg⟩
        rw [HNN.out]
        have HG7 := Lib.hid (grown_join HG6.out hg (.inr (by simp)))
        have HT7 := Lib.hid (HS.out.keep HT6.out hg)
        clear hg
        rw [show (((0 : Nat) : Int) - ((0 : Nat) : Int)) = 0 by omega]
        obtain ⟨x0, x1, x2⟩ := HBV5.out _ HG7.out
        go_wp2_with fail
        refine (HSZ.out _ (grown_join HGW5.out HG7.out (.inr (by simp)))).mono ?_
        rintro e w8 ⟨rfl, m, rfl⟩
        obtain ⟨w8, hw8⟩ : ∃ w8, w8 = w7.drewN m := ⟨_, rfl⟩
        rw [← hw8]
        have hg : w7.grownBy w8 none := by rw [hw8]; exact grown_drewN (grown_refl _ _) m
        have HG8 := Lib.hid (grown_join HG7.out hg (.inr (by simp)))
        have HT8 := Lib.hid (HS.out.keep HT7.out hg)
        clear hw8 hg x0 x1 x2
        obtain ⟨y0, y1, y2⟩ := HBX5.out _ HG8.out
        go_wp2_with fail
        refine (HVS.out.right _ _ _ _ _ _ ⟨s, t, o⟩ w8 (HV5.out _ HG8.out) HO.out).mono ?_
        rintro e w9 ⟨rfl, hg⟩
        rw [HRV.out]
        have HG9 := Lib.hid (grown_join HG8.out hg (.inr (by simp)))
        have HT9 := Lib.hid (HS.out.keep HT8.out hg)
        clear hg y0 y1 y2
        obtain ⟨y0, y1, y2⟩ := HBX5.out _ HG9.out
        go_wp2_with fail
        refine (HVS.out.right _ _ _ _ _ _ ⟨s, t, o⟩ w9 (HV5.out _ HG9.out) HO.out).mono ?_
        rintro e wa ⟨rfl, hg⟩
        rw [HRV.out]
        have HGa := Lib.hid (grown_join HG9.out hg (.inr (by simp)))
        have HTa := Lib.hid (HS.out.keep HT9.out hg)
        clear hg y0 y1 y2
        obtain ⟨x0, x1, x2⟩ := HBV5.out _ HGa.out
        go_wp2_with fail
        refine (HRR.out _ (grown_join HGW5.out HGa.out (.inr (by simp)))).mono ?_
        rintro e wb ⟨rfl, hg⟩
        rw [HRV.out]
        have HGb := Lib.hid (grown_join HGa.out hg (.inr (by simp)))
        have HTb := Lib.hid (HS.out.keep HTa.out hg)
        clear hg x0 x1 x2
        go_wp2_with fail
        refine (HS.out.at_ _ _ _ _ _ _ HTb.out).mono ?_
        rintro e wc ⟨D, m, d, rfl, hh, hg⟩
        rw [at_off] at hh
        obtain rfl : m = 0 := hh.len.symm
        have HGc := Lib.hid (grown_join HGb.out hg (.inr (by simp)))
        have HTc := Lib.hid (HS.out.keep HTb.out hg)
        clear hg hh
        go_wp2_with fail
        go_loopw [10] (fun i wr => i = .int .i64 0 ∧ T wr w5.heap.size q ⟨s, t, o⟩ 0 (decide ((0 : Nat) < 0)) ∧ w5.grownBy wr none) (fun i _ => 0)
        case atStart => exact ⟨rfl, HTc.out, HGc.out⟩
        case round =>
          obtain ⟨rfl, hT, hg⟩ := hrel
          have HT0 := Lib.hid hT
          have HG0 := Lib.hid hg
          clear hT hg
          go_wp2_with fail
          go_loopw [18] (fun i wr => ∃ (j : Nat) (on : Bool), j ≤ 3 ∧ i = .int .i64 j ∧ T wr w5.heap.size q ⟨s, t, o⟩ 0 on ∧ w5.grownBy wr none) (fun i _ => 3 - (intOf i).toNat)
          case atStart => exact ⟨0, _, by omega, rfl, HT0.out, HG0.out⟩
          case round =>
            obtain ⟨j, on, hj, rfl, hT, hg⟩ := hrel
            have HT1 := Lib.hid hT
            have HG1' := Lib.hid hg
            clear hT hg
            have hr1 : x.tmod 3 = r := HR3.out
            have hr2 : IntKind.i64.wrap r = r := IntWalk.i64_in _ (by omega)
            have hr4 : wrap64 r = r := IntWalk.wrap64_in _ (by omega)
            by_cases hlt : (j : Int) < r
            · have f0 : decide ((j : Int) < r) = true := decide_eq_true hlt
              have f1 : IntKind.i64.wrap ((j : Int) + 1) = (j : Int) + 1 := IntWalk.i64_in _ (by omega)
              have f2 : wrap64 ((j : Int) + 1) = (j : Int) + 1 := IntWalk.wrap64_in _ (by omega)
              go_wp2_with fail
              refine (HS.out.next _ _ _ _ _ _ HT1.out).mono ?_
              rintro e wk ⟨hon, hcase⟩
              have hHG := hon w5 HG1'.out (Nat.le_refl _)
              obtain ⟨_, rfl, hT⟩ := hcase.resolve_left fun hno => absurd hno.1 (by rw [HNN.out]; omega)
              have HGk := Lib.hid hHG
              have HTk := Lib.hid hT
              clear hon hHG hT
              go_wp2_with fail
              refine (HS.out.at_ _ _ _ _ _ _ HTk.out).mono ?_
              rintro e wl ⟨D, m, d, rfl, hh, hg⟩
              rw [at_off] at hh
              obtain rfl : m = 0 := hh.len.symm
              have HGl := Lib.hid (grown_join HGk.out hg (.inr (by simp)))
              have HTl := Lib.hid (HS.out.keep HTk.out hg)
              clear hg hh
              go_wp2_with fail
              refine (HS.out.left _ _ _ _ _ wl HTl.out).mono ?_
              rintro e wm ⟨rfl, hg⟩
              rw [HNN.out, show (((0 : Nat) : Int) - ((0 : Nat) : Int)) = 0 by omega]
              have HGm := Lib.hid (grown_join HGl.out hg (.inr (by simp)))
              have HTm := Lib.hid (HS.out.keep HTl.out hg)
              clear hg
              go_wp2_with fail
              go_roundw
              case rel => exact ⟨j + 1, _, by omega, by go_num, HTm.out, HGm.out⟩
              case measure => simp [intOf]; omega
            · have f0 : decide ((j : Int) < r) = false := decide_eq_false hlt
              go_wp2_with fail
              refine (HS.out.next0 _).mono ?_
              rintro e wn ⟨rfl, hg⟩
              have HGn := Lib.hid (grown_join HG1'.out hg (.inr (by simp)))
              clear hg
              go_wp2_with fail
              refine (HS.out.at0 _).mono ?_
              rintro e wo ⟨D, m, d, rfl, hh, hg⟩
              obtain rfl : m = 0 := hh.len.symm
              have HGo := Lib.hid (grown_join HGn.out hg (.inr (by simp)))
              clear hg hh
              go_wp2_with fail
              refine (HS.out.left0 _).mono ?_
              rintro e wp ⟨rfl, hg⟩
              have HGp := Lib.hid (grown_join HGo.out hg (.inr (by simp)))
              clear hg
              go_wp2_with fail
              go_ret
              exact ⟨rfl, grown_join HGW5.out HGp.out (.inr (by simp))⟩
end Go.Proofs.Ytdjenakmdjiknaa
end

/-! Layer 9: the walk of OdoSteps as the row wants it. -/
section
namespace Go.Proofs.Ytdjenakmdjiknaa
open Go.ChangeShapes Go.WideShapes Go.ChangeAt Go.RowKit Go.Deep
set_option linter.unusedVariables false
set_option maxRecDepth 100000

section
variable {T : World → Nat → Addr → Vw → Nat → Bool → Prop} (V : ViewSays9) (S : OdoSays T)
include V S
theorem odoSteps_walk (A A' : Option Addr) (n c n' c' : Nat) (s t : List Int) (o x : Int) (w : World) (h : NumsF w A n c s) (h' : NumsF w A' n' c' t) (ho : I64 o) (hx : I64 x) :
    Calls Try.prog 4 #[.agg #[.slice A n c, .slice A' n' c', .int .i64 o], .int .i64 x] w fun e w' => e = .returned (.bool true) ∧ Below w.heap.size w w' := by
  refine (odoSteps_any V S A A' n c n' c' s t o x w h h' ho hx).mono ?_
  rintro e w' ⟨rfl, hg⟩
  exact ⟨rfl, below_of_grown hg⟩
end
end Go.Proofs.Ytdjenakmdjiknaa
end

/-! Layer 9, plain: what the program's own walk along a view's cells holds, and what its turn makes of it. -/
section
namespace Go.Proofs.Ytdjenakmdjiknaa
open Go.ChangeShapes Go.WideShapes Go.ChangeAt Go.RowKit
set_option linter.unusedVariables false
set_option maxRecDepth 100000

structure WalkS where
  ax : Int
  sz : Nat → Int
  st : Nat → Int
  dg : Nat → Int
  pl : Int
  on : Bool
  lf : Int
def zeroW : WalkS := ⟨0, fun _ => 0, fun _ => 0, fun _ => 0, 0, false, 0⟩
def updF (f : Nat → Int) (i : Nat) (z : Int) : Nat → Int := fun j => if j = i then z else f j
theorem updF_at (f : Nat → Int) (i : Nat) (z : Int) : updF f i z i = z := by simp [updF]
theorem updF_ne (f : Nat → Int) {i j : Nat} (z : Int) (h : j ≠ i) : updF f i z j = f j := by simp [updF, h]
/-- the 22 cells of a walk. -/
def walkL (s : WalkS) : List Value := [.int .i64 s.ax,
  .int .i64 (s.sz 0), .int .i64 (s.sz 1), .int .i64 (s.sz 2), .int .i64 (s.sz 3), .int .i64 (s.sz 4), .int .i64 (s.sz 5),
  .int .i64 (s.st 0), .int .i64 (s.st 1), .int .i64 (s.st 2), .int .i64 (s.st 3), .int .i64 (s.st 4), .int .i64 (s.st 5),
  .int .i64 (s.dg 0), .int .i64 (s.dg 1), .int .i64 (s.dg 2), .int .i64 (s.dg 3), .int .i64 (s.dg 4), .int .i64 (s.dg 5),
  .int .i64 s.pl, .bool s.on, .int .i64 s.lf]
theorem walkL_len (s : WalkS) : (walkL s).length = 22 := rfl
theorem walkL_one (s : WalkS) : ∀ u ∈ walkL s, u.oneCell' = true := by
  intro u hu
  simp only [walkL, List.mem_cons, List.not_mem_nil, or_false] at hu
  rcases hu with h | h | h | h | h | h | h | h | h | h | h | h | h | h | h | h | h | h | h | h | h | h <;> (subst h; rfl)
theorem six {i : Nat} (h : i < 6) : i = 0 ∨ i = 1 ∨ i = 2 ∨ i = 3 ∨ i = 4 ∨ i = 5 := by omega
theorem walkL_sz (s : WalkS) {i : Nat} (h : i < 6) : (walkL s)[1 + i]? = some (.int .i64 (s.sz i)) := by
  rcases six h with e | e | e | e | e | e <;> (subst e; rfl)
theorem walkL_st (s : WalkS) {i : Nat} (h : i < 6) : (walkL s)[7 + i]? = some (.int .i64 (s.st i)) := by
  rcases six h with e | e | e | e | e | e <;> (subst e; rfl)
theorem walkL_dg (s : WalkS) {i : Nat} (h : i < 6) : (walkL s)[13 + i]? = some (.int .i64 (s.dg i)) := by
  rcases six h with e | e | e | e | e | e <;> (subst e; rfl)
theorem walkL_put_dg (s : WalkS) {i : Nat} (h : i < 6) (z : Int) : (walkL s).set (13 + i) (.int .i64 z) = walkL { s with dg := updF s.dg i z } := by
  rcases six h with e | e | e | e | e | e <;> (subst e; rfl)
theorem walkL_put_pl (s : WalkS) (z : Int) : (walkL s).set 19 (.int .i64 z) = walkL { s with pl := z } := rfl
theorem walkL_put_on (s : WalkS) (b : Bool) : (walkL s).set 20 (.bool b) = walkL { s with on := b } := rfl
theorem walkL_put_lf (s : WalkS) (z : Int) : (walkL s).set 21 (.int .i64 z) = walkL { s with lf := z } := rfl

/-! ### where it stands -/
def offD (o : Int) (st dg : Nat → Int) : Nat → Int
  | 0 => o
  | k + 1 => offD o st dg k + dg k * st k
theorem offD_far (o : Int) (st dg : Nat → Int) {i : Nat} (z : Int) : ∀ n, n ≤ i → offD o st (updF dg i z) n = offD o st dg n
  | 0, _ => rfl
  | n + 1, h => by rw [offD, offD, offD_far o st dg z n (by omega), updF_ne dg z (show n ≠ i by omega)]
theorem offD_put (o : Int) (st dg : Nat → Int) {i : Nat} (z : Int) : ∀ n, i < n → offD o st (updF dg i z) n = offD o st dg n + (z - dg i) * st i
  | 0, h => by omega
  | n + 1, h => by
    rw [offD, offD]
    by_cases e : i = n
    · subst e
      rw [offD_far o st dg z i (Nat.le_refl _), updF_at, Int.sub_mul]
      generalize z * st i = a
      generalize dg i * st i = b
      omega
    · rw [offD_put o st dg z n (by omega), updF_ne dg z (show n ≠ i by omega)]
      generalize (z - dg i) * st i = a
      generalize dg n * st n = b
      omega
theorem offD_same {o : Int} {st st' dg dg' : Nat → Int} : ∀ n, (∀ i, i < n → st i = st' i ∧ dg i = dg' i) → offD o st dg n = offD o st' dg' n
  | 0, _ => rfl
  | n + 1, h => by rw [offD, offD, offD_same n (fun i hi => h i (by omega)), (h n (by omega)).1, (h n (by omega)).2]
theorem offE_offD (v : Vw) (at' : List Int) : ∀ n, offE v at' n = offD v.off (fun i => v.st.getD i 0) (fun i => at'.getD i 0) n
  | 0 => rfl
  | n + 1 => by rw [offE, offD, offE_offD v at' n]

/-- the walk stands at the p-th cell of v. -/
structure Core (s : WalkS) (v : Vw) (p : Nat) : Prop where
  ax : s.ax = (v.sh.length : Int)
  sz : ∀ i, i < v.sh.length → s.sz i = v.sh.getD i 0
  st : ∀ i, i < v.sh.length → s.st i = v.st.getD i 0
  dg : ∀ i, i < v.sh.length → s.dg i = digE v.sh (p : Int) i
  pl : s.pl = offE v (atL v.sh (p : Int)) v.sh.length
theorem atB_of {v : Vw} (hr : rightV v = true) {p : Nat} (hp : (p : Int) < prodL v.sh) : atB v.sh (p : Int) = true := by
  unfold atB
  rw [(rightV_all hr).1]
  simp only [Bool.true_and, decide_eq_true_eq]
  exact ⟨by omega, hp⟩
theorem off_in {v : Vw} (hr : rightV v = true) {p : Nat} (hp : (p : Int) < prodL v.sh) : I64 (offE v (atL v.sh (p : Int)) v.sh.length) := by
  have ha := atB_of hr hp
  have hb := (place_of_at ha).1
  have ho : offB v (atL v.sh (p : Int)) = true := by
    unfold offB
    rw [hr]
    unfold placeB at hb
    simp only [Bool.and_eq_true] at hb
    rw [hb.2]
    rfl
  have h := offE_in ho v.sh.length (Nat.le_refl _)
  have h6 := rightV_dims hr
  have h6' : (v.sh.length : Int) ≤ 6 := by omega
  unfold I64
  omega
theorem core_off {s : WalkS} {v : Vw} {p : Nat} (hr : rightV v = true) (hp : (p : Int) < prodL v.sh) (hst : ∀ i, i < v.sh.length → s.st i = v.st.getD i 0) (hdg : ∀ i, i < v.sh.length → s.dg i = digE v.sh (p : Int) i) :
    offE v (atL v.sh (p : Int)) v.sh.length = offD v.off s.st s.dg v.sh.length := by
  rw [offE_offD]
  refine offD_same _ fun i hi => ⟨(hst i hi).symm, ?_⟩
  rw [hdg i hi]
  exact atL_get (atB_of hr hp) hi
theorem wrap_join (a b : Int) : wrap64 (wrap64 a + b) = wrap64 (a + b) := by unfold wrap64; omega
theorem wrap_part (a b : Int) : wrap64 (wrap64 a - wrap64 b) = wrap64 (a - b) := by unfold wrap64; omega
theorem succ_in {r z : Int} (hz : 1 ≤ z) (h0 : 0 ≤ r % z) (h : r % z + 1 < z) : (r + 1) / z = r / z ∧ (r + 1) % z = r % z + 1 := by
  have h1 := Int.mul_ediv_add_emod r z
  generalize r / z = q at *
  generalize r % z = d at *
  subst h1
  rw [show z * q + d + 1 = d + 1 + z * q by omega, Int.add_mul_ediv_left _ _ (by omega), Int.add_mul_emod_self_left, Int.ediv_eq_zero_of_lt (by omega) h, Int.emod_eq_of_lt (by omega) h]
  exact ⟨by omega, rfl⟩
theorem succ_out {r z : Int} (hz : 1 ≤ z) (h : r % z + 1 = z) : (r + 1) / z = r / z + 1 ∧ (r + 1) % z = 0 := by
  have h1 := Int.mul_ediv_add_emod r z
  generalize r / z = q at *
  generalize r % z = d at *
  subst h1
  rw [show z * q + d + 1 = z + z * q by omega, Int.add_mul_ediv_left _ _ (by omega), Int.add_mul_emod_self_left, Int.ediv_self (by omega), Int.emod_self]
  exact ⟨by omega, rfl⟩
/-- a turn under way: m digits are still to be looked at; those behind them are turned. -/
structure Turning (s s0 : WalkS) (v : Vw) (p m : Nat) : Prop where
  le : m ≤ v.sh.length
  ax : s.ax = (v.sh.length : Int)
  sz : ∀ i, i < v.sh.length → s.sz i = v.sh.getD i 0
  st : ∀ i, i < v.sh.length → s.st i = v.st.getD i 0
  old : ∀ i, i < m → s.dg i = digE v.sh (p : Int) i
  new : ∀ i, m ≤ i → i < v.sh.length → s.dg i = digE v.sh ((p : Int) + 1) i
  pl : s.pl = wrap64 (offD v.off s.st s.dg v.sh.length)
  rest : restE v.sh ((p : Int) + 1) (v.sh.length - m) = restE v.sh (p : Int) (v.sh.length - m) + 1
  on : s.on = s0.on
  lf : s.lf = s0.lf
section
variable {s s0 : WalkS} {v : Vw} {p m : Nat}
theorem turn_start (hr : rightV v = true) (hp : (p : Int) + 1 < prodL v.sh) (h : Core s v p) : Turning s s v p v.sh.length := by
  refine ⟨Nat.le_refl _, h.ax, h.sz, h.st, h.dg, fun i h1 h2 => by omega, ?_, by rw [Nat.sub_self]; rfl, rfl, rfl⟩
  rw [h.pl, ← core_off hr (by omega) h.st h.dg]
  exact (IntWalk.wrap64_in _ (off_in hr (by omega))).symm
theorem ones_of (hr : rightV v = true) (hp : (p : Int) + 1 < prodL v.sh) : ∀ z ∈ v.sh, 1 ≤ z := at_ones (atB_of hr (by omega : (p : Int) < prodL v.sh))
theorem turn_dig (hr : rightV v = true) (hp : (p : Int) + 1 < prodL v.sh) {i : Nat} (hi : i < v.sh.length) : 0 ≤ digE v.sh (p : Int) i ∧ digE v.sh (p : Int) i < v.sh.getD i 0 ∧ 1 ≤ v.sh.getD i 0 ∧ v.sh.getD i 0 ≤ 1048576 := by
  have hz := getD_one (ones_of hr hp) hi
  have := rightV_len hr hi
  unfold digE
  exact ⟨Int.emod_nonneg _ (by omega), Int.emod_lt_of_pos _ (by omega), hz, this.2⟩
theorem turn_end (hr : rightV v = true) (hp : (p : Int) + 1 < prodL v.sh) (h : Turning s s0 v p 0) : False := by
  have h1 := rest_in (ones_of hr hp) (show (0 : Int) ≤ (p : Int) by omega) (by omega) v.sh.length (Nat.le_refl _)
  have h2 := rest_in (ones_of hr hp) (show (0 : Int) ≤ (p : Int) + 1 by omega) hp v.sh.length (Nat.le_refl _)
  have h3 := h.rest
  rw [Nat.sub_self, List.take_zero] at h1 h2
  rw [Nat.sub_zero] at h3
  simp only [prodL] at h1 h2
  omega
/-- the digit i goes on by one: either that is all .. -/
theorem turn_go (hr : rightV v = true) (hp : (p : Int) + 1 < prodL v.sh) {i : Nat} (h : Turning s s0 v p (i + 1)) (hd : s.dg i + 1 < s.sz i) :
    Core { s with dg := updF s.dg i (s.dg i + 1), pl := wrap64 (s.pl + s.st i) } v (p + 1) := by
  have hi : i < v.sh.length := h.le
  have hz := turn_dig hr hp hi
  have eN : v.sh.length - (i + 1) = v.sh.length - 1 - i := by omega
  have hrest := h.rest
  rw [eN] at hrest
  have ed := h.old i (by omega)
  have es := h.sz i hi
  -- from here on the rest of both counts is one
  have hsame0 : restE v.sh ((p : Int) + 1) (v.sh.length - i) = restE v.sh (p : Int) (v.sh.length - i) := by
    rw [show v.sh.length - i = (v.sh.length - 1 - i) + 1 by omega, restE, restE, show v.sh.length - 1 - (v.sh.length - 1 - i) = i by omega, hrest]
    rw [ed, es] at hd
    unfold digE at hd hz
    generalize restE v.sh (p : Int) (v.sh.length - 1 - i) = r at *
    generalize v.sh.getD i 0 = z at *
    exact (succ_in hz.2.2.1 hz.1 hd).1
  have hsame : ∀ t, restE v.sh ((p : Int) + 1) (v.sh.length - i + t) = restE v.sh (p : Int) (v.sh.length - i + t) := by
    intro t
    induction t with
    | zero => exact hsame0
    | succ t ih => rw [← Nat.add_assoc, restE, restE, ih]
  have hdg : ∀ j, j < v.sh.length → updF s.dg i (s.dg i + 1) j = digE v.sh (((p + 1 : Nat)) : Int) j := by
    intro j hj
    rw [show ((p + 1 : Nat) : Int) = (p : Int) + 1 by omega]
    by_cases hji : j = i
    · subst hji
      rw [updF_at, ed]
      rw [ed, es] at hd
      unfold digE at *
      rw [hrest]
      generalize restE v.sh (p : Int) (v.sh.length - 1 - j) = r at *
      generalize v.sh.getD j 0 = z at *
      exact (succ_in hz.2.2.1 hz.1 hd).2.symm
    · rw [updF_ne _ _ hji]
      by_cases hlt : j < i
      · rw [h.old j (by omega)]
        unfold digE
        rw [show v.sh.length - 1 - j = v.sh.length - i + (i - 1 - j) by omega, hsame]
      · exact h.new j (by omega) hj
  refine ⟨h.ax, h.sz, h.st, hdg, ?_⟩
  show wrap64 (s.pl + s.st i) = _
  rw [h.pl, wrap_join]
  have e1 : offE v (atL v.sh ((p + 1 : Nat) : Int)) v.sh.length = offD v.off s.st (updF s.dg i (s.dg i + 1)) v.sh.length :=
    core_off (s := { s with dg := updF s.dg i (s.dg i + 1), pl := wrap64 (s.pl + s.st i) }) hr (by omega) h.st hdg
  rw [e1]
  have e2 := offD_put v.off s.st s.dg (s.dg i + 1) v.sh.length hi
  rw [show s.dg i + 1 - s.dg i = 1 by omega, Int.one_mul] at e2
  rw [← e2, ← e1]
  exact IntWalk.wrap64_in _ (off_in hr (by omega))
/-- .. or it begins anew, and the next one is turned. -/
theorem turn_next (hr : rightV v = true) (hp : (p : Int) + 1 < prodL v.sh) {i : Nat} (h : Turning s s0 v p (i + 1)) (hd : ¬ s.dg i + 1 < s.sz i) :
    Turning { s with dg := updF (updF s.dg i (s.dg i + 1)) i 0, pl := wrap64 (wrap64 (s.pl + s.st i) - wrap64 (s.sz i * s.st i)) } s0 v p i := by
  have hi : i < v.sh.length := h.le
  have hz := turn_dig hr hp hi
  have eN : v.sh.length - (i + 1) = v.sh.length - 1 - i := by omega
  have hrest := h.rest
  rw [eN] at hrest
  have ed := h.old i (by omega)
  have es := h.sz i hi
  have hd' : s.dg i + 1 = s.sz i := by have := hz.2.1; rw [← ed, ← es] at this; omega
  refine ⟨by omega, h.ax, h.sz, h.st, fun j hj => ?_, fun j h1 h2 => ?_, ?_, ?_, h.on, h.lf⟩
  · show updF (updF s.dg i (s.dg i + 1)) i 0 j = _
    rw [updF_ne _ _ (by omega), updF_ne _ _ (by omega)]
    exact h.old j (by omega)
  · show updF (updF s.dg i (s.dg i + 1)) i 0 j = _
    by_cases e : j = i
    · subst e
      rw [updF_at]
      rw [ed, es] at hd'
      unfold digE at *
      rw [hrest]
      generalize restE v.sh (p : Int) (v.sh.length - 1 - j) = r at *
      generalize v.sh.getD j 0 = z at *
      exact (succ_out hz.2.2.1 hd').2.symm
    · rw [updF_ne _ _ e, updF_ne _ _ e]
      exact h.new j (by omega) h2
  · show wrap64 (wrap64 (s.pl + s.st i) - wrap64 (s.sz i * s.st i)) = wrap64 (offD v.off s.st (updF (updF s.dg i (s.dg i + 1)) i 0) v.sh.length)
    rw [wrap_part, offD_put _ _ _ _ _ hi, offD_put _ _ _ _ _ hi, updF_at, h.pl, ← hd']
    generalize offD v.off s.st s.dg v.sh.length = x
    rw [show s.dg i + 1 - s.dg i = 1 by omega, Int.one_mul, Int.sub_mul, Int.zero_mul]
    generalize (s.dg i + 1) * s.st i = y
    have : wrap64 (wrap64 x + s.st i - y) = wrap64 (wrap64 x + (s.st i - y)) := by congr 1; omega
    rw [this, wrap_join]
    congr 1
    omega
  · rw [show v.sh.length - i = (v.sh.length - 1 - i) + 1 by omega, restE, restE, show v.sh.length - 1 - (v.sh.length - 1 - i) = i by omega, hrest]
    rw [ed, es] at hd'
    unfold digE at hd'
    generalize restE v.sh (p : Int) (v.sh.length - 1 - i) = r at *
    generalize v.sh.getD i 0 = z at *
    exact (succ_out hz.2.2.1 hd').1
end

/-! ### a walk along a view -/
/-- k cells are told; on: one last. -/
structure WalkOf (s : WalkS) (v : Vw) (k : Nat) (on : Bool) : Prop where
  on_ : s.on = on
  lf : s.lf = ((colL v).length : Int) - (k : Int)
  le : k ≤ (colL v).length
  yes : on = true → 0 < k
  no : on = false → k = 0 ∨ k = (colL v).length
  core : 0 < (colL v).length → Core s v (k - 1)
theorem col_right {v : Vw} (h : 0 < (colL v).length) : rightV v = true := by
  cases hr : rightV v with
  | true => rfl
  | false => rw [col_no hr] at h; simp at h
theorem col_length {v : Vw} (hr : rightV v = true) : ((colL v).length : Int) = prodL v.sh := by
  rw [col_yes hr]
  unfold offsL
  rw [cells_right hr]
  have := prod_nonneg (s := v.sh) fun z hz => ((right_all (full_all (rightV_all hr).1).1).1 z hz).1
  simp
  omega
theorem col_most (v : Vw) : (colL v).length ≤ 1048576 := by
  cases hr : rightV v with
  | false => rw [col_no hr]; simp
  | true => have := col_length hr; have := (full_all (rightV_all hr).1).2; omega
theorem col_get {v : Vw} {k : Nat} (hk : k < (colL v).length) : (colL v).getD k 0 = offE v (atL v.sh (k : Int)) v.sh.length := by
  have hr := col_right (v := v) (by omega)
  rw [col_yes hr] at hk ⊢
  unfold offsL at hk ⊢
  simp only [List.length_map, List.length_range] at hk
  simp [List.getD, hk]
theorem col_i64 {v : Vw} : ∀ z ∈ colL v, I64 z := by
  intro z hz
  obtain ⟨k, hk, rfl⟩ := List.getElem_of_mem hz
  have h := col_get hk
  have e : (colL v).getD k 0 = (colL v)[k] := by simp [List.getD, hk]
  rw [← e, h]
  have hr := col_right (v := v) (by omega)
  exact off_in hr (by have := col_length hr; omega)
section
variable {s : WalkS} {v : Vw} {k : Nat} {on : Bool}
theorem walk_more (h : WalkOf s v k on) (hl : s.lf ≠ 0) : k < (colL v).length := by have := h.lf; have := h.le; omega
theorem walk_over (h : WalkOf s v k on) (hl : s.lf = 0) : k = (colL v).length := by have := h.lf; have := h.le; omega
theorem walk_ends (h : WalkOf s v k on) (hl : s.lf = 0) : WalkOf { s with on := false } v k false :=
  ⟨rfl, h.lf, h.le, by simp, fun _ => .inr (walk_over h hl), fun h0 => ⟨(h.core h0).ax, (h.core h0).sz, (h.core h0).st, (h.core h0).dg, (h.core h0).pl⟩⟩
/-- behind a turn (or ahead of the first cell) one cell more is told. -/
theorem walk_goes {s' : WalkS} (h : WalkOf s v k on) (hk : k < (colL v).length) (hc : Core s' v k) (hl : s'.lf = s.lf) : WalkOf { s' with on := true, lf := s'.lf - 1 } v (k + 1) true ∧ s'.pl = (colL v).getD k 0 := by
  refine ⟨⟨rfl, ?_, hk, fun _ => by omega, by simp, fun _ => ⟨hc.ax, hc.sz, hc.st, hc.dg, hc.pl⟩⟩, ?_⟩
  · show s'.lf - 1 = _
    rw [hl, h.lf]
    omega
  · rw [col_get hk]
    exact hc.pl
theorem walk_first (h : WalkOf s v k false) (hk : k < (colL v).length) : k = 0 ∧ Core s v k := by
  obtain rfl : k = 0 := by rcases h.no rfl with e | e <;> omega
  exact ⟨rfl, h.core (by omega)⟩
theorem walk_then (h : WalkOf s v k true) (hk : k < (colL v).length) : Core s v (k - 1) ∧ ((k - 1 : Nat) : Int) + 1 < prodL v.sh ∧ k - 1 + 1 = k ∧ rightV v = true := by
  have h0 := h.yes rfl
  have hr := col_right (v := v) (by omega)
  have := col_length hr
  exact ⟨h.core (by omega), by omega, by omega, hr⟩
end
end Go.Proofs.Ytdjenakmdjiknaa
end
