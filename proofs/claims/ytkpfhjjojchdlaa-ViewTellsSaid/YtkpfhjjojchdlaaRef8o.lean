/-
  Layer 8: the reference's Offsets.
-/
import Derived.Test.YtkpfhjjojchdlaaRef8d
namespace Go.Proofs.Ytkpfhjjojchdlaa
open Go.ChangeShapes Go.WideShapes Go.ChangeAt Go.RowKit
set_option linter.unusedVariables false
set_option maxRecDepth 100000

def offsTo (v : Vw) (x : Nat) : List Int := (List.range x).map fun k : Nat => offE v (atL v.sh (k : Int)) v.sh.length
theorem offsTo_len (v : Vw) (x : Nat) : (offsTo v x).length = x := by simp [offsTo]
theorem offsTo_snoc (v : Vw) (x : Nat) : offsTo v (x + 1) = offsTo v x ++ [offE v (atL v.sh (x : Int)) v.sh.length] := by simp [offsTo, List.range_succ]
theorem offs_at {v : Vw} (hr : rightV v = true) {k : Nat} (hk : (k : Int) < cellsV v) : atB v.sh (k : Int) = true ∧ offB v (atL v.sh (k : Int)) = true := by
  have h1 : atB v.sh (k : Int) = true := by
    unfold atB
    rw [(rightV_all hr).1, decide_eq_true (show 0 ≤ (k : Int) ∧ (k : Int) < prodL v.sh by rw [← cells_right hr]; omega)]
    rfl
  refine ⟨h1, ?_⟩
  have h2 := (place_of_at h1).1
  unfold placeB at h2
  simp only [Bool.and_eq_true] at h2
  unfold offB
  rw [hr, h2.2]
  rfl
theorem offB_has {v : Vw} {l : List Int} (h : offB v l = true) : hasB v.sh l = true := by
  unfold offB at h
  simp only [Bool.and_eq_true] at h
  exact h.2
set_option maxHeartbeats 4000000 in
theorem ref8Offsets_any (A A' : Option Addr) (n c n' c' : Nat) (s t : List Int) (o : Int) (w : World) (h : NumsF w A n c s) (h' : NumsF w A' n' c' t) (hn : n ≤ 1048576) (hn' : n' ≤ 1048576) (hr : rightV ⟨s, t, o⟩ = true) :
    Calls Try.prog 63 #[.agg #[.slice A n c, .slice A' n' c', .int .i64 o]] w (GaveInts (offsL ⟨s, t, o⟩) w) := by
  have HZ := Lib.hid (fun w' (hg : w.grownBy w' none) => ref8size_any A A' n c n' c' s t o w' (h.1.grow hg) hn)
  have HAT := Lib.hid (fun p w' (hg : w.grownBy w' none) => ref7At_any A n c s p w' (h.1.grow hg) hn)
  have H := Lib.hid h
  have H' := Lib.hid h'
  have HRT := Lib.hid hr
  have hcb : 0 ≤ cellsV ⟨s, t, o⟩ ∧ cellsV ⟨s, t, o⟩ ≤ 1048576 := by
    rw [cells_right hr]
    exact ⟨prod_nonneg fun z hz => by
      obtain ⟨i, hi, rfl⟩ := List.getElem_of_mem hz
      have := (rightV_len hr (i := i) hi).1
      simpa [List.getD, hi] using this, (full_all (rightV_all hr).1).2⟩
  have HOA := Lib.hid (fun (k : Nat) (hk : (k : Int) < cellsV ⟨s, t, o⟩) => offs_at hr hk)
  obtain ⟨C, hC⟩ : ∃ C : Nat, cellsV ⟨s, t, o⟩ = (C : Int) := ⟨(cellsV ⟨s, t, o⟩).toNat, by omega⟩
  have HOL := Lib.hid (show offsL ⟨s, t, o⟩ = offsTo ⟨s, t, o⟩ C by unfold offsL offsTo; rw [hC]; rfl)
  rw [hC] at HZ HOA hcb
  obtain ⟨w1, hw1⟩ : ∃ w1, w1 = w.alloc (.cells #[.slice A n c, .slice A' n' c', .int .i64 o] 24) := ⟨_, rfl⟩
  have hb := box8 w 24 #[.slice A n c, .slice A' n' c', .int .i64 o]
  rw [← hw1] at hb
  obtain ⟨hx, hg1⟩ := hb
  have HX := Lib.hid hx
  have HG1 := Lib.hid hg1
  have HW1 := Lib.hid hw1
  clear h h' hw1 hx hg1 hC hr
  go_enter Try.func63, Try.ntmps63
  go_upto_region 1 with fail
  rw [← HW1.out]
  go_wp2_with fail
  go_loopw [3, 4] (fun v i wr => ∃ (x : Nat) (B : Option Addr) (d : Nat), x ≤ C ∧ i = .int .i64 x ∧ v = .slice B x d ∧ OwnI wr w1.heap.size B x d (offsTo ⟨s, t, o⟩ x) ∧ w1.grownBy wr none) (fun _ i _ => C - (intOf i).toNat)
  case atStart => exact ⟨0, none, 0, Nat.zero_le _, rfl, rfl, OwnI.nil _ _, grown_refl _ _⟩
  case round =>
    obtain ⟨x, B, d, hx, rfl, rfl, ho, hg⟩ := hrel
    have HO := Lib.hid ho
    have HG := Lib.hid hg
    have HG2 := Lib.hid (grown_join HG1.out hg (.inr (by simp)))
    have HX2 := Lib.hid (HX.out.grown hg (by simp))
    clear ho hg
    have x0 := HX2.out.get 0
    have x1 := HX2.out.get 1
    have x2 := HX2.out.get 2
    go_wp2_with fail
    refine (HZ.out _ HG2.out).mono ?_
    rintro e w3 ⟨rfl, hg⟩
    have HG3 := Lib.hid (grown_join HG2.out hg (.inr (by simp)))
    have HG13 := Lib.hid (grown_join HG.out hg (.inr (by simp)))
    have HX3 := Lib.hid (HX2.out.grown hg (by simp))
    have HO3 := Lib.hid (HO.out.grow hg)
    clear x0 x1 x2 hg
    have x0 := HX3.out.get 0
    by_cases hlt : x < C
    · have HOX := Lib.hid (HOA.out x (by omega))
      go_wp2_with fail
      refine (HAT.out _ _ HG3.out).mono ?_
      rintro e w4 ⟨A2, c2, rfl, h4, hg⟩
      obtain ⟨n2, hn2⟩ : ∃ n2, n2 = (atL s (x : Int)).length := ⟨_, rfl⟩
      rw [← hn2] at h4 ⊢
      have HN2 := Lib.hid (show n2 = s.length by rw [hn2]; exact atL_length HOX.out.1)
      have H4 := Lib.hid h4
      have HG4 := Lib.hid (grown_join HG3.out hg (.inr (by simp)))
      have HG14 := Lib.hid (grown_join HG13.out hg (.inr (by simp)))
      have HX4 := Lib.hid (HX3.out.grown hg (by simp))
      have HO4 := Lib.hid (HO3.out.grow hg)
      clear x0 hg h4 hn2
      have x2 := HX4.out.get 2
      go_wp2_with fail
      obtain ⟨l, hl⟩ : ∃ l, l = atL s (x : Int) := ⟨_, rfl⟩
      have HLE := Lib.hid hl
      rw [← hl] at HOX H4
      have HHS := Lib.hid (has_all (offB_has HOX.out.2))
      have HOF := Lib.hid HOX.out.2
      clear x2 hl
      go_loopw [7, 8] (fun v i wr => ∃ k m : Nat, k ≤ n2 ∧ i = .int .i64 k ∧ v = .int .i64 (offE ⟨s, t, o⟩ l k) ∧ wr = w4.drewN m) (fun _ i _ => n2 - (intOf i).toNat)
      case atStart => exact ⟨0, 0, Nat.zero_le _, rfl, rfl, rfl⟩
      case round =>
        obtain ⟨k, m, hk, rfl, rfl, hwr⟩ := hrel
        have HG5 := Lib.hid (grown_drewN HG4.out m)
        by_cases hkt : k < n2
        · have hks : k < s.length := by rw [← HN2.out]; exact hkt
          have hk' : k < n' := by rw [← H'.out.len, (rightV_all HRT.out).2.1]; exact hks
          obtain ⟨b, off, rfl, _, hc⟩ := (H'.out.grow HG5.out).1.2.at_ hk'
          obtain ⟨b', off', rfl, _, hc'⟩ := (H4.out.drewN m).nums.2.at_ hkt
          have x1 := (HX4.out.drewN m).get 1
          have hb1 := offE_in HOF.out k (by show k ≤ s.length; omega)
          have hb2 := offE_in HOF.out (k + 1) (by show k + 1 ≤ s.length; omega)
          have hb3 := rightV_len HRT.out (i := k) hks
          have hb4 := rightV_str HRT.out (i := k) hks
          have hb5 := HHS.out.2.2 k hks
          have hb6 := times_in hb5.1 (by have := hb3.2; show l.getD k 0 ≤ 1048576; dsimp only at *; omega) hb4.1 hb4.2
          have hb7 : k ≤ 6 := by have := rightV_dims HRT.out; dsimp only at this; omega
          have HST := Lib.hid (show offE ⟨s, t, o⟩ l (k + 1) = offE ⟨s, t, o⟩ l k + l.getD k 0 * t.getD k 0 from rfl)
          rw [HST.out] at hb2
          dsimp only at hb6
          rw [← hwr] at hc hc' x1
          have HW := Lib.hid hwr
          clear hwr hb3 hb4 hb5
          generalize offE ⟨s, t, o⟩ l k = q at *
          generalize l.getD k 0 = u at *
          generalize t.getD k 0 = z at *
          have e1 : IntKind.i64.wrap (u * z) = u * z := IntWalk.i64_in _ (by omega)
          have e2 : IntKind.i64.wrap (q + u * z) = q + u * z := IntWalk.i64_in _ (by omega)
          have e3 : wrap64 (u * z) = u * z := IntWalk.wrap64_in _ (by omega)
          have e4 : wrap64 (q + u * z) = q + u * z := IntWalk.wrap64_in _ (by omega)
          clear hb1 hb2 hb6 hb7 hks
          go_wp2
          go_quiet (fail)
          go_wp2
          go_roundw
          case rel => exact ⟨k + 1, _, by omega, by go_num, by rw [HST.out], by rw [HW.out, World.drewN_drewN]⟩
          case measure => simp [intOf]; omega
        · obtain rfl : k = n2 := by omega
          subst hwr
          have HSN := Lib.hid (show offsTo ⟨s, t, o⟩ x ++ [offE ⟨s, t, o⟩ l k] = offsTo ⟨s, t, o⟩ (x + 1) by rw [offsTo_snoc, HLE.out, HN2.out])
          have hz14 := (grown_alloc (grown_drewN HG14.out m) (.cells #[.int .i64 (offE ⟨s, t, o⟩ l k)] 3)).size
          go_wp2_with (at_builtin; refine list_append_ints rfl (.tmp 42) (.tmp 44) rfl (by rfl) (by rfl) (base := w1.heap.size) (xs := offsTo ⟨s, t, o⟩ x) (ys := [offE ⟨s, t, o⟩ l k]) ((HO4.out.drewN m).grow (World.grownBy_alloc _ _ none)) (ints_one (one7 _ _)) (fun e => by cases e) hz14 (by omega) ?_; intro B5 d5 w5 ho5 hg5; have HG5' : Hid (w1.grownBy w5 none) := Lib.hid (grown_join (grown_alloc (grown_drewN HG14.out m) _) hg5.out (.inr fun b hb => (HO4.out.2.lt b (by rw [map_own]; exact hb)).1)); clear hg5)
          rw [HSN.out] at ho5
          go_roundw
          case rel => exact ⟨x + 1, B5, d5, by omega, by go_num, rfl, ho5.out, HG5'.out⟩
          case measure => simp [intOf]; omega
    · obtain rfl : x = C := by omega
      have HOC := Lib.hid (ints_as (offsTo_len ⟨s, t, o⟩ x).symm rfl HO3.out)
      go_wp2_with fail
      go_ret
      exact gave_ints HOL.out (HO3.out.lower HG1.out.size) HG3.out
end Go.Proofs.Ytkpfhjjojchdlaa
