/-
  Layer 6: the walk of HashMany, whatever holds the table.
-/
import Derived.Test.YtfemfkiamipipaaSays6
namespace Go.Proofs.Ytfemfkiamipipaa
open Go.ChangeShapes Go.WideShapes Go.ChangeAt Go.RowKit
set_option linter.unusedVariables false

/-- numbers from f on, as labels. -/
def manyL (f : Int) (k : Nat) : List Lab := (List.range k).map fun (i : Nat) => Lab.mk 0 (f + (i : Int)) noS
theorem many_length (f : Int) (k : Nat) : (manyL f k).length = k := by simp [manyL]
theorem many_succ (f : Int) (k : Nat) : manyL f (k + 1) = manyL f k ++ [⟨0, f + (k : Int), noS⟩] := by unfold manyL; rw [List.range_succ, List.map_append]; rfl
theorem many_get (f : Int) {k i : Nat} (hi : i < k) : (manyL f k).getD i noLab = ⟨0, f + (i : Int), noS⟩ := by simp [manyL, List.getD, hi]
theorem many_none (f : Int) (k : Nat) : numOf (manyL f k) ⟨0, f + (k : Int), noS⟩ = none := num_none fun i hi h => by
  rw [many_length] at hi
  rw [many_get f hi] at h
  injection h with _ h
  omega
theorem many_ahead (f : Int) (k : Nat) : numOf (manyL f k) ⟨0, f - 1, noS⟩ = none := num_none fun i hi h => by
  rw [many_length] at hi
  rw [many_get f hi] at h
  injection h with _ h
  omega
theorem many_some (f : Int) {k i : Nat} (hi : i < k) : numOf (manyL f k) ⟨0, f + (i : Int), noS⟩ = some i :=
  num_some (by rw [many_length]; exact hi) (many_get f hi) fun j hj h => by
    rw [many_get f (by omega)] at h
    injection h with _ h
    omega
theorem many_add (f : Int) {k : Nat} (hk : k < 4096) : addE (manyL f k) ⟨0, f + (k : Int), noS⟩ = (manyL f (k + 1), k, 0) := by
  rw [add_int (many_none f k) (by rw [many_length]; exact hk), many_succ, many_length]
theorem many_full (f : Int) {k x : Nat} (hk : k = 4096) (hx : k ≤ x) : addE (manyL f k) ⟨0, f + (x : Int), noS⟩ = (manyL f k, 0, 7) := by
  have hn : numOf (manyL f k) ⟨0, f + (x : Int), noS⟩ = none := num_none fun i hi h => by
    rw [many_length] at hi
    rw [many_get f hi] at h
    injection h with _ h
    omega
  rw [add_right (int_right _), hn, if_neg (by simp), if_pos (by rw [many_length]; omega)]
theorem AddedO.as {T : World → (Nat → Prop) → Addr → List Lab → Prop} {F : Nat → Prop} {q : Addr} {r r' : List Lab × Nat × Nat} {w w' : World} {e : Ending} (h : AddedO T F q r w e w') (hr : r = r') :
    e = .returned (.tuple #[.int .i64 r'.2.1, .int .i64 r'.2.2]) ∧ T w' (NewB F w w') q r'.1 ∧ Spare F w w' := by subst hr; exact h
theorem newB_in {F : Nat → Prop} {B : Nat} {w w' : World} (hF : ∀ x, F x → B ≤ x ∧ x < w.heap.size) (hB : B ≤ w.heap.size) (hz : w.heap.size ≤ w'.heap.size) : ∀ x, NewB F w w' x → B ≤ x ∧ x < w'.heap.size := by
  intro x hx
  rcases hx with hx | hx
  · have := hF x hx; omega
  · omega
theorem below_4200 (n : Int) : ∃ N : Nat, N < 4200 ∧ (wrap64 (n.tmod 4200 + 4200)).tmod 4200 = (N : Int) := by
  have h1 := Int.tmod_lt_of_pos n (show (0 : Int) < 4200 by decide)
  have h2 := Int.lt_tmod_of_pos n (show (0 : Int) < 4200 by decide)
  obtain ⟨t, ht⟩ : ∃ t, t = n.tmod 4200 := ⟨_, rfl⟩
  rw [← ht] at h1 h2 ⊢
  rw [IntWalk.wrap64_in _ (by omega), Int.tmod_eq_emod_of_nonneg (by omega)]
  exact ⟨((t + 4200) % 4200).toNat, by omega, by omega⟩
set_option maxRecDepth 100000 in
set_option maxHeartbeats 4000000 in
theorem hashMany_any {T : World → (Nat → Prop) → Addr → List Lab → Prop} (S : TabSays T) (f n : Int) (w : World) (h1 : -9223372036854775808 ≤ f) (h2 : f < 9223372036854775808) (h3 : -9223372036854775808 ≤ n) (h4 : n < 9223372036854775808) :
    Calls Try.prog 5 #[.int .i64 f, .int .i64 n] w (ToldG (.bool true) w) := by
  have HK := Lib.hid (fun w' => knows6_any S w')
  have HS := Lib.hid S
  clear S
  go_enter Try.func5, Try.ntmps5
  go_upto_region 2 with fail
  obtain ⟨N, hN, hNe⟩ := below_4200 n
  rw [hNe]
  clear hNe h3 h4
  by_cases hf1 : f < -1099511627776
  · have d1 : decide (f < -1099511627776) = true := by simp [hf1]
    go_wp2_with fail
    refine (HK.out _).mono ?_
    rintro e w1 ⟨rfl, hg⟩
    have HG := Lib.hid hg
    clear hg
    go_wp2_with fail
    go_ret
    exact ⟨rfl, HG.out⟩
  · by_cases hf2 : 1099511627776 < f
    · have d1 : decide (f < -1099511627776) = false := by simp; omega
      have d2 : decide (1099511627776 < f) = true := by simp [hf2]
      go_wp2_with fail
      refine (HK.out _).mono ?_
      rintro e w1 ⟨rfl, hg⟩
      have HG := Lib.hid hg
      clear hg
      go_wp2_with fail
      go_ret
      exact ⟨rfl, HG.out⟩
    · have d1 : decide (f < -1099511627776) = false := by simp; omega
      have d2 : decide (1099511627776 < f) = false := by simp; omega
      have HNW := Lib.hid (fun w' => HS.out.new none 0 0 [] w' (Labs.nil _ _) (by omega) (fun i hi => by omega))
      have HI := Lib.hid (fun n w' => int6_any n w')
      have HOKI := Lib.hid (fun (k : Nat) (hk : k < 4200) => show okL ⟨0, f + (k : Int), noS⟩ from ⟨Int.le_refl 0, by show (0 : Int) < 256; decide, by show _ ≤ f + (k : Int); omega, by show f + (k : Int) < _; omega, by show noS.size ≤ 1048576; decide⟩)
      have HN0 := Lib.hid (fun w' => num6_any 0 (by omega) w')
      have HN7 := Lib.hid (fun w' => num6_any 7 (by omega) w')
      clear d1 d2
      have d1 : decide (f < -1099511627776) = false := by simp; omega
      have d2 : decide (1099511627776 < f) = false := by simp; omega
      go_wp2_with fail
      refine (HK.out _).mono ?_
      rintro e w1 ⟨rfl, hg⟩
      have HG1 := Lib.hid hg
      clear hg
      go_wp2_with fail
      refine (HNW.out _).mono ?_
      intro e w2 h2'
      obtain ⟨q, G, rfl, ht, hG, hg⟩ := MadeO.ok (l := []) h2'
      have HG2 := Lib.hid (grown_join HG1.out hg (.inr (by simp)))
      have HT2 := Lib.hid ht
      have HF2 := Lib.hid (fun x (hx : G x) => show w.heap.size ≤ x ∧ x < w2.heap.size from ⟨Nat.le_trans HG1.out.size (hG x hx).1, (hG x hx).2⟩)
      clear hg ht hG h2' d1 d2
      go_wp2_with fail
      go_loopw [7, 8, 9] (fun i _ _ wr => ∃ (x k : Nat) (F : Nat → Prop), x ≤ N ∧ i = .int .i64 x ∧ k = min x 4096 ∧ T wr F q (manyL f k) ∧ (∀ y, F y → w.heap.size ≤ y ∧ y < wr.heap.size) ∧ w.grownBy wr none) (fun i _ _ _ => N - (intOf i).toNat)
      case atStart => exact ⟨0, 0, G, by omega, rfl, rfl, HT2.out, HF2.out, HG2.out⟩
      case round =>
        obtain ⟨x, k, F, hx, rfl, hk, ht, hF, hg⟩ := hrel
        have HT := Lib.hid ht
        have HF := Lib.hid hF
        have HG := Lib.hid hg
        clear ht hF hg
        by_cases hlt : x < N
        · have e1 : decide ((x : Int) < (N : Int)) = true := by simp; omega
          have s1 : wrap64 (f + (x : Int)) = f + (x : Int) := IntWalk.wrap64_in _ (by omega)
          have HOK := Lib.hid (HOKI.out x (by omega))
          by_cases h40 : x < 4096
          · obtain rfl : x = k := by omega
            clear hk
            have e2 : decide ((x : Int) < 4096) = true := by simp; omega
            have e3 : decide ((4096 : Int) ≤ (x : Int)) = false := by simp; omega
            have HAD := Lib.hid (fun w' h => (HS.out.add F q _ _ w' h HOK.out).mono fun _ _ h => h.as (many_add f h40))
            go_wp2_with fail
            refine (HI.out _ _).mono ?_
            rintro e w3 ⟨rfl, hg⟩
            have HG3 := Lib.hid (grown_join HG.out hg (.inr (by simp)))
            have HT3 := Lib.hid (HS.out.grow HT.out hg)
            have HZ3 := Lib.hid hg.size
            clear hg
            go_wp2_with fail
            refine (HAD.out _ HT3.out).mono ?_
            rintro e w4 ⟨rfl, ht, hs⟩
            have HT4 := Lib.hid ht
            have HG4 := Lib.hid (Spare.after HG3.out hs (fun y hy => (HF.out y hy).1))
            have HF4 := Lib.hid (newB_in (B := w.heap.size) (fun y hy => ⟨(HF.out y hy).1, Nat.lt_of_lt_of_le (HF.out y hy).2 HZ3.out⟩) HG3.out.size hs.size)
            clear ht hs
            dsimp only
            have e4 : ((0 : Int) == 0) = true := by decide
            go_wp2_with fail
            refine (HN0.out _).mono ?_
            rintro e w5 ⟨rfl, rfl⟩
            go_wp2_with fail
            go_roundw
            case rel => exact ⟨x + 1, x + 1, NewB F w3 w5, by omega, by go_num, by omega, HT4.out, HF4.out, HG4.out⟩
            case measure => simp [intOf]; omega
          · have hk2 : k = 4096 := by omega
            have e2 : decide ((x : Int) < 4096) = false := by simp; omega
            have e3 : decide ((4096 : Int) ≤ (x : Int)) = true := by simp; omega
            have HAD := Lib.hid (fun w' h => (HS.out.add F q _ _ w' h HOK.out).mono fun _ _ h => h.as (many_full f hk2 (by omega)))
            clear hk
            go_wp2_with fail
            refine (HI.out _ _).mono ?_
            rintro e w3 ⟨rfl, hg⟩
            have HG3 := Lib.hid (grown_join HG.out hg (.inr (by simp)))
            have HT3 := Lib.hid (HS.out.grow HT.out hg)
            have HZ3 := Lib.hid hg.size
            clear hg
            go_wp2_with fail
            refine (HAD.out _ HT3.out).mono ?_
            rintro e w4 ⟨rfl, ht, hs⟩
            have HT4 := Lib.hid ht
            have HG4 := Lib.hid (Spare.after HG3.out hs (fun y hy => (HF.out y hy).1))
            have HF4 := Lib.hid (newB_in (B := w.heap.size) (fun y hy => ⟨(HF.out y hy).1, Nat.lt_of_lt_of_le (HF.out y hy).2 HZ3.out⟩) HG3.out.size hs.size)
            clear ht hs
            dsimp only
            go_wp2_with fail
            refine (HN7.out _).mono ?_
            rintro e w5 ⟨rfl, rfl⟩
            go_wp2_with fail
            refine (HN7.out _).mono ?_
            rintro e w6 ⟨rfl, rfl⟩
            go_wp2_with fail
            go_roundw
            case rel => exact ⟨x + 1, k, NewB F w3 w6, by omega, by go_num, by omega, HT4.out, HF4.out, HG4.out⟩
            case measure => simp [intOf]; omega
        · obtain rfl : N = x := by omega
          have e1 : decide ((N : Int) < (N : Int)) = false := by simp
          have HK2 := Lib.hid hk
          clear hk
          go_wp2_with fail
          go_loopw [10, 11, 12] (fun i _ _ wk => ∃ (y : Nat), y ≤ 5000 ∧ i = .int .i64 y ∧ T wk F q (manyL f k) ∧ w.grownBy wk none) (fun i _ _ _ => 5000 - (intOf i).toNat)
          case atStart => exact ⟨0, by omega, rfl, HT.out, HG.out⟩
          case round =>
            obtain ⟨y, hy, rfl, ht, hg⟩ := hrel
            have HTY := Lib.hid ht
            have HGY := Lib.hid hg
            clear ht hg
            by_cases hy1 : y < N ∧ y < 4096
            · have g1 : decide ((y : Int) < (N : Int)) = true := by simp; omega
              have g2 : decide ((y : Int) < 4096) = true := by simp; omega
              have s1 : wrap64 (f + (y : Int)) = f + (y : Int) := IntWalk.wrap64_in _ (by omega)
              have HFI := Lib.hid (fun w' h => HS.out.find F q (manyL f k) ⟨0, f + (y : Int), noS⟩ w' h (HOKI.out y (by omega)))
              rw [many_some f (show y < k by have := HK2.out; omega)] at HFI
              go_wp2_with fail
              refine (HI.out _ _).mono ?_
              rintro e w3 ⟨rfl, hg⟩
              have HG3 := Lib.hid (grown_join HGY.out hg (.inr (by simp)))
              have HT3 := Lib.hid (HS.out.grow HTY.out hg)
              clear hg
              go_wp2_with fail
              refine (HFI.out _ HT3.out).mono ?_
              rintro e w4 ⟨rfl, hg⟩
              have HG4 := Lib.hid (grown_join HG3.out hg (.inr (by simp)))
              have HT4 := Lib.hid (HS.out.grow HT3.out hg)
              clear hg
              dsimp only [findV]
              go_wp2_with fail
              go_roundw
              case rel => exact ⟨y + 97, by omega, by go_num, HT4.out, HG4.out⟩
              case measure => simp [intOf]; omega
            · have HFI := Lib.hid (fun w' h => HS.out.find F q (manyL f k) ⟨0, f - 1, noS⟩ w' h ⟨Int.le_refl 0, by show (0 : Int) < 256; decide, by show _ ≤ f - 1; omega, by show f - 1 < _; omega, by show noS.size ≤ 1048576; decide⟩)
              rw [many_ahead f k] at HFI
              have HLE := Lib.hid (fun w' h => HS.out.len F q (manyL f k) w' h)
              rw [many_length] at HLE
              have s1 : wrap64 (f - 1) = f - 1 := IntWalk.wrap64_in _ (by omega)
              by_cases hyN : y < N
              · have g1 : decide ((y : Int) < (N : Int)) = true := by simp; omega
                have g2 : decide ((y : Int) < 4096) = false := by simp; omega
                go_wp2_with fail
                refine (HI.out _ _).mono ?_
                rintro e w3 ⟨rfl, hg⟩
                have HG3 := Lib.hid (grown_join HGY.out hg (.inr (by simp)))
                have HT3 := Lib.hid (HS.out.grow HTY.out hg)
                clear hg
                go_wp2_with fail
                refine (HFI.out _ HT3.out).mono ?_
                rintro e w4 ⟨rfl, hg⟩
                have HG4 := Lib.hid (grown_join HG3.out hg (.inr (by simp)))
                have HT4 := Lib.hid (HS.out.grow HT3.out hg)
                clear hg
                dsimp only [findV]
                go_wp2_with fail
                refine (HLE.out _ HT4.out).mono ?_
                rintro e w5 ⟨rfl, hg⟩
                have HG5 := Lib.hid (grown_join HG4.out hg (.inr (by simp)))
                clear hg
                go_wp2_with fail
                go_ret
                exact toldG_eq (show Value.bool ((k : Int) == 4096) = .bool true from congrArg Value.bool (by have := HK2.out; simp; omega)) HG5.out
              · have g1 : decide ((y : Int) < (N : Int)) = false := by simp; omega
                go_wp2_with fail
                refine (HI.out _ _).mono ?_
                rintro e w3 ⟨rfl, hg⟩
                have HG3 := Lib.hid (grown_join HGY.out hg (.inr (by simp)))
                have HT3 := Lib.hid (HS.out.grow HTY.out hg)
                clear hg
                go_wp2_with fail
                refine (HFI.out _ HT3.out).mono ?_
                rintro e w4 ⟨rfl, hg⟩
                have HG4 := Lib.hid (grown_join HG3.out hg (.inr (by simp)))
                have HT4 := Lib.hid (HS.out.grow HT3.out hg)
                clear hg
                dsimp only [findV]
                go_wp2_with fail
                refine (HLE.out _ HT4.out).mono ?_
                rintro e w5 ⟨rfl, hg⟩
                have HG5 := Lib.hid (grown_join HG4.out hg (.inr (by simp)))
                clear hg
                go_wp2_with fail
                all_goals go_ret
                all_goals first
                  | exact toldG_eq (show Value.bool ((k : Int) == 4096) = .bool true from congrArg Value.bool (by have := HK2.out; simp; omega)) HG5.out
                  | exact toldG_eq (show Value.bool ((k : Int) == (N : Int)) = .bool true from congrArg Value.bool (by have := HK2.out; simp; omega)) HG5.out
end Go.Proofs.Ytfemfkiamipipaa
