/-
  Layer 6: the walk of HashFinds, whatever holds the table.
-/
import Derived.Test.YtfemfkiamipipaaMany6
import Derived.Test.YtfemfkiamipipaaOpen5
namespace Go.Proofs.Ytfemfkiamipipaa
open Go.ChangeShapes Go.WideShapes Go.ChangeAt Go.RowKit
set_option linter.unusedVariables false

theorem add_cases (l : List Lab) (a : Lab) : (addE l a = (l ++ [a], l.length, 0) ∧ numOf l a = none) ∨ ∃ k, addE l a = (l, 0, k + 1) ∧ k + 1 ≤ 9 := by
  unfold addE
  split
  · exact .inr ⟨8, rfl, by omega⟩
  · cases hn : numOf l a with
    | some i => exact .inr ⟨5, by simp, by omega⟩
    | none =>
      split
      · rename_i h; simp at h
      · split
        · exact .inr ⟨6, rfl, by omega⟩
        · exact .inl ⟨rfl, rfl⟩
/-- labels as they come. -/
def Oks (l : List Lab) : Prop := ∀ i, i < l.length → okL (l.getD i noLab)
theorem oks_snoc {l : List Lab} {a : Lab} (h : Oks l) (ha : okL a) : Oks (l ++ [a]) := fun i hi => by
  rw [getD_snoc]
  by_cases e : i < l.length
  · rw [if_pos e]; exact h i e
  · rw [if_neg e, if_pos (by simp at hi; omega)]; exact ha
theorem has_num {l : List Lab} {a : Lab} {b : Bool} (h : b = true ↔ ∃ j, j < l.length ∧ l.getD j noLab = a) : (numOf l a).isSome = b := by
  cases hn : numOf l a with
  | some i =>
    obtain ⟨h1, h2, _⟩ := num_is hn
    exact (h.2 ⟨i, h1, h2⟩).symm
  | none =>
    cases b with
    | false => rfl
    | true =>
      obtain ⟨j, h1, h2⟩ := h.1 rfl
      exact absurd h2 (num_not hn j h1)
theorem Spare.of_rowO {w w' : World} {r : Option Nat} (h : w.grownBy w' r) : Spare (fun x => r = some x) w w' := ⟨h.os, h.tape, h.output, h.size, fun x hx hF => h.block x hx (fun e => hF e.symm)⟩
/-- no block of this row is one of these. -/
def Off (F : Nat → Prop) (A : Option Addr) (n c : Nat) : Prop := ∀ k, (Value.slice A n c).ownBlock = some k → ¬ F k
set_option maxRecDepth 100000 in
set_option maxHeartbeats 8000000 in
theorem hashFinds_any {T : World → (Nat → Prop) → Addr → List Lab → Prop} (S : TabSays T) (A : Option Addr) (n c : Nat) (l : List Lab) (ok on : Int) (os : ByteArray) (w : World) (h : Labs w w.heap.size A n l) (hn : n ≤ 9223372036854775807) (hl : ∀ i, LabIn (l.getD i noLab)) (ho : LabIn ⟨ok, on, os⟩) :
    Calls Try.prog 4 #[.slice A n c, .agg #[.int .u8 ok, .int .i64 on, .string os]] w (ToldG (.bool true) w) := by
  have HK := Lib.hid (fun w' => knows6_any S w')
  have HS := Lib.hid S
  have H := Lib.hid h
  have HL := Lib.hid h.1
  have HIN := Lib.hid hl
  have HO := Lib.hid ho
  obtain ⟨w1, hw1⟩ : ∃ w1, w1 = w.alloc (.cells #[.int .u8 ok, .int .i64 on, .string os] 39) := ⟨_, rfl⟩
  have HW1 := Lib.hid hw1
  have HG1 := Lib.hid (show w.grownBy w1 none by rw [hw1]; exact World.grownBy_alloc _ _ _)
  have HX := Lib.hid (show Box w1 w.heap.size 39 #[.int .u8 ok, .int .i64 on, .string os] by rw [hw1]; exact Box.fresh _ _ _)
  have HLI := Lib.hid (light_any A n c l _ _ (h.grow HG1.out) hn)
  clear h hl ho hw1 S
  go_enter Try.func4, Try.ntmps4
  go_upto_region 1 with fail
  rw [← HW1.out]
  go_wp2_with fail
  refine HLI.out.mono ?_
  rintro e w2 ⟨b, rfl, hli, rfl⟩
  have HLT := Lib.hid hli
  have x2 := HX.out.get 2
  clear hli
  cases b
  · go_wp2_with fail
    refine (HK.out _).mono ?_
    rintro e w3 ⟨rfl, hg⟩
    have HG3 := Lib.hid (grown_join HG1.out hg (.inr (by simp)))
    clear hg
    go_wp2_with fail
    go_ret
    exact ⟨rfl, HG3.out⟩
  · by_cases h300 : os.size ≤ 300
    · have d1 : decide ((300 : Int) < (os.size : Int)) = false := by simp; omega
      have HNW := Lib.hid (fun w' => HS.out.new none 0 0 [] w' (Labs.nil _ _) (by omega) (fun i hi => by omega))
      have HN0 := Lib.hid (fun w' => num6_any 0 (by omega) w')
      have HNK := Lib.hid (fun (k : Nat) (hk : k + 1 ≤ 9) w' => show Calls Try.prog 12 #[.int .i64 ((k : Int) + 1)] w' (fun en w'' => en = .returned (.int .i64 ((k : Int) + 1)) ∧ w'' = w') from num6_any (k + 1) hk w')
      have HN4 := Lib.hid (show n ≤ 400 by have := (HLT.out rfl).1; rw [HL.out] at this; exact this)
      have hn4 : n ≤ 400 := HN4.out
      have HOK := Lib.hid (fun i (hi : i < n) => show okL (l.getD i noLab) from by
        obtain ⟨h1, h2, h3, h4⟩ := HIN.out i
        exact ⟨h1, h2, h3, h4, by have := (HLT.out rfl).2 i (by rw [HL.out]; exact hi); omega⟩)
      have HOO := Lib.hid (show okL ⟨ok, on, os⟩ from ⟨HO.out.1, HO.out.2.1, HO.out.2.2.1, HO.out.2.2.2, by show os.size ≤ 1048576; omega⟩)
      obtain ⟨i0, hi, hz0, hz1, hz2⟩ := info_parts info_rlab
      have HI := Lib.hid hi
      have HI0 := Lib.hid hz0
      have HI1 := Lib.hid hz1
      have HI2 := Lib.hid hz2
      clear hi hz0 hz1 hz2 hn
      go_wp2_with fail
      refine (HK.out _).mono ?_
      rintro e w3 ⟨rfl, hg⟩
      have HG3 := Lib.hid (grown_join HG1.out hg (.inr (by simp)))
      have HX3 := Lib.hid (HX.out.grown hg (by simp))
      clear hg x2 d1 h300
      go_wp2_with fail
      refine (HNW.out _).mono ?_
      intro e w4 h2'
      obtain ⟨q, G, rfl, ht, hG, hg⟩ := MadeO.ok (l := []) h2'
      have HG4 := Lib.hid (grown_join HG3.out hg (.inr (by simp)))
      have HX4 := Lib.hid (HX3.out.grown hg (by simp))
      have HT4 := Lib.hid ht
      have HWZ := Lib.hid (show w.heap.size + 1 ≤ w3.heap.size from HX3.out.small)
      have HF4 := Lib.hid (fun x (hx : G x) => show w.heap.size + 1 ≤ x ∧ x < w4.heap.size from ⟨Nat.le_trans HWZ.out (hG x hx).1, (hG x hx).2⟩)
      clear hg ht hG h2'
      go_wp2_with fail
      refine (HN0.out _).mono ?_
      rintro e w5 ⟨rfl, rfl⟩
      go_wp2_with fail
      go_loopw [7, 8, 9, 10] (fun v i _ _ wr => ∃ (x m : Nat) (ins : List Lab) (F : Nat → Prop) (A' : Option Addr) (c' : Nat), x ≤ n ∧ i = .int .i64 x ∧ v = .slice A' m c' ∧ m ≤ x ∧ Oks ins ∧ Apart ins ∧ OwnL wr (w.heap.size + 1) 39 A' m c' ins ∧ T wr F q ins ∧ (∀ y, F y → w.heap.size + 1 ≤ y ∧ y < wr.heap.size) ∧ Off F A' m c' ∧ Box wr w.heap.size 39 #[.int .u8 ok, .int .i64 on, .string os] ∧ w.grownBy wr none) (fun _ i _ _ _ => n - (intOf i).toNat)
      case atStart => exact ⟨0, 0, [], G, none, 0, by omega, rfl, rfl, by omega, fun i hi => absurd hi (by simp), apart_nil, OwnL.nil _ _ _, HT4.out, HF4.out, fun k hk => by simp [Value.ownBlock] at hk, HX4.out, HG4.out⟩
      case round =>
        obtain ⟨x, m, ins, F, A', c', hx, rfl, rfl, hil, hoks, hap, hown, ht, hF, hoff, hbx, hg⟩ := hrel
        have HIL := Lib.hid hil
        have HOI := Lib.hid hoks
        have HAP := Lib.hid hap
        have HOW := Lib.hid hown
        have HLE := Lib.hid hown.1
        have HT := Lib.hid ht
        have HF := Lib.hid hF
        have HOF := Lib.hid hoff
        have HBX := Lib.hid hbx
        have HG := Lib.hid hg
        clear hoks hap hown ht hF hoff hbx
        by_cases hlt : x < n
        · obtain ⟨bb, off, rfl, _, k0, k1, k2⟩ := (H.out.grow hg).at_ hlt
          have HOX := Lib.hid (HOK.out x hlt)
          have HGT := Lib.hid (fun w' (hg : w.grownBy w' none) => (H.out.grow hg).2 (by omega))
          have HLX := Lib.hid (fun w' (hg : w.grownBy w' none) => (H.out.grow hg).at_ hlt)
          have HYL := Lib.hid (show l.getD x noLab = l.getD x noLab from rfl)
          generalize l.getD x noLab = y at *
          obtain ⟨yk, yn, ys⟩ := y
          dsimp only at k0 k1 k2
          have HAD := Lib.hid (HS.out.add F q ins ⟨yk, yn, ys⟩ wr HT.out HOX.out)
          clear hg
          go_wp2_with fail
          refine HAD.out.mono ?_
          rintro e w6 ⟨rfl, ht, hs⟩
          have HT6 := Lib.hid ht
          have HG6 := Lib.hid (Spare.after HG.out hs (fun y hy => by have := (HF.out y hy).1; omega))
          have HF6 := Lib.hid (newB_in (B := w.heap.size + 1) HF.out (by have := HBX.out.small; omega) hs.size)
          have HBX6 := Lib.hid (hs.box HBX.out (fun hf => by have := (HF.out _ hf).1; omega))
          have HOW6 := Lib.hid (show OwnL w6 (w.heap.size + 1) 39 A' m c' ins from ⟨HLE.out, hs.own HOW.out.2 HOF.out⟩)
          have HOF6 : Hid (Off (NewB F wr w6) A' m c') := Lib.hid (fun k hk hnew => by
            rcases hnew with hnew | hnew
            · exact HOF.out k hk hnew
            · have := (HOW.out.2.lt k hk).2
              omega)
          clear ht hs k0 k1 k2
          rcases add_cases ins ⟨yk, yn, ys⟩ with ⟨he, hnum⟩ | ⟨k, he, hk9⟩
          · rw [he, HLE.out] at HT6 ⊢
            dsimp only at HT6 ⊢
            have HAP2 := Lib.hid (apart_snoc HAP.out hnum)
            clear he hnum
            obtain ⟨b2, o2, hA2, _, k0, k1, k2⟩ := HLX.out _ HG6.out
            injection hA2 with hA2
            injection hA2 with hb2 ho2
            subst hb2
            subst ho2
            have ei : ((m : Int) != (m : Int)) = false := by simp
            have hm4 : m ≤ 400 := by omega
            have hsz6 : w.heap.size + 1 ≤ w6.heap.size := HBX6.out.small
            go_wp2_with fail
            refine (HN0.out _).mono ?_
            rintro e w7 ⟨rfl, rfl⟩
            go_wp2_with (at_builtin; refine wpList_append_own_at _ rfl (.tmp 60) (.tmp 65) _ rfl (w.heap.size + 1) 39 i0 _ 3 32 Try.underlying22 HI.out HI0.out HI1.out HI2.out rfl (by omega) (.slice A' m c') m _ rfl (HOW6.out.2.alloc _) ⟨_, 0, none⟩ 1 1 [.int .u8 yk, .int .i64 yn, .string ys] rfl rfl (new_cells3 _ _ _ _ _) (three_one _ _ _) (by simp only [maxLen]; omega) (by omega) (by simp; omega) ?_; intro v7' w8 hown8 hg8 _ hat8; have HO8 := Lib.hid hown8; have HG8 := Lib.hid hg8; have HA8 := Lib.hid hat8; clear hown8 hg8 hat8)
            obtain ⟨A8, c8, rfl⟩ := own_slice3 HO8.out
            have hs8 : Spare (fun z => (Value.slice A' m c').ownBlock = some z) w7 w8 := Spare.join (Spare.of_grown (World.grownBy_alloc w7 (.cells #[.int .u8 yk, .int .i64 yn, .string ys] 39) none)) (Spare.of_rowO HG8.out) (fun _ _ h => h)
            have HS8 := Lib.hid hs8
            clear hs8
            go_roundw
            case rel => exact ⟨x + 1, m + 1, ins ++ [⟨yk, yn, ys⟩], NewB F wr w7, A8, c8, by omega, by go_num, rfl, by omega, oks_snoc HOI.out HOX.out, HAP2.out, ⟨by simp [HLE.out], by rw [labV_snoc]; exact HO8.out⟩, HS.out.keep HT6.out HS8.out (fun z hz he => HOF6.out z he hz), (fun z hz => ⟨(HF6.out z hz).1, Nat.lt_of_lt_of_le (HF6.out z hz).2 HS8.out.size⟩), (fun z hz hnew => by
              rcases HA8.out with he | he
              · rw [he] at hz; exact HOF6.out z hz hnew
              · rw [he] at hz
                injection hz with hz
                have := (HF6.out z hnew).2
                simp at hz
                omega), HS8.out.box HBX6.out (fun he => by have := (HOW6.out.2.lt _ he).1; omega), Spare.after HG6.out HS8.out (fun z hz => by have := (HOW6.out.2.lt z hz).1; omega)⟩
            case measure => simp [intOf]; omega
          · rw [he] at HT6 ⊢
            dsimp only at HT6 ⊢
            clear he
            have ek : ((((k + 1 : Nat) : Int)) == 0) = false := by simp; omega
            have ek2 : (((k : Int) + 1) == 0) = false := by simp; omega
            go_wp2_with fail
            refine (HNK.out k hk9 _).mono ?_
            rintro e w7 ⟨rfl, rfl⟩
            go_wp2_with fail
            go_roundw
            case rel => exact ⟨x + 1, m, ins, NewB F wr w7, A', c', by omega, by go_num, rfl, by omega, HOI.out, HAP.out, HOW6.out, HT6.out, HF6.out, HOF6.out, HBX6.out, HG6.out⟩
            case measure => simp [intOf]; omega
        · obtain rfl : n = x := by omega
          have hm4 : m ≤ 400 := by omega
          have HFA := Lib.hid (fun y (hy : y < m) w' h => HS.out.find F q ins (ins.getD y noLab) w' h (HOI.out y (by rw [HLE.out]; exact hy)))
          have HNA := Lib.hid (fun y (hy : y < m) => num_apart HAP.out (show y < ins.length by rw [HLE.out]; exact hy))
          have HFO := Lib.hid (fun w' h => HS.out.find F q ins ⟨ok, on, os⟩ w' h HOO.out)
          have HLN := Lib.hid (fun w' h => HS.out.len F q ins w' h)
          have HRM := Lib.hid (fun w' h => HS.out.room F q ins w' h)
          rw [HLE.out] at HLN HRM
          have HRB := Lib.hid (room_big m)
          have HRS := Lib.hid (room_small m)
          clear hg hil
          go_wp2_with fail
          go_loopw [11, 12, 13, 14] (fun v i _ _ wk => ∃ (y : Nat) (b : Bool), y ≤ m ∧ i = .int .i64 y ∧ v = .bool b ∧ (b = true ↔ ∃ j, j < y ∧ ins.getD j noLab = ⟨ok, on, os⟩) ∧ T wk F q ins ∧ OwnL wk (w.heap.size + 1) 39 A' m c' ins ∧ Box wk w.heap.size 39 #[.int .u8 ok, .int .i64 on, .string os] ∧ w.grownBy wk none) (fun _ i _ _ _ => m - (intOf i).toNat)
          case atStart => exact ⟨0, false, by omega, rfl, rfl, ⟨fun h => (by cases h), fun ⟨j, hj, _⟩ => by omega⟩, HT.out, HOW.out, HBX.out, HG.out⟩
          case round =>
            obtain ⟨y, hb, hy, rfl, rfl, hiff, ht, hown, hbx, hg⟩ := hrel
            have HIF := Lib.hid hiff
            have HTY := Lib.hid ht
            have HOY := Lib.hid hown
            have HBY := Lib.hid hbx
            have HGY := Lib.hid hg
            clear hiff ht hown hbx hg
            by_cases hym : y < m
            · obtain ⟨bb, off, rfl, _, k0, k1, k2⟩ := HOY.out.labs.at_ hym
              have HLG := Lib.hid (fun w' (hg : wr.grownBy w' none) => ((HOY.out.grow hg).labs).at_ hym)
              have HF1 := Lib.hid (HFA.out y hym)
              rw [HNA.out y hym] at HF1
              have HYV := Lib.hid (show ins.getD y noLab = ins.getD y noLab from rfl)
              generalize hu : ins.getD y noLab = u at *
              have HU := Lib.hid hu
              clear hu
              obtain ⟨uk, un, us⟩ := u
              dsimp only at k0 k1 k2
              go_wp2_with fail
              refine (HF1.out _ HTY.out).mono ?_
              rintro e w6 ⟨rfl, hg⟩
              have HG6 := Lib.hid (grown_join HGY.out hg (.inr (by simp)))
              have HT6 := Lib.hid (HS.out.grow HTY.out hg)
              have HO6 := Lib.hid (HOY.out.grow hg)
              have HB6 := Lib.hid (HBY.out.grown hg (by simp))
              obtain ⟨b2, o2, hA2, _, k0', k1', k2'⟩ := HLG.out _ hg
              injection hA2 with hA2
              injection hA2 with hb2 ho2
              subst hb2
              subst ho2
              clear hg k0 k1 k2
              dsimp only [findV]
              have x0 := HB6.out.get 0
              have x1 := HB6.out.get 1
              have x2 := HB6.out.get 2
              have hq := eql_rlab ⟨uk, un, us⟩ ⟨ok, on, os⟩
              have i2 : ((y : Int) != (y : Int)) = false := by simp
              cases hb
              · by_cases he : (⟨uk, un, us⟩ : Lab) = ⟨ok, on, os⟩
                · rw [show eqlL ⟨uk, un, us⟩ ⟨ok, on, os⟩ = true from decide_eq_true he] at hq
                  have HE := Lib.hid he
                  clear he
                  dsimp only at hq
                  go_wp2_with fail
                  go_quiet (fail)
                  go_wp2_with fail
                  go_roundw
                  case rel => exact ⟨y + 1, true, by omega, by go_num, rfl, ⟨fun _ => ⟨y, by omega, by rw [HU.out]; exact HE.out⟩, fun _ => rfl⟩, HS.out.grow HT6.out (grown_drewN (grown_refl _ _) _), HO6.out.grow (grown_drewN (grown_refl _ _) _), HB6.out, grown_drewN HG6.out _⟩
                  case measure => simp [intOf]; omega
                · rw [show eqlL ⟨uk, un, us⟩ ⟨ok, on, os⟩ = false from decide_eq_false he] at hq
                  have HE := Lib.hid he
                  clear he
                  dsimp only at hq
                  go_wp2_with fail
                  go_quiet (fail)
                  go_wp2_with fail
                  go_roundw
                  case rel => exact ⟨y + 1, false, by omega, by go_num, rfl, ⟨fun h => (by cases h), fun ⟨j, hj, hje⟩ => by
                    by_cases e : j = y
                    · subst e; rw [HU.out] at hje; exact absurd hje HE.out
                    · exact HIF.out.2 ⟨j, by omega, hje⟩⟩, HS.out.grow HT6.out (grown_drewN (grown_refl _ _) _), HO6.out.grow (grown_drewN (grown_refl _ _) _), HB6.out, grown_drewN HG6.out _⟩
                  case measure => simp [intOf]; omega
              · go_wp2_with fail
                go_quiet (fail)
                go_wp2_with fail
                go_roundw
                case rel => exact ⟨y + 1, true, by omega, by go_num, rfl, ⟨fun _ => by
                  obtain ⟨j, h1, h2⟩ := HIF.out.1 (by trivial)
                  exact ⟨j, by omega, h2⟩, fun _ => rfl⟩, HS.out.grow HT6.out (grown_drewN (grown_refl _ _) _), HO6.out.grow (grown_drewN (grown_refl _ _) _), HB6.out, grown_drewN HG6.out _⟩
                case measure => simp [intOf]; omega
            · obtain rfl : m = y := by omega
              have HNU := Lib.hid (has_num (l := ins) (a := ⟨ok, on, os⟩) (b := hb) (by rw [HLE.out]; exact HIF.out))
              have x0 := HBY.out.get 0
              have x1 := HBY.out.get 1
              have x2 := HBY.out.get 2
              go_wp2_with fail
              refine (HFO.out _ HTY.out).mono ?_
              rintro e w6 ⟨rfl, hg⟩
              have HG6 := Lib.hid (grown_join HGY.out hg (.inr (by simp)))
              have HT6 := Lib.hid (HS.out.grow HTY.out hg)
              clear hg x0 x1 x2
              generalize numOf ins ⟨ok, on, os⟩ = o at *
              have hrb := HRB.out
              have hrs := HRS.out
              clear hlt
              generalize roomE m = R at *
              have s1 : wrap64 (2 * (R : Int)) = 2 * (R : Int) := IntWalk.wrap64_in _ (by omega)
              have s2 : wrap64 (3 * (m : Int)) = 3 * (m : Int) := IntWalk.wrap64_in _ (by omega)
              have s3 : decide (3 * (m : Int) < 2 * (R : Int)) = true := by simp; omega
              cases o with
              | none =>
                obtain rfl : false = hb := HNU.out
                dsimp only [findV]
                go_wp2_with fail
                refine (HLN.out _ HT6.out).mono ?_
                rintro e w7 ⟨rfl, hg⟩
                have HG7 := Lib.hid (grown_join HG6.out hg (.inr (by simp)))
                have HT7 := Lib.hid (HS.out.grow HT6.out hg)
                clear hg
                go_wp2_with fail
                refine (HRM.out _ HT7.out).mono ?_
                rintro e w8 ⟨rfl, hg⟩
                have HG8 := Lib.hid (grown_join HG7.out hg (.inr (by simp)))
                clear hg
                go_wp2_with fail
                go_ret
                exact ⟨rfl, HG8.out⟩
              | some i =>
                obtain rfl : true = hb := HNU.out
                dsimp only [findV]
                go_wp2_with fail
                refine (HLN.out _ HT6.out).mono ?_
                rintro e w7 ⟨rfl, hg⟩
                have HG7 := Lib.hid (grown_join HG6.out hg (.inr (by simp)))
                have HT7 := Lib.hid (HS.out.grow HT6.out hg)
                clear hg
                go_wp2_with fail
                refine (HRM.out _ HT7.out).mono ?_
                rintro e w8 ⟨rfl, hg⟩
                have HG8 := Lib.hid (grown_join HG7.out hg (.inr (by simp)))
                clear hg
                go_wp2_with fail
                go_ret
                exact ⟨rfl, HG8.out⟩
    · have d1 : decide ((300 : Int) < (os.size : Int)) = true := by simp; omega
      go_wp2_with fail
      refine (HK.out _).mono ?_
      rintro e w3 ⟨rfl, hg⟩
      have HG3 := Lib.hid (grown_join HG1.out hg (.inr (by simp)))
      clear hg
      go_wp2_with fail
      go_ret
      exact ⟨rfl, HG3.out⟩
end Go.Proofs.Ytfemfkiamipipaa
