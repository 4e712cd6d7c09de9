/-
  Layer 6: a label's hash: the reference's and the program's own tell the same number.
-/
import Derived.Test.YtfemfkiamipipaaHash6
import Derived.Test.YtfemfkiamipipaaPart5
import Derived.Lib.AppendStr
namespace Go.Proofs.Ytfemfkiamipipaa
open Go.ChangeShapes Go.WideShapes Go.ChangeAt Go.RowKit
set_option linter.unusedVariables false

/-- one byte more. -/
def mixI (h b : Int) : Int := IntKind.u64.wrap (bits .xor .u64 h b * 1099511628211)
/-- the byte j of a number, from the lowest on. -/
def lowI (n : Int) (j : Nat) : Int := n / 2 ^ (8 * j) % 256
/-- a label's bytes, as numbers. -/
def hashL (a : Lab) : List Int := a.k :: ((List.range 8).map (lowI a.n) ++ a.s.data.toList.map fun b => (b.toNat : Int))
def hashI (a : Lab) : Int := (hashL a).foldl mixI 14695981039346656037
theorem mixI_range (h b : Int) : 0 ≤ mixI h b ∧ mixI h b ≤ 18446744073709551615 := by unfold mixI; rw [IntKind.wrap_u64]; omega
theorem foldl_range : ∀ (l : List Int) (h : Int), 0 ≤ h ∧ h ≤ 18446744073709551615 → 0 ≤ l.foldl mixI h ∧ l.foldl mixI h ≤ 18446744073709551615
  | [], h, hh => hh
  | b :: t, h, hh => foldl_range t _ (mixI_range h b)
theorem hashI_range (a : Lab) : 0 ≤ hashI a ∧ hashI a ≤ 18446744073709551615 := foldl_range _ _ (by omega)
/-- .. as a number from 0 on. -/
def hashN (a : Lab) : Nat := (hashI a).toNat
theorem hashN_is (a : Lab) : hashI a = (hashN a : Int) := by have := hashI_range a; unfold hashN; omega
theorem lowI_range (n : Int) (j : Nat) : 0 ≤ lowI n j ∧ lowI n j < 256 := by unfold lowI; omega
theorem low_u {n : Int} {u : Nat} (hu : n % 18446744073709551616 = (u : Int)) {j : Nat} (hj : j < 8) : ((u : Int) / 2 ^ (8 * j)) % 256 = lowI n j := by
  unfold lowI
  match j, hj with
  | 0, _ => simp only [Nat.mul_zero, Int.pow_zero]; omega
  | 1, _ => simp only [Nat.reduceMul, Int.reducePow]; omega
  | 2, _ => simp only [Nat.reduceMul, Int.reducePow]; omega
  | 3, _ => simp only [Nat.reduceMul, Int.reducePow]; omega
  | 4, _ => simp only [Nat.reduceMul, Int.reducePow]; omega
  | 5, _ => simp only [Nat.reduceMul, Int.reducePow]; omega
  | 6, _ => simp only [Nat.reduceMul, Int.reducePow]; omega
  | 7, _ => simp only [Nat.reduceMul, Int.reducePow]; omega
/-- the first bytes, mixed. -/
def hashTo (a : Lab) (j : Nat) : Int := ((hashL a).take j).foldl mixI 14695981039346656037
theorem hashL_length (a : Lab) : (hashL a).length = 9 + a.s.size := by simp [hashL]; omega
theorem hashTo_step (a : Lab) {j : Nat} (hj : j < 9 + a.s.size) : hashTo a (j + 1) = mixI (hashTo a j) ((hashL a).getD j 0) := by
  have hl : j < (hashL a).length := by rw [hashL_length]; exact hj
  unfold hashTo
  rw [List.take_succ_eq_append_getElem hl, List.foldl_append, List.getD_eq_getElem?_getD, List.getElem?_eq_getElem hl]
  rfl
theorem hashTo_zero (a : Lab) : hashTo a 0 = 14695981039346656037 := rfl
theorem hashTo_all (a : Lab) : hashTo a (9 + a.s.size) = hashI a := by
  unfold hashTo hashI
  rw [List.take_of_length_le (by rw [hashL_length]; exact Nat.le_refl _)]
theorem hashTo_range (a : Lab) (j : Nat) : 0 ≤ hashTo a j ∧ hashTo a j ≤ 18446744073709551615 := foldl_range _ _ (by omega)
theorem hashL_kind (a : Lab) : (hashL a).getD 0 0 = a.k := rfl
theorem hashL_low (a : Lab) {j : Nat} (hj : j < 8) : (hashL a).getD (j + 1) 0 = lowI a.n j := by
  unfold hashL
  rw [List.getD_cons_succ, List.getD_eq_getElem?_getD, List.getElem?_append_left (by simpa using hj)]
  simp [hj]
theorem hashL_text (a : Lab) {j : Nat} (hj : j < a.s.size) : (hashL a).getD (j + 9) 0 = ((a.s.data[j]'hj).toNat : Int) := by
  unfold hashL
  rw [show j + 9 = j + 8 + 1 by omega, List.getD_cons_succ, List.getD_eq_getElem?_getD, List.getElem?_append_right (by simp)]
  have hj' : j < a.s.data.size := hj
  simp
  rw [Array.getElem?_eq_getElem hj']
  rfl
theorem hashL_range {a : Lab} (h0 : 0 ≤ a.k) (h1 : a.k < 256) (j : Nat) : 0 ≤ (hashL a).getD j 0 ∧ (hashL a).getD j 0 < 256 := by
  by_cases hj : j < 9 + a.s.size
  · by_cases e : j = 0
    · subst e; exact ⟨h0, h1⟩
    · by_cases h8 : j < 9
      · obtain ⟨k, rfl⟩ : ∃ k, j = k + 1 := ⟨j - 1, by omega⟩
        rw [hashL_low a (by omega)]; exact lowI_range _ _
      · obtain ⟨k, rfl⟩ : ∃ k, j = k + 9 := ⟨j - 9, by omega⟩
        rw [hashL_text a (by omega)]
        have := UInt8.toNat_lt (a.s.data[k]'(show k < a.s.size by omega))
        omega
  · rw [List.getD_eq_getElem?_getD, List.getElem?_eq_none (by rw [hashL_length]; omega)]
    exact ⟨Int.le_refl 0, by decide⟩

/-! ### the program's own -/
theorem ownMix_any (h b : Int) (w : World) (h0 : 0 ≤ b) (h1 : b < 256) : Calls Try.prog 40 #[.int .u64 h, .int .u8 b] w (fun e w' => e = .returned (.int .u64 (mixI h b)) ∧ w' = w) := by
  have hw : IntKind.u64.wrap b = b := IntWalk.u64_in b (by omega)
  go_enter Try.func40, Try.ntmps40
  go_wp2
  go_ret
  exact ⟨rfl, rfl⟩
set_option maxRecDepth 100000 in
set_option maxHeartbeats 2000000 in
theorem ownHash_any (ak an : Int) (as' : ByteArray) (w : World) (h0 : 0 ≤ ak) (h1 : ak < 256) (h2 : -9223372036854775808 ≤ an) (h3 : an < 9223372036854775808) (hs : as'.size ≤ 1048576) :
    Calls Try.prog 37 #[.agg #[.int .u8 ak, .int .i64 an, .string as']] w (ToldG (.int .u64 (hashI ⟨ak, an, as'⟩)) w) := by
  obtain ⟨a, ha⟩ : ∃ a : Lab, a = ⟨ak, an, as'⟩ := ⟨_, rfl⟩
  have HA := Lib.hid ha
  rw [← ha]
  have HSZ := Lib.hid (show a.s = as' by rw [ha])
  have HST := Lib.hid (fun j (hj : j < 9 + as'.size) => hashTo_step a (j := j) (by rw [HSZ.out]; exact hj))
  have HRA := Lib.hid (fun j => hashL_range (a := a) (by rw [ha]; exact h0) (by rw [ha]; exact h1) j)
  have HLO := Lib.hid (fun j (hj : j < 8) => show (hashL a).getD (j + 1) 0 = an / 2 ^ (8 * j) % 256 by rw [hashL_low a hj, ha]; rfl)
  have HTX := Lib.hid (fun j (hj : j < as'.size) => show (hashL a).getD (j + 9) 0 = ((as'.data[j]'hj).toNat : Int) by subst ha; exact hashL_text ⟨ak, an, as'⟩ hj)
  have HAL := Lib.hid (show hashTo a (9 + as'.size) = hashI a by rw [← HSZ.out]; exact hashTo_all a)
  have HK0 := Lib.hid (show mixI 14695981039346656037 ak = hashTo a 1 by rw [hashTo_step a (by omega), hashTo_zero, hashL_kind, ha])
  have HMX := Lib.hid (fun (h b : Int) (w : World) (h0 : 0 ≤ b) (h1 : b < 256) => ownMix_any h b w h0 h1)
  have HM1 := Lib.hid (fun w => ownMix_any 14695981039346656037 ak w h0 h1)
  obtain ⟨w1, hw1⟩ : ∃ w1, w1 = w.alloc (.cells #[.int .u8 ak, .int .i64 an, .string as'] 38) := ⟨_, rfl⟩
  have HG1 := Lib.hid (show w.grownBy w1 none by rw [hw1]; exact World.grownBy_alloc _ _ _)
  have HX := Lib.hid (show Box w1 w.heap.size 38 #[.int .u8 ak, .int .i64 an, .string as'] by rw [hw1]; exact Box.fresh _ _ _)
  have HW1 := Lib.hid hw1
  clear ha hw1
  go_enter Try.func37, Try.ntmps37
  go_upto_region 1 with fail
  rw [← HW1.out]
  have x0 := HX.out.get 0
  have x1 := HX.out.get 1
  have x2 := HX.out.get 2
  go_wp2_with fail
  refine (HM1.out _).mono ?_
  rintro e w2 ⟨rfl, rfl⟩
  rw [HK0.out]
  go_wp2_with fail
  go_loop [3, 4, 9] (fun h _ i => ∃ j : Nat, j ≤ 8 ∧ i = .int .i64 j ∧ h = .int .u64 (hashTo a (j + 1))) (fun _ _ i => 8 - (intOf i).toNat)
  case atStart => exact ⟨0, by omega, rfl, rfl⟩
  case round =>
    obtain ⟨j, hj, rfl, rfl⟩ := hrel
    by_cases h8 : j < 8
    · have d1 : decide ((j : Int) < 8) = true := by simp; omega
      have HS1 := Lib.hid (HST.out (j + 1) (by omega))
      have HL1 := Lib.hid (HLO.out j h8)
      have HR1 := Lib.hid (HRA.out (j + 1))
      rw [HL1.out] at HS1 HR1
      generalize hashTo a (j + 1) = hh at *
      have HM2 := Lib.hid (HMX.out hh (an / 2 ^ (8 * j) % 256) w2 HR1.out.1 HR1.out.2)
      rw [← HS1.out] at HM2
      go_wp2_with fail
      refine HM2.out.mono ?_
      rintro e w3 ⟨rfl, rfl⟩
      go_wp2_with fail
      go_round
      case rel => exact ⟨j + 1, by omega, by go_num, rfl⟩
      case measure => simp [intOf]; omega
    · obtain rfl : j = 8 := by omega
      have d1 : decide (((8 : Nat) : Int) < 8) = false := by decide
      go_wp2_with fail
      go_loop [3, 5, 24] (fun h _ i => ∃ j : Nat, j ≤ as'.size ∧ i = .int .i64 j ∧ h = .int .u64 (hashTo a (j + 9))) (fun _ _ i => as'.size - (intOf i).toNat)
      case atStart => exact ⟨0, by omega, rfl, rfl⟩
      case round =>
        obtain ⟨j, hj, rfl, rfl⟩ := hrel
        by_cases h9 : j < as'.size
        · have d1 : decide ((j : Int) < (as'.size : Int)) = true := by simp; omega
          have HS1 := Lib.hid (HST.out (j + 9) (by omega))
          have HL1 := Lib.hid (HTX.out j h9)
          have HR1 := Lib.hid (HRA.out (j + 9))
          rw [HL1.out] at HS1 HR1
          rw [show j + 9 + 1 = j + 1 + 9 by omega] at HS1
          generalize hashTo a (j + 9) = hh at *
          have HM2 := Lib.hid (HMX.out hh _ w2 HR1.out.1 HR1.out.2)
          rw [← HS1.out] at HM2
          go_wp2_with fail
          refine HM2.out.mono ?_
          rintro e w3 ⟨rfl, rfl⟩
          go_wp2_with fail
          go_round
          case rel => exact ⟨j + 1, by omega, by go_num, rfl⟩
          case measure => simp [intOf]; omega
        · obtain rfl : j = as'.size := by omega
          have d1 : decide ((as'.size : Int) < (as'.size : Int)) = false := by simp
          go_wp2_with fail
          go_ret
          exact toldG_eq (by rw [← HAL.out, Nat.add_comm 9]; rfl) HG1.out
end Go.Proofs.Ytfemfkiamipipaa
