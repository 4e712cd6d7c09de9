/-
  math/bits.OnesCount64; bits.Count and its reference.
-/
import Derived.Test.YtabkgdichlebmaaOf
import Derived.Test.YtabkgdichlebmaaPop
import Derived.Deep.DeepCutAuto
namespace Go.Proofs.Ytabkgdichlebmaa
open Go.ChangeShapes Go.WideShapes Go.ChangeAt Go.RowKit
set_option linter.unusedVariables false

theorem wrap_fits (y : Nat) (h : y < 18446744073709551616) : IntKind.u64.wrap (y : Int) = (y : Int) := by rw [IntKind.wrap_u64]; omega
theorem ones_1 (x : Nat) (hx : x < 18446744073709551616) : IntKind.u64.wrap (bits BinOp.and IntKind.u64 ((x : Int) / 2) 6148914691236517205 + bits BinOp.and IntKind.u64 (x : Int) 6148914691236517205) = ((mapB pairs 8 x : Nat) : Int) := by
  have hl := mapB_lt pairs_small 8 x
  have e : (6148914691236517205 : Int) = ((rep 85 8 : Nat) : Int) := by decide
  have e2 : rep 85 8 < 18446744073709551616 := by decide
  rw [e, show (x : Int) / 2 = ((x / 2 : Nat) : Int) by omega, u64_and_nat _ _ (by omega) e2, u64_and_nat _ _ hx e2, ← Int.natCast_add, pairs_all 8 x]
  exact wrap_fits _ (by simpa using hl)
theorem ones_2 (x : Nat) (hx : x < 18446744073709551616) : IntKind.u64.wrap (bits BinOp.and IntKind.u64 (((mapB pairs 8 x : Nat) : Int) / 4) 3689348814741910323 + bits BinOp.and IntKind.u64 ((mapB pairs 8 x : Nat) : Int) 3689348814741910323) = ((mapB (fun b => fours (pairs b)) 8 x : Nat) : Int) := by
  have hl := mapB_lt pairs_small 8 x
  have hm := mapB_lt (f := fun b => fours (pairs b)) (fun b hb => by have := (fours_small b hb).1; omega) 8 x
  have e : (3689348814741910323 : Int) = ((rep 51 8 : Nat) : Int) := by decide
  have e2 : rep 51 8 < 18446744073709551616 := by decide
  have hl' : mapB pairs 8 x < 18446744073709551616 := by simpa using hl
  rw [e, show ((mapB pairs 8 x : Nat) : Int) / 4 = ((mapB pairs 8 x / 4 : Nat) : Int) by omega, u64_and_nat _ _ (by omega) e2, u64_and_nat _ _ hl' e2, ← Int.natCast_add, fours_all 8, mapB_mapB pairs_small]
  exact wrap_fits _ (by simpa using hm)
theorem fours_sum (n y : Nat) : 255 * mapB (fun b => fours (pairs b)) n y + 68 ≤ 68 * 256 ^ n := by
  induction n generalizing y with
  | zero => simp [mapB]
  | succ n ih =>
    have h1 := ih (y / 256)
    have h2 := (fours_small (y % 256) (Nat.mod_lt _ (by omega))).1
    show 255 * (fours (pairs (y % 256)) + 256 * mapB (fun b => fours (pairs b)) n (y / 256)) + 68 ≤ 68 * (256 ^ n * 256)
    rw [Nat.mul_add, ← Nat.mul_assoc, Nat.mul_comm (256 ^ n), ← Nat.mul_assoc]
    generalize fours (pairs (y % 256)) = p at *
    generalize mapB (fun b => fours (pairs b)) n (y / 256) = q at *
    generalize 256 ^ n = P at *
    show 255 * p + 65280 * q + 68 ≤ 17408 * P
    omega
theorem ones_3 (x : Nat) (hx : x < 18446744073709551616) : bits BinOp.and IntKind.u64 (IntKind.u64.wrap (((mapB (fun b => fours (pairs b)) 8 x : Nat) : Int) / 16 + ((mapB (fun b => fours (pairs b)) 8 x : Nat) : Int))) 1085102592571150095 = ((mapB pcB 8 x : Nat) : Int) := by
  have e : (1085102592571150095 : Int) = ((rep 15 8 : Nat) : Int) := by decide
  have e2 : rep 15 8 < 18446744073709551616 := by decide
  have h8 := eights_all fours_small 8 x
  have hc := mapB_congr pc_byte 8 x
  have hs : mapB (fun b => fours (pairs b)) 8 x / 16 + mapB (fun b => fours (pairs b)) 8 x < 18446744073709551616 := by
    have h9 := fours_sum 8 x
    have e3 : 256 ^ 8 = 18446744073709551616 := by decide
    rw [e3] at h9
    omega
  generalize mapB (fun b => fours (pairs b)) 8 x = y at *
  rw [e, show (y : Int) / 16 = ((y / 16 : Nat) : Int) by omega, ← Int.natCast_add, wrap_fits _ hs, u64_and_nat _ _ hs e2, h8, hc]
theorem ones_up (y d z : Nat) (h : z = y + y / d) (hz : z < 18446744073709551616) : IntKind.u64.wrap ((y : Int) + (y : Int) / (d : Int)) = (z : Int) := by
  rw [← Int.natCast_ediv, ← Int.natCast_add, ← h, wrap_fits _ hz]
theorem ones_last (z r : Nat) (hz : z < 9223372036854775808) (h : z % 128 = r) : bits BinOp.and IntKind.i64 (wrap64 (z : Int)) 127 = (r : Int) := by
  have hx : z &&& 127 < 2 ^ 63 := Nat.and_lt_two_pow _ (by omega)
  have hw : wrap64 (z : Int) = (z : Int) := by unfold wrap64; omega
  rw [hw]
  show IntKind.i64.wrap ((BitVec.ofInt 64 (z : Int) &&& BitVec.ofInt 64 ((127 : Nat) : Int)).toNat : Int) = _
  rw [BitVec.toNat_and, BitVec.ofInt_natCast, BitVec.ofInt_natCast, BitVec.toNat_ofNat, BitVec.toNat_ofNat, Nat.mod_eq_of_lt (by omega), Nat.mod_eq_of_lt (by omega), nat_mask7, IntKind.wrap_i64]
  omega
set_option maxHeartbeats 1000000 in
theorem ones_any (x : Nat) (hx : x < 18446744073709551616) (w : World) :
    Calls Try.prog 49 #[.int .u64 x] w fun e w' => e = .returned (.int .i64 (popc (fun i => x.testBit i) 64 : Nat)) ∧ w' = w := by
  have e1 := ones_1 x hx
  have e2 := ones_2 x hx
  have e3 := ones_3 x hx
  have hp : popc (fun i => x.testBit i) 64 = sumB pcB 8 x := popc_bytes 8 x
  rw [hp]
  have hu := add_up (pcB (x % 256)) (pcB (x / 256 % 256)) (pcB (x / 256 / 256 % 256)) (pcB (x / 256 / 256 / 256 % 256)) (pcB (x / 256 / 256 / 256 / 256 % 256)) (pcB (x / 256 / 256 / 256 / 256 / 256 % 256)) (pcB (x / 256 / 256 / 256 / 256 / 256 / 256 % 256)) (pcB (x / 256 / 256 / 256 / 256 / 256 / 256 / 256 % 256))
    (mapB pcB 8 x) _ _ _ (pcB_le _) (pcB_le _) (pcB_le _) (pcB_le _) (pcB_le _) (pcB_le _) (pcB_le _) (pcB_le _) rfl rfl rfl rfl
  have hr : sumB pcB 8 x = (mapB pcB 8 x + mapB pcB 8 x / 256 + (mapB pcB 8 x + mapB pcB 8 x / 256) / 65536 + (mapB pcB 8 x + mapB pcB 8 x / 256 + (mapB pcB 8 x + mapB pcB 8 x / 256) / 65536) / 4294967296) % 128 := by rw [hu.2]; rfl
  have hb := hu.1
  clear hu hp
  generalize mapB (fun b => fours (pairs b)) 8 x = y2 at *
  generalize mapB pairs 8 x = y1 at *
  generalize mapB pcB 8 x = y3 at *
  generalize h4 : y3 + y3 / 256 = y4 at *
  generalize h5 : y4 + y4 / 65536 = y5 at *
  generalize h6 : y5 + y5 / 4294967296 = y6 at *
  have e4 : IntKind.u64.wrap ((y3 : Int) + (y3 : Int) / 256) = (y4 : Int) := ones_up y3 256 y4 h4.symm (by omega)
  have e5 : IntKind.u64.wrap ((y4 : Int) + (y4 : Int) / 65536) = (y5 : Int) := ones_up y4 65536 y5 h5.symm (by omega)
  have e6 : IntKind.u64.wrap ((y5 : Int) + (y5 : Int) / 4294967296) = (y6 : Int) := ones_up y5 4294967296 y6 h6.symm (by omega)
  have e7 := ones_last y6 _ hb hr.symm
  clear h4 h5 h6 hr hb
  generalize sumB pcB 8 x = r at *
  go_enter Try.func49, Try.ntmps49
  go_wp2
  go_ret
  exact ⟨rfl, rfl⟩

theorem count_nil (w : World) : Calls Try.prog 42 #[.pointer none] w fun e w' => e = .returned (.int .i64 ((cnt [] : Nat) : Int)) ∧ w' = w := by
  go_enter Try.func42, Try.ntmps42
  go_wp2_with (go_at_call 48; refine (row_nil _).mono ?_; rintro e w' ⟨rfl, rfl⟩)
  go_loop [4, 10] (fun s i => s = .int .i64 0 ∧ i = .int .i64 0) (fun _ _ => 0)
  case atStart => exact ⟨rfl, rfl⟩
  case round =>
    obtain ⟨rfl, rfl⟩ := hrel
    go_wp2
    go_ret
    exact ⟨rfl, rfl⟩
theorem count_mask (g : Nat) (A : Option Addr) (k c : Nat) (l : List Bool) (B : Nat) (w : World) (h : Mask w B g A k c l) :
    Calls Try.prog 42 #[.pointer (some ⟨g, 0, none⟩)] w fun e w' => e = .returned (.int .i64 ((cnt l : Nat) : Int)) ∧ w' = w := by
  have H := Lib.hid h
  have hs := h.small
  have hk := Lib.hid h.count
  have hkm : k ≤ 32768 := by rw [hk.out]; exact nw_le hs
  clear h
  go_enter Try.func42, Try.ntmps42
  go_wp2_with (go_at_call 48; refine (row_any _ _ _ _ l _ _ H.out).mono ?_; rintro e w' ⟨rfl, rfl⟩)
  go_loop [4, 10] (fun s i => ∃ x : Nat, x ≤ k ∧ i = .int .i64 x ∧ s = .int .i64 ((popc (fun i => l.getD i false) (64 * x) : Nat) : Int)) (fun _ i => k - (intOf i).toNat)
  case atStart => exact ⟨0, by omega, rfl, rfl⟩
  case round =>
    obtain ⟨x, hx, rfl, rfl⟩ := hrel
    by_cases hlt : x < k
    · obtain ⟨r, rfl, _, _, hc, _⟩ := H.out.at_ hlt
      have HS := Lib.hid (cnt_step l x)
      have HW := Lib.hid (word_lt l x)
      have hp1 := popc_le (fun i => l.getD i false) (64 * x)
      have hp2 := popc_le (fun i => (word l x).testBit i) 64
      generalize popc (fun i => l.getD i false) (64 * x) = s at *
      generalize hq : word l x = v at *
      clear hq
      generalize hq : popc (fun i => v.testBit i) 64 = q at *
      have HQ := Lib.hid hq
      clear hq
      go_wp2_with (go_at_call 49; refine (ones_any v HW.out _).mono ?_; rintro e w' ⟨rfl, rfl⟩; rw [HQ.out])
      go_round
      case rel => exact ⟨x + 1, by omega, by go_num, by rw [HS.out]; go_num⟩
      case measure => simp [intOf]; omega
    · obtain rfl : x = k := by omega
      go_wp2
      go_ret
      exact ⟨ret_int (congrArg (fun y : Nat => (y : Int)) (cnt_past l (64 * x) (by rw [hk.out]; unfold nw; omega))), rfl⟩
theorem count_any (p : Option Addr) (l : List Bool) (B : Nat) (w : World) (h : MaskP w B p l) :
    Calls Try.prog 42 #[.pointer p] w fun e w' => e = .returned (.int .i64 ((cnt l : Nat) : Int)) ∧ w' = w := by
  rcases h with ⟨rfl, rfl⟩ | ⟨g, A, k, c, rfl, h⟩
  · exact count_nil w
  · exact count_mask g A k c l B w h

end Go.Proofs.Ytabkgdichlebmaa
