/-
  Layer 5: the program's pack: a part's bytes behind a row.
-/
import Derived.Test.YtblmnbaejfhagaaGreatDoorCmpP5
import Derived.Lib.AppendStr
namespace Go.Proofs.YtblmnbaejfhagaaGreatDoor
open Go.ChangeShapes Go.WideShapes Go.ChangeAt Go.RowKit
set_option linter.unusedVariables false

theorem byteV_append (a b : List UInt8) : byteV (a ++ b) = byteV a ++ byteV b := by simp [byteV]
/-- the row at A is the call's own, from block B on, and holds these bytes; below B nothing has turned. -/
def Packed (B : Nat) (l : List UInt8) (w : World) (e : Ending) (w' : World) : Prop := ∃ A c, e = .returned (.slice A l.length c) ∧ w'.ownsRow B 5 1 (.slice A l.length c) l.length (byteV l) ∧ Below B w w'
theorem own_bytes {w : World} {B n : Nat} {v : Value} {l : List UInt8} (h : w.ownsRow B 5 1 v n (byteV l)) : l.length = n := by
  have := h.1
  rw [byteV_length] at this
  omega
theorem box_past {w w1 : World} {g B n : Nat} {t : TypeId} {cs : Array Value} {v : Value} {xs : List Value} (hb : Box w g t cs) (ho : w.ownsRow B 5 1 v n xs) (hne : 5 ≠ t) (hg : w.grownBy w1 v.ownBlock) : Box w1 g t cs := hb.grown hg (Ne.symm (own_apart ho hb hne))
theorem below_past {w w1 : World} {B n : Nat} {v : Value} {xs : List Value} (ho : w.ownsRow B 5 1 v n xs) (hB : B ≤ w.heap.size) (hg : w.grownBy w1 v.ownBlock) : Below B w w1 := below_of_grown_row hg hB fun x hx => (ho.lt x hx).1
theorem below_alloc {w : World} {B : Nat} (hB : B ≤ w.heap.size) (o : Obj) : Below B w (w.alloc o) := below_of_grown_row (World.grownBy_alloc w o none) hB (by simp)
set_option maxRecDepth 100000 in
set_option maxHeartbeats 4000000 in
theorem ownPack_text (A : Option Addr) (n c B : Nat) (l : List UInt8) (nn : Int) (s : ByteArray) (w : World) (ho : w.ownsRow B 5 1 (.slice A n c) n (byteV l)) (hB : B ≤ w.heap.size) (hn : n ≤ 1048576) (hs : s.size ≤ 32) :
    Calls Tryz.prog 24 #[.slice A n c, .agg #[.int .u8 1, .int .i64 nn, .string s]] w (Packed B (l ++ encP ⟨1, nn, s⟩) w) := by
  have HL := Lib.hid (own_bytes ho)
  have HIN := Lib.hid (info_parts info_pu8)
  have HEQ := Lib.hid (show byteV (l ++ encP ⟨1, nn, s⟩) = byteV l ++ [.int .u8 1] ++ [.int .u8 (s.size : Int)] ++ Lib.strCells s from by
    have hm : (UInt8.ofNat s.size).toNat = s.size := by simp; omega
    rw [enc_text, byteV_append]
    simp [byteV, hm, Lib.strCells])
  have HLN := Lib.hid (show (l ++ encP ⟨1, nn, s⟩).length = n + 1 + 1 + s.size from by
    rw [enc_text, List.length_append, HL.out, List.length_cons, List.length_cons, data_size]; omega)
  obtain ⟨W, hW⟩ : ∃ W, W = w.alloc (.cells #[.int .u8 1, .int .i64 nn, .string s] 27) := ⟨_, rfl⟩
  have HW := Lib.hid hW
  have HBX := Lib.hid (show Box W w.heap.size 27 #[.int .u8 1, .int .i64 nn, .string s] by rw [hW]; exact Box.fresh w _ _)
  have HO := Lib.hid (show W.ownsRow B 5 1 (.slice A n c) n (byteV l) by rw [hW]; exact ho.alloc _)
  have HBL := Lib.hid (show Below B w W by rw [hW]; exact below_alloc hB _)
  have HSZ := Lib.hid (show B ≤ W.heap.size from Nat.le_trans hB HBL.out.size)
  clear hW ho hB
  go_enter Tryz.func24, Tryz.ntmps24
  go_upto_region 1 with fail
  rw [← HW.out]
  obtain ⟨q0, q1, q2⟩ := cells3 HBX.out
  go_upto_region 2 with (at_builtin; obtain ⟨i0, hi, hz0, hz1, hz2⟩ := HIN.out; refine wpList_append_own_at _ rfl (.tmp 6) (.tmp 9) _ rfl B 5 i0 _ 1 1 Tryz.underlying48 hi hz0 hz1 hz2 rfl (by omega) (.slice A n c) n _ rfl (HO.out.alloc _) ⟨_, 0, none⟩ 1 1 [.int .u8 1] rfl rfl (cell_one_new _ _ _) (by intro y hy; simp at hy; subst hy; rfl) (by simp only [maxLen]; omega) (by omega) (by have := HSZ.out; simp; omega) ?_; intro v1 w1 hown1 hg1 _ _; have HO1 := Lib.hid hown1; have HG1 := Lib.hid hg1; clear hown1 hg1 hi hz0 hz1 hz2)
  have HB1 := Lib.hid (box_past (HBX.out.alloc (.cells #[.int .u8 1] 5)) (HO.out.alloc _) (by decide) HG1.out)
  have HL1 := Lib.hid (HBL.out.trans ((below_alloc HSZ.out _).trans (below_past (HO.out.alloc _) (Nat.le_trans HSZ.out (by simp)) HG1.out)))
  have HS1 := Lib.hid (show B ≤ w1.heap.size from Nat.le_trans HSZ.out (Nat.le_trans (by simp) HG1.out.size))
  obtain ⟨A1, c1, hv1⟩ := own_slice3 HO1.out
  subst hv1
  clear q0 q1 q2
  obtain ⟨q0, q1, q2⟩ := cells3 HB1.out
  go_upto_region 3 with fail
  go_upto_region 4 with (at_builtin; obtain ⟨i0, hi, hz0, hz1, hz2⟩ := HIN.out; refine wpList_append_own_at _ rfl (.tmp 14) (.tmp 19) _ rfl B 5 i0 _ 1 1 Tryz.underlying48 hi hz0 hz1 hz2 rfl (by omega) (.slice A1 (n + 1) c1) (n + 1) _ rfl (HO1.out.alloc _) ⟨_, 0, none⟩ 1 1 [.int .u8 (s.size : Int)] rfl rfl (cell_one_new _ _ _) (by intro y hy; simp at hy; subst hy; rfl) (by simp only [maxLen]; omega) (by omega) (by have := HS1.out; simp; omega) ?_; intro v2 w2 hown2 hg2 _ _; have HO2 := Lib.hid hown2; have HG2 := Lib.hid hg2; clear hown2 hg2 hi hz0 hz1 hz2)
  have HB2 := Lib.hid (box_past (HB1.out.alloc (.cells #[.int .u8 (s.size : Int)] 5)) (HO1.out.alloc _) (by decide) HG2.out)
  have HL2 := Lib.hid (HL1.out.trans ((below_alloc HS1.out _).trans (below_past (HO1.out.alloc _) (Nat.le_trans HS1.out (by simp)) HG2.out)))
  have HS2 := Lib.hid (show B ≤ w2.heap.size from Nat.le_trans HS1.out (Nat.le_trans (by simp) HG2.out.size))
  obtain ⟨A2, c2, hv2⟩ := own_slice3 HO2.out
  subst hv2
  clear q0 q1 q2
  obtain ⟨q0, q1, q2⟩ := cells3 HB2.out
  go_wp2_with (at_builtin; obtain ⟨i0, hi, hz0, hz1, hz2⟩ := HIN.out; refine Lib.wpList_append_own_string _ rfl (.tmp 21) (.tmp 23) _ _ rfl B 5 i0 Tryz.underlying48 Tryz.underlying9 hi hz0 hz1 hz2 (.slice A2 (n + 1 + 1) c2) (n + 1 + 1) _ rfl HO2.out s rfl (by simp only [maxLen]; omega) (by omega) HS2.out ?_; intro v3 w3 hown3 hg3 _; have HO3 := Lib.hid hown3; have HG3 := Lib.hid hg3; clear hown3 hg3 hi hz0 hz1 hz2)
  obtain ⟨A3, c3, hv3⟩ := own_slice3 HO3.out
  subst hv3
  go_ret
  exact ⟨A3, c3, by rw [HLN.out]; rfl, by rw [HLN.out, HEQ.out]; exact HO3.out, HL2.out.trans (below_past HO2.out HS2.out HG3.out)⟩
theorem top_shift {u j : Nat} (h : j < 8) : ((u : Int) / 2 ^ (56 - 8 * j)) % 256 = ((UInt8.ofNat (u / 256 ^ (7 - j) % 256)).toNat : Int) := by
  rw [show 56 - 8 * j = 8 * (7 - j) by omega, show (u : Int) / 2 ^ (8 * (7 - j)) = ((u / 2 ^ (8 * (7 - j)) : Nat) : Int) by simp, Nat.pow_mul, show (2 : Nat) ^ 8 = 256 by decide]
  simp
set_option maxRecDepth 100000 in
set_option maxHeartbeats 4000000 in
theorem ownPack_int (A : Option Addr) (n c B : Nat) (l : List UInt8) (nn : Int) (w : World) (ho : w.ownsRow B 5 1 (.slice A n c) n (byteV l)) (hB : B ≤ w.heap.size) (hn : n ≤ 1048576) (h1 : -9223372036854775808 ≤ nn) (h2 : nn < 9223372036854775808) :
    Calls Tryz.prog 24 #[.slice A n c, .agg #[.int .u8 0, .int .i64 nn, .string noS]] w (Packed B (l ++ encP ⟨0, nn, noS⟩) w) := by
  have HL := Lib.hid (own_bytes ho)
  have HB0 := Lib.hid hB
  have HIN := Lib.hid (info_parts info_pu8)
  have hx := top_number h1 h2
  have hlt : (nn + 9223372036854775808).toNat < 18446744073709551616 := by omega
  have HE := Lib.hid (enc_int (n := nn) (s := noS))
  generalize (nn + 9223372036854775808).toNat = u at *
  rw [← topB_all] at HE
  obtain ⟨W, hW⟩ : ∃ W, W = w.alloc (.cells #[.int .u8 0, .int .i64 nn, .string noS] 27) := ⟨_, rfl⟩
  have HW := Lib.hid hW
  have HBX := Lib.hid (show Box W w.heap.size 27 #[.int .u8 0, .int .i64 nn, .string noS] by rw [hW]; exact Box.fresh w _ _)
  have HO := Lib.hid (show W.ownsRow B 5 1 (.slice A n c) n (byteV l) by rw [hW]; exact ho.alloc _)
  have HBL := Lib.hid (show Below B w W by rw [hW]; exact below_alloc hB _)
  have HSZ := Lib.hid (show B ≤ W.heap.size from Nat.le_trans hB HBL.out.size)
  clear hW ho hB
  go_enter Tryz.func24, Tryz.ntmps24
  go_upto_region 1 with fail
  rw [← HW.out]
  obtain ⟨q0, q1, q2⟩ := cells3 HBX.out
  go_upto_region 2 with (at_builtin; obtain ⟨i0, hi, hz0, hz1, hz2⟩ := HIN.out; refine wpList_append_own_at _ rfl (.tmp 6) (.tmp 9) _ rfl B 5 i0 _ 1 1 Tryz.underlying48 hi hz0 hz1 hz2 rfl (by omega) (.slice A n c) n _ rfl (HO.out.alloc _) ⟨_, 0, none⟩ 1 1 [.int .u8 0] rfl rfl (cell_one_new _ _ _) (by intro y hy; simp at hy; subst hy; rfl) (by simp only [maxLen]; omega) (by omega) (by have := HSZ.out; simp; omega) ?_; intro v1 w1 hown1 hg1 _ _; have HO1 := Lib.hid hown1; have HG1 := Lib.hid hg1; clear hown1 hg1 hi hz0 hz1 hz2)
  have HB1 := Lib.hid (box_past (HBX.out.alloc (.cells #[.int .u8 0] 5)) (HO.out.alloc _) (by decide) HG1.out)
  have HL1 := Lib.hid (HBL.out.trans ((below_alloc HSZ.out _).trans (below_past (HO.out.alloc _) (Nat.le_trans HSZ.out (by simp)) HG1.out)))
  have HS1 := Lib.hid (show B ≤ w1.heap.size from Nat.le_trans HSZ.out (Nat.le_trans (by simp) HG1.out.size))
  obtain ⟨A1, c1, hv1⟩ := own_slice3 HO1.out
  subst hv1
  clear q0 q1 q2
  obtain ⟨q0, q1, q2⟩ := cells3 HB1.out
  go_wp2_with fail
  go_loopw [0, 5] (fun v0 v5 wr => ∃ j : Nat, j ≤ 8 ∧ v5 = .int .i64 (56 - 8 * (j : Int)) ∧ wr.ownsRow B 5 1 v0 (n + (1 + j)) (byteV (l ++ 0 :: topB u j)) ∧ Box wr w.heap.size 27 #[.int .u8 0, .int .i64 nn, .string noS] ∧ Below B w wr) (fun _ v5 _ => ((intOf v5) + 8).toNat)
  case atStart => exact ⟨0, by omega, rfl, by rw [byteV_append]; exact HO1.out, HB1.out, HL1.out⟩
  case round =>
    obtain ⟨j, hj, rfl, ho, hb, hl⟩ := hrel
    have HOJ := Lib.hid ho
    have HBJ := Lib.hid hb
    have HLJ := Lib.hid hl
    have HSJ := Lib.hid (show B ≤ wr.heap.size from Nat.le_trans HB0.out hl.size)
    obtain ⟨A3, c3, hv3⟩ := own_slice3 ho
    subst hv3
    clear ho hb hl q0 q1 q2
    by_cases hj8 : j < 8
    · have HTS := Lib.hid (top_shift (u := u) hj8)
      obtain ⟨q0, q1, q2⟩ := cells3 HBJ.out
      have d1 : decide (8 * (j : Int) ≤ 56) = true := by simp; omega
      go_wp2_with (at_builtin; obtain ⟨i0, hi, hz0, hz1, hz2⟩ := HIN.out; refine wpList_append_own_at _ rfl (.tmp 29) (.tmp 37) _ rfl B 5 i0 _ 1 1 Tryz.underlying48 hi hz0 hz1 hz2 rfl (by omega) (.slice A3 (n + (1 + j)) c3) (n + (1 + j)) _ rfl (HOJ.out.alloc _) ⟨_, 0, none⟩ 1 1 [.int .u8 ((u : Int) / 2 ^ (56 - 8 * j) % 256)] rfl rfl (cell_one_new _ _ _) (by intro y hy; simp at hy; subst hy; rfl) (by simp only [maxLen]; omega) (by omega) (by have := HSJ.out; simp; omega) ?_; intro v4 w4 hown4 hg4 _ _; have HO4 := Lib.hid hown4; have HG4 := Lib.hid hg4; clear hown4 hg4 hi hz0 hz1 hz2)
      have HB4 := Lib.hid (box_past (HBJ.out.alloc (.cells #[.int .u8 ((u : Int) / 2 ^ (56 - 8 * j) % 256)] 5)) (HOJ.out.alloc _) (by decide) HG4.out)
      have HL4 := Lib.hid (HLJ.out.trans ((below_alloc HSJ.out _).trans (below_past (HOJ.out.alloc _) (Nat.le_trans HSJ.out (by simp)) HG4.out)))
      go_roundw
      case rel => exact ⟨j + 1, by omega, by go_num, by
        have h1 := HO4.out
        rw [HTS.out] at h1
        rw [show n + (1 + (j + 1)) = n + (1 + j) + 1 by omega, topB_succ, ← List.cons_append, ← List.append_assoc, byteV_snoc]
        exact h1, HB4.out, HL4.out⟩
      case measure => simp [intOf]; omega
    · obtain rfl : j = 8 := by omega
      have d1 : decide (8 * ((8 : Nat) : Int) ≤ 56) = false := by decide
      have HLN := Lib.hid (show (l ++ encP ⟨0, nn, noS⟩).length = n + (1 + 8) by rw [HE.out, List.length_append, HL.out, List.length_cons, topB_length])
      go_wp2_with fail
      go_ret
      exact ⟨A3, c3, by rw [HLN.out]; rfl, by rw [HLN.out, HE.out]; exact HOJ.out, HLJ.out⟩
theorem ownPack_any (A : Option Addr) (n c B : Nat) (l : List UInt8) (a : Lab) (w : World) (ho : w.ownsRow B 5 1 (.slice A n c) n (byteV l)) (hB : B ≤ w.heap.size) (hn : n ≤ 1048576) (h : plainL a) :
    Calls Tryz.prog 24 #[.slice A n c, .agg #[.int .u8 a.k, .int .i64 a.n, .string a.s]] w (Packed B (l ++ encP a) w) := by
  obtain ⟨k, nn, s⟩ := a
  rcases h with ⟨h1, h2, h3, h4⟩ | ⟨h1, h2, h3⟩
  · obtain rfl : k = 0 := h1
    obtain rfl : s = noS := h2
    exact ownPack_int A n c B l nn w ho hB hn h3 h4
  · obtain rfl : k = 1 := h1
    exact ownPack_text A n c B l nn s w ho hB hn h3
end Go.Proofs.YtblmnbaejfhagaaGreatDoor
