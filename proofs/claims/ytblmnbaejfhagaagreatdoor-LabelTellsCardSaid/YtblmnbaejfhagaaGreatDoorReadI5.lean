/-
  Layer 5: the program's readInt, readPart.
-/
import Derived.Test.YtblmnbaejfhagaaGreatDoorReadT5
namespace Go.Proofs.YtblmnbaejfhagaaGreatDoor
open Go.ChangeShapes Go.WideShapes Go.ChangeAt Go.RowKit
set_option linter.unusedVariables false

theorem txt_extract (s : ByteArray) : s.extract 0 (s.data.toList.takeWhile isNum).length = txt (s.data.toList.takeWhile isNum) := by
  rw [← txt_of (s.extract 0 _), Lib.extract_data]
  congr 1
  simp only [Nat.sub_zero, List.drop_zero]
  have h := List.takeWhile_append_dropWhile (p := isNum) (l := s.data.toList)
  generalize s.data.toList.takeWhile isNum = a at *
  rw [← h]
  simp
theorem takes_size (s : ByteArray) : s.size = (s.data.toList.takeWhile isNum).length + (txt (s.data.toList.dropWhile isNum)).size := by
  rw [txt_size, ← List.length_append, List.takeWhile_append_dropWhile, data_size]
theorem txt_inj {a b : List UInt8} (h : txt a = txt b) : a = b := by rw [← txt_data a, h, txt_data]
theorem txt_ne {a b : ByteArray} (h : a ≠ b) : (a.toList == b.toList) = false ∧ (a.toList != b.toList) = true ∧ ¬ a.toList = b.toList := by
  have h2 : ¬ a.toList = b.toList := fun e => h (toList_inj e)
  have h3 : (a.toList == b.toList) = false := by simp [h2]
  exact ⟨h3, by simp [bne, h3], h2⟩
set_option maxRecDepth 100000 in
set_option maxHeartbeats 4000000 in
theorem ownInt_read (s : ByteArray) (w : World) (hs : s.size ≤ 1048576) (hv : Vars w) : Calls Tryz.prog 37 #[.string s] w (ToldG (cutV (intP s.data.toList)) w) := by
  have HTR := Lib.hid (fun w' => libTrim_any s w')
  have HTX := Lib.hid (txt_extract s)
  have hsz := takes_size s
  have HIP := Lib.hid (show intP s.data.toList = match parseD (txt (s.data.toList.takeWhile isNum)).data.toList with
    | some v => if intL v = s.data.toList.takeWhile isNum then some (⟨0, v, noS⟩, s.data.toList.dropWhile isNum) else none
    | none => none by rw [txt_data]; rfl)
  have HTD := Lib.hid (txt_data (s.data.toList.dropWhile isNum))
  have HV := Lib.hid hv
  have HTS := Lib.hid (show (txt (s.data.toList.takeWhile isNum)).size ≤ 1048576 by rw [txt_size]; omega)
  have HTK := Lib.hid (txt_data (s.data.toList.takeWhile isNum))
  generalize s.data.toList.takeWhile isNum = a at *
  generalize hD : txt (s.data.toList.dropWhile isNum) = T at *
  generalize ha : a.length = k at *
  have HA := Lib.hid ha
  have e1 : (s.size : Int) - (T.size : Int) = (k : Int) := by omega
  have i1 : (k : Int) ≤ (s.size : Int) := by omega
  have i2 : k ≤ s.size := by omega
  obtain ⟨w1, hw1⟩ : ∃ w1, w1 = w.alloc (.cells #[.int .u8 0, .int .i64 0, .string noS] 27) := ⟨_, rfl⟩
  have HW1 := Lib.hid (show w1 = w.alloc (.cells #[.int .u8 0, .int .i64 0, .string ⟨#[]⟩] 27) from hw1)
  have HBX := Lib.hid (show Box w1 w.heap.size 27 #[.int .u8 0, .int .i64 0, .string noS] by rw [hw1]; exact Box.fresh w _ _)
  have HG1 := Lib.hid (show w.grownBy w1 none by rw [hw1]; exact World.grownBy_alloc w _ none)
  clear hw1 hsz ha hD hv
  go_enter Tryz.func37, Tryz.ntmps37
  go_wp2_with fail
  rw [← HW1.out]
  refine (HTR.out _).mono ?_
  rintro e w2 ⟨rfl, hg⟩
  have HG2 := Lib.hid (grown_join HG1.out hg (.inr (by simp)))
  have HB2 := Lib.hid (HBX.out.grown hg (by simp))
  clear hg
  go_upto_region 3 with fail
  rw [HTX.out]
  generalize hX : txt a = X at *
  have HPR := Lib.hid (libParse_any X w2 HTS.out (HV.out.grow HG2.out))
  go_wp2_with fail
  refine HPR.out.mono ?_
  rintro e w3 ⟨v, ev, rfl, hpv, hg⟩
  have HG3 := Lib.hid (grown_join HG2.out hg (.inr (by simp)))
  have HB3 := Lib.hid (HB2.out.grown hg (by simp))
  clear hg
  rcases hpv with ⟨hp, rfl⟩ | ⟨hp, t, p, rfl⟩
  · obtain ⟨v1, v2⟩ := parseD_range hp
    have HF := Lib.hid (libFormat_any v w3 v1 v2 (HV.out.grow HG3.out))
    rw [hp] at HIP
    clear hp
    by_cases heq : intL v = a
    · have HVV := Lib.hid (show cutV (intP s.data.toList) = .tuple #[.agg #[.int .u8 0, .int .i64 v, .string noS], .string T, .bool true] from cutV_some (by rw [HIP.out]; dsimp only; rw [if_pos heq, HTD.out]))
      have hx2 : txt (intL v) = X := by rw [heq, hX]
      rw [hx2] at HF
      clear heq hX hx2
      have HIN := Lib.hid (fun w' => (ownInt_any v w').mono fun e w2 h => (show e = .returned (.agg #[.int .u8 0, .int .i64 v, .string noS]) ∧ w'.grownBy w2 none from ⟨h.1, by rw [h.2]; exact World.grownBy_alloc w' _ none⟩))
      go_wp2_with fail
      refine HF.out.mono ?_
      rintro e w4 ⟨rfl, hg⟩
      have HG4 := Lib.hid (grown_join HG3.out hg (.inr (by simp)))
      have HB4 := Lib.hid (HB3.out.grown hg (by simp))
      clear hg
      go_wp2_with fail
      refine (HIN.out _).mono ?_
      rintro e w5 ⟨rfl, hg⟩
      have HG5 := Lib.hid (grown_join HG4.out hg (.inr (by simp)))
      obtain ⟨q0, q1, q2, f0, f1, f2, z0, z1, z2⟩ := (HB4.out.grown hg (by simp)).three (.int .u8 0) (.int .i64 v) (.string noS)
      clear hg
      go_wp2_with fail
      exact bodyPost_ret (v := .tuple #[.agg #[.int .u8 0, .int .i64 v, .string noS], .string T, .bool true]) (by simp [results, Tryz.results37, go_sem, z0, z1, z2]) rfl (cutG_eq HVV.out (grown_put (grown_put (grown_put HG5.out (.inr (Nat.le_refl _)) _) (.inr (Nat.le_refl _)) _) (.inr (Nat.le_refl _)) _))
    · have HVV := Lib.hid (cutV_none (o := intP s.data.toList) (by rw [HIP.out]; dsimp only; rw [if_neg heq]))
      obtain ⟨n1, n2, n3⟩ := txt_ne (a := txt (intL v)) (b := X) (fun e => heq (txt_inj (by rw [e, hX])))
      clear heq hX
      generalize txt (intL v) = Y at *
      go_wp2_with fail
      refine HF.out.mono ?_
      rintro e w4 ⟨rfl, hg⟩
      have HG4 := Lib.hid (grown_join HG3.out hg (.inr (by simp)))
      obtain ⟨q0, q1, q2, f0, f1, f2, z0, z1, z2⟩ := (HB3.out.grown hg (by simp)).three (.int .u8 0) (.int .i64 0) (.string ⟨#[]⟩)
      clear hg
      go_wp2_with fail
      exact bodyPost_ret (v := .tuple #[.agg #[.int .u8 0, .int .i64 0, .string ⟨#[]⟩], .string ⟨#[]⟩, .bool false]) (by simp [results, Tryz.results37, go_sem, z0, z1, z2]) rfl (cutG_eq HVV.out (grown_put (grown_put (grown_put HG4.out (.inr (Nat.le_refl _)) _) (.inr (Nat.le_refl _)) _) (.inr (Nat.le_refl _)) _))
  · rw [hp] at HIP
    have HVV := Lib.hid (cutV_none (o := intP s.data.toList) HIP.out)
    obtain ⟨q0, q1, q2, f0, f1, f2, z0, z1, z2⟩ := HB3.out.three (.int .u8 0) (.int .i64 0) (.string ⟨#[]⟩)
    clear hp hX
    go_wp2_with fail
    exact bodyPost_ret (v := .tuple #[.agg #[.int .u8 0, .int .i64 0, .string ⟨#[]⟩], .string ⟨#[]⟩, .bool false]) (by simp [results, Tryz.results37, go_sem, z0, z1, z2]) rfl (cutG_eq HVV.out (grown_put (grown_put (grown_put HG3.out (.inr (Nat.le_refl _)) _) (.inr (Nat.le_refl _)) _) (.inr (Nat.le_refl _)) _))
theorem cutV_form (o : Option (Lab × List UInt8)) : ∃ k n s r b, cutV o = .tuple #[.agg #[.int .u8 k, .int .i64 n, .string s], .string r, .bool b] := by
  cases o with
  | none => exact ⟨_, _, _, _, _, rfl⟩
  | some p => exact ⟨_, _, _, _, _, rfl⟩
theorem behind_size {c : UInt8} {s : ByteArray} {t : List UInt8} (h : behind c s.data.toList = some t) : (txt t).size + 1 = s.size := by
  have := behind_some h
  rw [txt_size, ← data_size, this]; rfl
set_option maxRecDepth 100000 in
set_option maxHeartbeats 4000000 in
theorem ownPart_read (s : ByteArray) (w : World) (hs : s.size ≤ 1048576) (hv : Vars w) : Calls Tryz.prog 30 #[.string s] w (ToldG (cutV (partP s.data.toList)) w) := by
  have HV := Lib.hid hv
  have HC := Lib.hid (fun w' => libCut_any 39 s w')
  have HPP := Lib.hid (show partP s.data.toList = match behind 39 s.data.toList with | some t => textP t | none => intP s.data.toList from rfl)
  obtain ⟨w1, hw1⟩ : ∃ w1, w1 = w.alloc (.cells #[.int .u8 0, .int .i64 0, .string noS] 27) := ⟨_, rfl⟩
  have HW1 := Lib.hid (show w1 = w.alloc (.cells #[.int .u8 0, .int .i64 0, .string ⟨#[]⟩] 27) from hw1)
  have HBX := Lib.hid (show Box w1 w.heap.size 27 #[.int .u8 0, .int .i64 0, .string noS] by rw [hw1]; exact Box.fresh w _ _)
  have HG1 := Lib.hid (show w.grownBy w1 none by rw [hw1]; exact World.grownBy_alloc w _ none)
  clear hw1 hv
  cases hb : behind 39 s.data.toList with
  | some t =>
    have HTR := Lib.hid (fun w' => ownText_read (txt t) w' (by have := behind_size hb; omega))
    rw [txt_data] at HTR
    rw [hb] at HPP HC
    dsimp only at HPP HC
    rw [← HPP.out] at HTR
    obtain ⟨k, n, s', r, b, hcv⟩ := cutV_form (partP s.data.toList)
    have HCV := Lib.hid hcv
    rw [hcv] at HTR
    clear hb hcv
    have HC2 := Lib.hid (fun w' => show Calls Tryz.prog 28 #[.string s, .string ⟨#[39]⟩] w' (fun e w2 => e = .returned (.tuple #[.string (txt t), .bool true]) ∧ w2 = w') from HC.out w')
    generalize txt t = T at *
    clear HC
    go_enter Tryz.func30, Tryz.ntmps30
    go_wp2_with fail
    rw [← HW1.out]
    refine (HC2.out _).mono ?_
    rintro e w2 ⟨rfl, rfl⟩
    go_wp2_with fail
    refine (HTR.out _).mono ?_
    rintro e w3 ⟨rfl, hg⟩
    have HG3 := Lib.hid (grown_join HG1.out hg (.inr (by simp)))
    obtain ⟨q0, q1, q2, f0, f1, f2, z0, z1, z2⟩ := (HBX.out.grown hg (by simp)).three (.int .u8 k) (.int .i64 n) (.string s')
    clear hg
    go_wp2_with fail
    exact bodyPost_ret (v := .tuple #[.agg #[.int .u8 k, .int .i64 n, .string s'], .string r, .bool b]) (by simp [results, Tryz.results30, go_sem, z0, z1, z2]) rfl (cutG_eq HCV.out (grown_put (grown_put (grown_put HG3.out (.inr (Nat.le_refl _)) _) (.inr (Nat.le_refl _)) _) (.inr (Nat.le_refl _)) _))
  | none =>
    have HTR := Lib.hid (fun w' h => ownInt_read s w' hs h)
    rw [hb] at HPP HC
    dsimp only at HPP HC
    rw [← HPP.out] at HTR
    obtain ⟨k, n, s', r, b, hcv⟩ := cutV_form (partP s.data.toList)
    have HCV := Lib.hid hcv
    rw [hcv] at HTR
    clear hb hcv
    have HC2 := Lib.hid (fun w' => show Calls Tryz.prog 28 #[.string s, .string ⟨#[39]⟩] w' (fun e w2 => e = .returned (.tuple #[.string s, .bool false]) ∧ w2 = w') from HC.out w')
    clear HC
    go_enter Tryz.func30, Tryz.ntmps30
    go_wp2_with fail
    rw [← HW1.out]
    refine (HC2.out _).mono ?_
    rintro e w2 ⟨rfl, rfl⟩
    go_wp2_with fail
    refine (HTR.out _ (HV.out.grow HG1.out)).mono ?_
    rintro e w3 ⟨rfl, hg⟩
    have HG3 := Lib.hid (grown_join HG1.out hg (.inr (by simp)))
    obtain ⟨q0, q1, q2, f0, f1, f2, z0, z1, z2⟩ := (HBX.out.grown hg (by simp)).three (.int .u8 k) (.int .i64 n) (.string s')
    clear hg
    go_wp2_with fail
    exact bodyPost_ret (v := .tuple #[.agg #[.int .u8 k, .int .i64 n, .string s'], .string r, .bool b]) (by simp [results, Tryz.results30, go_sem, z0, z1, z2]) rfl (cutG_eq HCV.out (grown_put (grown_put (grown_put HG3.out (.inr (Nat.le_refl _)) _) (.inr (Nat.le_refl _)) _) (.inr (Nat.le_refl _)) _))
end Go.Proofs.YtblmnbaejfhagaaGreatDoor
