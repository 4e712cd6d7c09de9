/-
  Layer 5: the program's readByte, readText, readInt, readPart.
-/
import Derived.Test.YtblmnbaejfhagaaGreatDoorReadP5
namespace Go.Proofs.YtblmnbaejfhagaaGreatDoor
open Go.ChangeShapes Go.WideShapes Go.ChangeAt Go.RowKit
set_option linter.unusedVariables false

/-! ### a byte -/
def byteO (o : Option (UInt8 × List UInt8)) : Value := match o with
  | some (c, r) => .tuple #[.int .u8 (c.toNat : Int), .string (txt r), .bool true]
  | none => .tuple #[.int .u8 0, .string noS, .bool false]
theorem byteO_none {o : Option (UInt8 × List UInt8)} (h : o = none) : byteO o = .tuple #[.int .u8 0, .string ⟨#[]⟩, .bool false] := by subst h; rfl
theorem byteO_some {o : Option (UInt8 × List UInt8)} {c : UInt8} {r : ByteArray} (h : o = some (c, r.data.toList)) : byteO o = .tuple #[.int .u8 (c.toNat : Int), .string r, .bool true] := by
  subst h
  show Value.tuple #[.int .u8 (c.toNat : Int), .string (txt r.data.toList), .bool true] = _
  rw [txt_of]
theorem grown_drawn (w : World) (n : Nat) : w.grownBy (w.drewN n) none := grown_drewN (grown_refl w none) n
set_option maxRecDepth 100000 in
set_option maxHeartbeats 4000000 in
theorem ownByte_any (s : ByteArray) (w : World) (h0 : 0 < s.size) : Calls Tryz.prog 48 #[.string s] w (ToldG (byteO (byteE s.data.toList)) w) := by
  have hcons := data_cons h0
  by_cases h10 : (s[0]'h0).toNat = 10
  · have hb : s[0]'h0 = 10 := UInt8.toNat_inj.1 h10
    have HV := Lib.hid (byteO_none (o := byteE s.data.toList) (by rw [hcons, hb]; rfl))
    clear hcons hb
    go_enter Tryz.func48, Tryz.ntmps48
    go_wp2_with fail
    exact bodyPost_ret (v := .tuple #[.int .u8 0, .string ⟨#[]⟩, .bool false]) (by simp [results, Tryz.results48, go_sem]) rfl (toldG_eq (by first | exact HV.out.symm | (rw [HV.out]; rfl)) (grown_refl _ _))
  · have hb : s[0]'h0 ≠ 10 := fun e => h10 (by rw [e]; rfl)
    by_cases h92 : (s[0]'h0).toNat = 92
    · have hb2 : s[0]'h0 = 92 := UInt8.toNat_inj.1 h92
      by_cases h2 : 2 ≤ s.size
      · have hs1 : 1 < s.size := by omega
        have d2 : decide ((s.size : Int) < 2) = false := by simp; omega
        have HC2 := Lib.hid (data_cons2 (r := s) hs1)
        have HR : Hid (s.data.toList.drop 2 = (s.extract 2 s.size).data.toList) := Lib.hid (by rw [Lib.extract_to_end])
        have HU := Lib.hid (show byteE s.data.toList = if s[1]'hs1 = 92 ∨ s[1]'hs1 = 39 then some (s[1]'hs1, (s.extract 2 s.size).data.toList) else if s[1]'hs1 = 110 then some (10, (s.extract 2 s.size).data.toList) else none by
          rw [HC2.out, hb2, ← HR.out]
          rfl)
        by_cases c92 : (s[1]'hs1).toNat = 92
        · have e1 : s[1]'hs1 = 92 := UInt8.toNat_inj.1 c92
          have HV := Lib.hid (byteO_some (o := byteE s.data.toList) (c := 92) (r := s.extract 2 s.size) (by rw [HU.out, if_pos (.inl e1), e1]))
          clear hcons hb hb2 HC2 HR HU e1
          go_enter Tryz.func48, Tryz.ntmps48
          go_upto_region 10 with fail
          go_quiet (fail)
          go_wp2_with fail
          exact bodyPost_ret (v := .tuple #[.int .u8 92, .string (s.extract 2 s.size), .bool true]) (by simp [results, Tryz.results48, go_sem]) rfl (toldG_eq (by first | exact HV.out.symm | (rw [HV.out]; rfl)) (grown_drawn _ _))
        · by_cases c39 : (s[1]'hs1).toNat = 39
          · have e1 : s[1]'hs1 = 39 := UInt8.toNat_inj.1 c39
            have HV := Lib.hid (byteO_some (o := byteE s.data.toList) (c := 39) (r := s.extract 2 s.size) (by rw [HU.out, if_pos (.inr e1), e1]))
            clear hcons hb hb2 HC2 HR HU e1
            go_enter Tryz.func48, Tryz.ntmps48
            go_upto_region 10 with fail
            go_quiet (fail)
            go_wp2_with fail
            exact bodyPost_ret (v := .tuple #[.int .u8 39, .string (s.extract 2 s.size), .bool true]) (by simp [results, Tryz.results48, go_sem]) rfl (toldG_eq (by first | exact HV.out.symm | (rw [HV.out]; rfl)) (grown_drawn _ _))
          · have hn : ¬ (s[1]'hs1 = 92 ∨ s[1]'hs1 = 39) := by rintro (e | e); exact c92 (by rw [e]; rfl); exact c39 (by rw [e]; rfl)
            by_cases c110 : (s[1]'hs1).toNat = 110
            · have e1 : s[1]'hs1 = 110 := UInt8.toNat_inj.1 c110
              have HV := Lib.hid (byteO_some (o := byteE s.data.toList) (c := 10) (r := s.extract 2 s.size) (by rw [HU.out, if_neg hn, if_pos e1]))
              clear hcons hb hb2 HC2 HR HU e1 hn
              go_enter Tryz.func48, Tryz.ntmps48
              go_upto_region 12 with fail
              go_quiet (fail)
              go_wp2_with fail
              exact bodyPost_ret (v := .tuple #[.int .u8 10, .string (s.extract 2 s.size), .bool true]) (by simp [results, Tryz.results48, go_sem]) rfl (toldG_eq (by first | exact HV.out.symm | (rw [HV.out]; rfl)) (grown_drawn _ _))
            · have HV := Lib.hid (byteO_none (o := byteE s.data.toList) (by rw [HU.out, if_neg hn, if_neg (fun e => c110 (by rw [e]; rfl))]))
              clear hcons hb hb2 HC2 HR HU hn
              go_enter Tryz.func48, Tryz.ntmps48
              go_wp2_with fail
              exact bodyPost_ret (v := .tuple #[.int .u8 0, .string ⟨#[]⟩, .bool false]) (by simp [results, Tryz.results48, go_sem]) rfl (toldG_eq (by first | exact HV.out.symm | (rw [HV.out]; rfl)) (grown_refl _ _))
      · have d2 : decide ((s.size : Int) < 2) = true := by simp; omega
        have hd : s.data.toList.drop 1 = [] := List.eq_nil_of_length_eq_zero (by rw [List.length_drop, data_size]; omega)
        have HV := Lib.hid (byteO_none (o := byteE s.data.toList) (by rw [hcons, hb2, hd]; rfl))
        clear hcons hb hb2 hd
        go_enter Tryz.func48, Tryz.ntmps48
        go_wp2_with fail
        exact bodyPost_ret (v := .tuple #[.int .u8 0, .string ⟨#[]⟩, .bool false]) (by simp [results, Tryz.results48, go_sem]) rfl (toldG_eq (by first | exact HV.out.symm | (rw [HV.out]; rfl)) (grown_refl _ _))
    · have HV := Lib.hid (byteO_some (o := byteE s.data.toList) (c := s[0]'h0) (r := s.extract 1 s.size) (by
        rw [Lib.extract_to_end]
        have e1 : byteE s.data.toList = byteE (s[0]'h0 :: s.data.toList.drop 1) := by rw [← hcons]
        rw [e1]
        show (if s[0]'h0 = 10 then none else if s[0]'h0 ≠ 92 then some (s[0]'h0, s.data.toList.drop 1) else _) = _
        rw [if_neg hb, if_pos (fun e => h92 (by rw [e]; rfl))]))
      clear hcons hb
      go_enter Tryz.func48, Tryz.ntmps48
      go_upto_region 4 with fail
      go_quiet (fail)
      go_wp2_with fail
      exact bodyPost_ret (v := .tuple #[.int .u8 ((s[0]'h0).toNat : Int), .string (s.extract 1 s.size), .bool true]) (by simp [results, Tryz.results48, go_sem]) rfl (toldG_eq (by first | exact HV.out.symm | (rw [HV.out]; rfl)) (grown_drawn _ _))
end Go.Proofs.YtblmnbaejfhagaaGreatDoor
