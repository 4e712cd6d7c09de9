/-
  Layer 5: the program's readText.
-/
import Derived.Test.YtblmnbaejfhagaaGreatDoorReadO5
namespace Go.Proofs.YtblmnbaejfhagaaGreatDoor
open Go.ChangeShapes Go.WideShapes Go.ChangeAt Go.RowKit
set_option linter.unusedVariables false

theorem nil_text (w : World) : (convert 48 9 (.slice none 0 0)).run Tryz.prog w = .ok (.string ⟨#[]⟩) w := by
  kernel_rfl
set_option maxRecDepth 100000 in
theorem own_text_any {w : World} {B n c : Nat} {A : Option Addr} {l : List UInt8} (h : w.ownsRow B 5 1 (.slice A n c) n (byteV l)) : (convert 48 9 (.slice A n c)).run Tryz.prog w = .ok (.string (txt l)) w := by
  have hl := own_bytes h
  rcases h.2 with ⟨hv, hn⟩ | ⟨k, cap, cur, hv, _⟩
  · injection hv with e1 e2 e3
    subst e1 e2 e3
    obtain rfl := List.eq_nil_of_length_eq_zero hl
    exact nil_text w
  · injection hv with e1 e2 e3
    subst e1
    exact own_text hl h
theorem head_of {r : ByteArray} (h : 0 < r.size) (hn : (r[0]'h).toNat ≠ 39) : r.data.toList ≠ [] ∧ r.data.toList.head? ≠ some 39 := by
  rw [data_cons h]
  refine ⟨List.cons_ne_nil _ _, fun e => ?_⟩
  injection e with e
  exact hn (by rw [e]; rfl)
set_option maxRecDepth 100000 in
set_option maxHeartbeats 4000000 in
theorem ownText_read (s : ByteArray) (w : World) (hs : s.size ≤ 1048576) : Calls Tryz.prog 36 #[.string s] w (ToldG (cutV (textP s.data.toList)) w) := by
  have HIN := Lib.hid (info_parts info_pu8)
  obtain ⟨w1, hw1⟩ : ∃ w1, w1 = w.alloc (.cells #[.int .u8 0, .int .i64 0, .string noS] 27) := ⟨_, rfl⟩
  have HW1 := Lib.hid (show w1 = w.alloc (.cells #[.int .u8 0, .int .i64 0, .string ⟨#[]⟩] 27) from hw1)
  have HBX := Lib.hid (show Box w1 w.heap.size 27 #[.int .u8 0, .int .i64 0, .string noS] by rw [hw1]; exact Box.fresh w _ _)
  have HG0 := Lib.hid (show w.grownBy w1 none by rw [hw1]; exact World.grownBy_alloc w _ none)
  have HS1 := Lib.hid (show w1.heap.size = w.heap.size + 1 by rw [hw1]; simp)
  clear hw1
  go_enter Tryz.func36, Tryz.ntmps36
  go_wp2_with fail
  rw [← HW1.out]
  go_loopw [0, 5] (fun v0 v5 wr => ∃ (r : ByteArray) (l : List UInt8), v0 = .string r ∧ r.size ≤ 1048576 ∧ wr.ownsRow w1.heap.size 5 1 v5 l.length (byteV l) ∧ Reads s.data.toList l r.data.toList ∧ Below w1.heap.size w1 wr) (fun v0 _ _ => strOf v0)
  case atStart => exact ⟨s, [], rfl, hs, World.ownsRow_nil _ _ _ _, Reads.start _, Below.refl _ _⟩
  case round =>
    obtain ⟨r, l, rfl, hr, ho, hrd, hb⟩ := hrel
    have HO := Lib.hid ho
    have HRD := Lib.hid hrd
    have HB := Lib.hid hb
    have HGW := Lib.hid (grown_below HG0.out hb)
    have HBW := Lib.hid (HBX.out.below hb (by rw [HS1.out]; omega))
    obtain ⟨A5, c5, hv5⟩ := own_slice3 ho
    subst hv5
    have hl32 := hrd.1
    generalize hm : l.length = m at *
    have HM := Lib.hid hm
    clear ho hrd hb hm
    by_cases he : r.data.toList = []
    · obtain ⟨d1, d2, d3⟩ := str_empty he
      have HV := Lib.hid (cutV_none (o := textP s.data.toList) (by have h := HRD.out; rw [he] at h; exact h.out))
      clear he
      obtain ⟨q0, q1, q2, f0, f1, f2, z0, z1, z2⟩ := HBW.out.three (.int .u8 0) (.int .i64 0) (.string ⟨#[]⟩)
      go_wp2_with fail
      exact bodyPost_ret (v := .tuple #[.agg #[.int .u8 0, .int .i64 0, .string ⟨#[]⟩], .string ⟨#[]⟩, .bool false]) (by simp [results, Tryz.results36, go_sem, z0, z1, z2]) rfl (cutG_eq HV.out (grown_put (grown_put (grown_put HGW.out (.inr (Nat.le_refl _)) _) (.inr (Nat.le_refl _)) _) (.inr (Nat.le_refl _)) _))
    · obtain ⟨d1, d2, d3⟩ := str_full he
      clear he
      by_cases h39 : (r[0]'d3).toNat = 39
      · have HV := Lib.hid (show cutV (textP s.data.toList) = .tuple #[.agg #[.int .u8 1, .int .i64 0, .string (txt l)], .string (r.extract 1 r.size), .bool true] from cutV_some (by
          have h := HRD.out
          rw [data_cons d3, UInt8.toNat_inj.1 (show (r[0]'d3).toNat = (39 : UInt8).toNat from h39)] at h
          rw [Lib.extract_to_end]
          exact h.done))
        have hcv := own_text_any HO.out
        have hcv2 := own_text_any (show wr.drew.ownsRow w1.heap.size 5 1 (.slice A5 m c5) m (byteV l) from HO.out)
        have HTX := Lib.hid (fun w' => (ownText_any (txt l) w').mono fun e w2 h => (show e = .returned (.agg #[.int .u8 1, .int .i64 0, .string (txt l)]) ∧ w'.grownBy w2 none from ⟨h.1, by rw [h.2]; exact World.grownBy_alloc w' _ none⟩))
        generalize txt l = t at *
        have hr1 : 1 ≤ r.size := d3
        go_upto_region 9 with fail
        go_region_with (go_at_call 20; refine (HTX.out _).mono ?_; rintro e w2 ⟨rfl, hg⟩; have HG2 := Lib.hid (grown_join (grown_drew HGW.out) hg (.inr (by simp))); obtain ⟨q0, q1, q2, f0, f1, f2, z0, z1, z2⟩ := ((show Box wr.drew w.heap.size 27 #[.int .u8 0, .int .i64 0, .string noS] from HBW.out).grown hg (by simp)).three (.int .u8 1) (.int .i64 0) (.string t); clear hg)
        all_goals go_wp2
        all_goals exact bodyPost_ret (v := .tuple #[.agg #[.int .u8 1, .int .i64 0, .string t], .string (r.extract 1 r.size), .bool true]) (by simp [results, Tryz.results36, go_sem, z0, z1, z2]) rfl (cutG_eq HV.out (grown_put (grown_put (grown_put HG2.out (.inr (Nat.le_refl _)) _) (.inr (Nat.le_refl _)) _) (.inr (Nat.le_refl _)) _))
      · have HHD := Lib.hid (head_of d3 h39)
        have HBY := Lib.hid (fun w' => ownByte_any r w' d3)
        cases hby : byteE r.data.toList with
        | none =>
          have HV := Lib.hid (cutV_none (o := textP s.data.toList) (HRD.out.bad HHD.out.1 HHD.out.2 hby))
          rw [hby] at HBY
          clear hby
          have HBN := Lib.hid (fun w' => show Calls Tryz.prog 48 #[.string r] w' (ToldG (.tuple #[.int .u8 0, .string ⟨#[]⟩, .bool false]) w') from HBY.out w')
          clear HBY
          go_wp2_with fail
          refine (HBN.out _).mono ?_
          rintro e w2 ⟨rfl, hg⟩
          have HG2 := Lib.hid (grown_join HGW.out hg (.inr (by simp)))
          obtain ⟨q0, q1, q2, f0, f1, f2, z0, z1, z2⟩ := (HBW.out.grown hg (by simp)).three (.int .u8 0) (.int .i64 0) (.string ⟨#[]⟩)
          clear hg
          go_wp2_with fail
          exact bodyPost_ret (v := .tuple #[.agg #[.int .u8 0, .int .i64 0, .string ⟨#[]⟩], .string ⟨#[]⟩, .bool false]) (by simp [results, Tryz.results36, go_sem, z0, z1, z2]) rfl (cutG_eq HV.out (grown_put (grown_put (grown_put HG2.out (.inr (Nat.le_refl _)) _) (.inr (Nat.le_refl _)) _) (.inr (Nat.le_refl _)) _))
        | some p =>
          obtain ⟨c, q⟩ := p
          rw [hby] at HBY
          have HBN := Lib.hid (fun w' => show Calls Tryz.prog 48 #[.string r] w' (ToldG (.tuple #[.int .u8 (c.toNat : Int), .string (txt q), .bool true]) w') from HBY.out w')
          have HZ := Lib.hid (show (txt q).size < r.size by rw [txt_size, ← data_size]; exact byte_less hby)
          clear HBY
          by_cases h32 : m = 32
          · have HV := Lib.hid (cutV_none (o := textP s.data.toList) (HRD.out.long HHD.out.1 HHD.out.2 hby (by rw [HM.out]; exact h32)))
            have e32 : ((m : Int) == 32) = true := by simp; omega
            clear hby
            generalize txt q = t at *
            go_wp2_with fail
            refine (HBN.out _).mono ?_
            rintro e w2 ⟨rfl, hg⟩
            have HG2 := Lib.hid (grown_join HGW.out hg (.inr (by simp)))
            obtain ⟨q0, q1, q2, f0, f1, f2, z0, z1, z2⟩ := (HBW.out.grown hg (by simp)).three (.int .u8 0) (.int .i64 0) (.string ⟨#[]⟩)
            clear hg
            go_wp2_with fail
            exact bodyPost_ret (v := .tuple #[.agg #[.int .u8 0, .int .i64 0, .string ⟨#[]⟩], .string ⟨#[]⟩, .bool false]) (by simp [results, Tryz.results36, go_sem, z0, z1, z2]) rfl (cutG_eq HV.out (grown_put (grown_put (grown_put HG2.out (.inr (Nat.le_refl _)) _) (.inr (Nat.le_refl _)) _) (.inr (Nat.le_refl _)) _))
          · have HNX := Lib.hid (HRD.out.next HHD.out.1 HHD.out.2 hby (by rw [HM.out]; exact h32))
            have e32 : ((m : Int) == 32) = false := by simp; omega
            have HTD := Lib.hid (txt_data q)
            clear hby h32
            generalize txt q = t at *
            go_wp2_with fail
            refine (HBN.out _).mono ?_
            rintro e w2 ⟨rfl, hg⟩
            have HO2 := Lib.hid (own_grow HO.out hg)
            have HB2 := Lib.hid (HB.out.trans ((below_of_grown hg).mono HB.out.size))
            have hsz2 := HB2.out.size
            clear hg
            go_wp2_with (at_builtin; obtain ⟨i0, hi, hz0, hz1, hz2⟩ := HIN.out; refine wpList_append_own_at _ rfl (.tmp 30) (.tmp 32) _ rfl w1.heap.size 5 i0 _ 1 1 Tryz.underlying48 hi hz0 hz1 hz2 rfl (by omega) (.slice A5 m c5) m _ rfl (HO2.out.alloc _) ⟨_, 0, none⟩ 1 1 [.int .u8 (c.toNat : Int)] rfl rfl (cell_one_new _ _ _) (by intro y hy; simp at hy; subst hy; rfl) (by simp only [maxLen]; omega) (by omega) (by simp; omega) ?_; intro v4 w4 hown4 hg4 _ _; have HO4 := Lib.hid hown4; have HG4 := Lib.hid hg4; clear hown4 hg4 hi hz0 hz1 hz2)
            go_roundw
            case rel => exact ⟨t, l ++ [c], rfl, by have := HZ.out; omega, by rw [List.length_append, HM.out, byteV_snoc]; exact HO4.out, by rw [HTD.out]; exact HNX.out, HB2.out.trans ((below_alloc HB2.out.size _).trans (below_past (HO2.out.alloc _) (Nat.le_trans HB2.out.size (by simp)) HG4.out))⟩
            case measure => simp [strOf]; have := HZ.out; omega
end Go.Proofs.YtblmnbaejfhagaaGreatDoor
