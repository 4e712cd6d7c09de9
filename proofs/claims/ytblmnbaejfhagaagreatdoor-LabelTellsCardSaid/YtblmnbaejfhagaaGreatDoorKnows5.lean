/-
  Layer 5: the law package's knows.
-/
import Derived.Test.YtblmnbaejfhagaaGreatDoorSays5
namespace Go.Proofs.YtblmnbaejfhagaaGreatDoor
open Go.ChangeShapes Go.WideShapes Go.ChangeAt Go.RowKit
set_option linter.unusedVariables false

theorem own_two {w : World} {e : TypeId} : OwnL (w.alloc (.cells #[.int .u8 0, .int .i64 3, .string noS, .int .u8 1, .int .i64 0, .string ⟨#[97]⟩] e)) w.heap.size e (some ⟨w.heap.size, 0, none⟩) 2 2 knL :=
  ⟨rfl, World.ownsRow_lit w #[.int .u8 0, .int .i64 3, .string noS, .int .u8 1, .int .i64 0, .string ⟨#[97]⟩] _ (Nat.le_refl _) (by unfold maxLen; omega) rfl⟩
theorem kn_ok : ∀ i, i < 2 → okL (knL.getD i noLab) := by
  intro i hi
  match i, hi with
  | 0, _ => exact ⟨by decide, by decide, by decide, by decide, by decide⟩
  | 1, _ => exact ⟨by decide, by decide, by decide, by decide, by decide⟩
theorem kn_okT : okL ⟨2, 2, txt (encL knL)⟩ ∧ (txt (encL knL)).size ≤ 300 := by
  have h : (txt (encL knL)).size = 12 := by rw [txt_size]; rfl
  exact ⟨⟨by simp, by simp, by simp, by simp, by simp [h]⟩, by omega⟩
theorem kn_txt : txt knS = ⟨#[40, 51, 44, 39, 97, 39, 41]⟩ := rfl
theorem GaveTup.yes {k n : Int} {s : ByteArray} {w w' : World} {en : Ending} (h : GaveTup (some ⟨k, n, s⟩) w en w') : ToldG (.tuple #[.agg #[.int .u8 k, .int .i64 n, .string s], .bool true]) w en w' := h
theorem GaveTup.no {w w' : World} {en : Ending} (h : GaveTup none w en w') : ToldG (.tuple #[.agg #[.int .u8 0, .int .i64 0, .string ⟨#[]⟩], .bool false]) w en w' := h
theorem ToldG.lab {a : Lab} {w w' : World} {en : Ending} (h : ToldG (labO a) w en w') : ToldG (.agg #[.int .u8 a.k, .int .i64 a.n, .string a.s]) w en w' := h
set_option maxRecDepth 100000 in
set_option maxHeartbeats 2000000 in
theorem knows5_any (hI : IntSays) (hT : TextSays) (hU : TupleSays) (hR : ReadSays) (hS : ShowSays) (hP : PartsSays) (hC : CompareSays) (w : World) (hv : Vars w) : Calls Tryz.prog 5 #[] w (ToldG (.bool true) w) := by
  have HU := Lib.hid (fun A c w' h => hU A 2 c knL w' h (by omega) kn_ok)
  have HV := Lib.hid hv
  have HR := Lib.hid (fun w' hv => hR (txt knS) w' (by rw [txt_size]; simp [knS]) hv)
  rw [kn_tup] at HU
  rw [txt_data, kn_read] at HR
  have HS := Lib.hid (fun w' hv => hS _ w' kn_okT.1 kn_okT.2 hv)
  rw [kn_show] at HS
  have HP := Lib.hid (fun w' => hP _ w' kn_okT.1)
  rw [kn_parts] at HP
  have HC := Lib.hid (fun w' => hC ⟨0, 9, noS⟩ ⟨1, 0, noS⟩ w' ⟨by decide, by decide, by decide, by decide, by decide⟩ ⟨by decide, by decide, by decide, by decide, by decide⟩)
  rw [kn_cmp] at HC
  have HI3 := Lib.hid (fun w' => (hI 3 w' (by omega) (by omega)).mono fun _ _ h => h.lab)
  have HI9 := Lib.hid (fun w' => (hI 9 w' (by omega) (by omega)).mono fun _ _ h => h.lab)
  have HTA := Lib.hid (fun w' => (hT ⟨#[97]⟩ w' (by decide)).mono fun _ _ h => h.lab)
  have HTN := Lib.hid (fun w' => (hT noS w' (by decide)).mono fun _ _ h => h.lab)
  clear hI hT hU hR hS hP hC hv
  rw [kn_txt] at HR HS
  generalize txt (encL knL) = t at *
  have hq := eql_lab ⟨2, 2, t⟩ ⟨2, 2, t⟩
  rw [show eqlL ⟨2, 2, t⟩ ⟨2, 2, t⟩ = true from decide_eq_true rfl] at hq
  dsimp only at hq
  dsimp only at HI3 HI9 HTA HTN
  have HU2 := Lib.hid (fun A c w' h => (HU.out A c w' h).mono fun _ _ h => h.yes)
  have HR2 := Lib.hid (fun w' hv => (HR.out w' hv).mono fun _ _ h => h.yes)
  clear HU HR
  go_enter Tryz.func5, Tryz.ntmps5
  go_wp2_with fail
  refine (HI3.out _).mono ?_
  rintro e w1 ⟨rfl, hg⟩
  have HG1 := Lib.hid hg
  clear hg
  go_wp2_with fail
  refine (HTA.out _).mono ?_
  rintro e w2 ⟨rfl, hg⟩
  have HG2 := Lib.hid (grown_join HG1.out hg (.inr (by simp)))
  clear hg
  go_wp2_with fail
  refine (HU2.out _ 2 _ (own_two (w := w2) (e := 27)).labs).mono ?_
  rintro e w3 ⟨rfl, hg⟩
  have HG3 := Lib.hid (grown_join (grown_alloc HG2.out _) hg (.inr (by simp)))
  clear hg
  go_wp2_with fail
  refine (HR2.out _ (HV.out.grow (grown_alloc HG3.out _))).mono ?_
  rintro e w4 ⟨rfl, hg⟩
  have HB1 := Lib.hid ((Box.fresh w3 27 #[.int .u8 2, .int .i64 2, .string t]).grown hg (by simp))
  have HG4 := Lib.hid (grown_join (grown_alloc HG3.out _) hg (.inr (by simp)))
  clear hg
  obtain ⟨q0, q1, q2⟩ := cells3 (HB1.out.alloc (.cells #[.int .u8 2, .int .i64 2, .string t] 27))
  go_wp2_with fail
  refine (HS.out _ (HV.out.grow (grown_alloc HG4.out _))).mono ?_
  rintro e w5 ⟨rfl, hg⟩
  have HB2 := Lib.hid ((HB1.out.alloc (.cells #[.int .u8 2, .int .i64 2, .string t] 27)).grown hg (by simp))
  have HG5 := Lib.hid (grown_join (grown_alloc HG4.out _) hg (.inr (by simp)))
  clear hg q0 q1 q2
  obtain ⟨q0, q1, q2⟩ := cells3 HB2.out
  go_wp2_with fail
  refine (HP.out _).mono ?_
  rintro e w6 ⟨A, n, c, rfl, hpv, hg⟩
  have HG6 := Lib.hid (grown_join HG5.out hg (.inr (by simp)))
  obtain rfl : n = 2 := by
    rcases hpv with ⟨h, _⟩ | ⟨out, h, h2, _, _⟩
    · cases h
    · injection h with h; subst h; exact h2
  clear hg hpv q0 q1 q2
  go_wp2_with fail
  refine (HI9.out _).mono ?_
  rintro e w7 ⟨rfl, hg⟩
  have HG7 := Lib.hid (grown_join HG6.out hg (.inr (by simp)))
  clear hg
  go_wp2_with fail
  refine (HTN.out _).mono ?_
  rintro e w8 ⟨rfl, hg⟩
  have HG8 := Lib.hid (grown_join HG7.out hg (.inr (by simp)))
  clear hg
  go_wp2_with fail
  refine (HC.out _).mono ?_
  rintro e w9 ⟨rfl, hg⟩
  have HG9 := Lib.hid (grown_join HG8.out hg (.inr (by simp)))
  clear hg
  go_wp2_with fail
  go_ret
  exact ⟨rfl, HG9.out⟩
end Go.Proofs.YtblmnbaejfhagaaGreatDoor
