/-
  Layer 5: the program's Read; what is asked of the program's label, given.
-/
import Derived.Test.YtblmnbaejfhagaaGreatDoorReadR5
namespace Go.Proofs.YtblmnbaejfhagaaGreatDoor
open Go.ChangeShapes Go.WideShapes Go.ChangeAt Go.RowKit
set_option linter.unusedVariables false

set_option maxRecDepth 100000 in
set_option maxHeartbeats 4000000 in
theorem ownRead_any (s : ByteArray) (w : World) (hs : s.size ≤ 1048576) (hv : Vars w) : Calls Tryz.prog 21 #[.string s] w (GaveTup (readE s.data.toList) w) := by
  have HV := Lib.hid hv
  have HC := Lib.hid (fun w' => libCut_any 40 s w')
  have HRE := Lib.hid (show readE s.data.toList = match behind 40 s.data.toList with
    | some t => tupRead t
    | none => match partP s.data.toList with
      | some p => if p.2 = [] then some p.1 else none
      | none => none from (readP_same _).symm)
  obtain ⟨w1, hw1⟩ : ∃ w1, w1 = w.alloc (.cells #[.int .u8 0, .int .i64 0, .string noS] 27) := ⟨_, rfl⟩
  have HW1 := Lib.hid (show w1 = w.alloc (.cells #[.int .u8 0, .int .i64 0, .string ⟨#[]⟩] 27) from hw1)
  have HBX := Lib.hid (show Box w1 w.heap.size 27 #[.int .u8 0, .int .i64 0, .string noS] by rw [hw1]; exact Box.fresh w _ _)
  have HG1 := Lib.hid (show w.grownBy w1 none by rw [hw1]; exact World.grownBy_alloc w _ none)
  clear hw1 hv
  cases hb : behind 40 s.data.toList with
  | some t =>
    have HTR := Lib.hid (ownTuple_read (txt t) w1 (by have := behind_size hb; omega) (HV.out.grow HG1.out))
    rw [txt_data] at HTR
    rw [hb] at HRE HC
    dsimp only at HRE HC
    rw [← HRE.out] at HTR
    have HC2 := Lib.hid (fun w' => show Calls Tryz.prog 28 #[.string s, .string ⟨#[40]⟩] w' (fun e w2 => e = .returned (.tuple #[.string (txt t), .bool true]) ∧ w2 = w') from HC.out w')
    clear HC hb
    generalize txt t = T at *
    go_enter Tryz.func21, Tryz.ntmps21
    go_wp2_with fail
    rw [← HW1.out]
    refine (HC2.out _).mono ?_
    rintro e w2 ⟨rfl, rfl⟩
    go_wp2_with fail
    refine HTR.out.mono ?_
    intro e w5 hgt
    obtain ⟨⟨yk, yn, ys⟩, ok, ⟨rfl, hg⟩, hy, hok⟩ : ∃ y : Lab, ∃ ok : Bool, ToldG (.tuple #[.agg #[.int .u8 y.k, .int .i64 y.n, .string y.s], .bool ok]) w2 e w5 ∧ (readE s.data.toList).getD noLab = y ∧ (readE s.data.toList).isSome = ok := ⟨_, _, hgt, rfl, rfl⟩
    have HG5 := Lib.hid (grown_join HG1.out hg (.inr (by simp)))
    have HYO := Lib.hid (And.intro hy hok)
    obtain ⟨q0, q1, q2, f0, f1, f2, z0, z1, z2⟩ := (HBX.out.grown hg (by simp)).three (.int .u8 yk) (.int .i64 yn) (.string ys)
    clear hg hgt hy hok
    dsimp only
    go_wp2_with fail
    exact bodyPost_ret (v := .tuple #[.agg #[.int .u8 yk, .int .i64 yn, .string ys], .bool ok]) (by simp [results, Tryz.results21, go_sem, z0, z1, z2]) rfl ⟨by rw [HYO.out.1, HYO.out.2]; rfl, grown_put (grown_put (grown_put HG5.out (.inr (Nat.le_refl _)) _) (.inr (Nat.le_refl _)) _) (.inr (Nat.le_refl _)) _⟩
  | none =>
    have HPR := Lib.hid (ownPart_read s w1 hs (HV.out.grow HG1.out))
    rw [hb] at HRE HC
    dsimp only at HRE HC
    have HC2 := Lib.hid (fun w' => show Calls Tryz.prog 28 #[.string s, .string ⟨#[40]⟩] w' (fun e w2 => e = .returned (.tuple #[.string s, .bool false]) ∧ w2 = w') from HC.out w')
    clear HC hb
    cases hp : partP s.data.toList with
    | none =>
      rw [hp] at HRE HPR
      dsimp only at HRE
      have HPN := Lib.hid (show Calls Tryz.prog 30 #[.string s] w1 (ToldG (.tuple #[.agg #[.int .u8 0, .int .i64 0, .string ⟨#[]⟩], .string ⟨#[]⟩, .bool false]) w1) from HPR.out)
      clear hp HPR
      go_enter Tryz.func21, Tryz.ntmps21
      go_wp2_with fail
      rw [← HW1.out]
      refine (HC2.out _).mono ?_
      rintro e w2 ⟨rfl, rfl⟩
      go_wp2_with fail
      refine HPN.out.mono ?_
      rintro e w3 ⟨rfl, hg⟩
      have HG3 := Lib.hid (grown_join HG1.out hg (.inr (by simp)))
      have HB3 := Lib.hid (HBX.out.grown hg (by simp))
      clear hg
      go_upto_region 5 with fail
      obtain ⟨W, hW⟩ : ∃ W, W = w3.alloc (.cells #[.int .u8 0, .int .i64 0, .string ⟨#[]⟩] 27) := ⟨_, rfl⟩
      rw [← hW]
      obtain ⟨q0, q1, q2, f0, f1, f2, z0, z1, z2⟩ := (show Box W w.heap.size 27 #[.int .u8 0, .int .i64 0, .string noS] by rw [hW]; exact HB3.out.alloc _).three (.int .u8 0) (.int .i64 0) (.string ⟨#[]⟩)
      have HG4 := Lib.hid (show w.grownBy W none by rw [hW]; exact grown_alloc HG3.out _)
      clear hW
      go_wp2_with fail
      exact bodyPost_ret (v := .tuple #[.agg #[.int .u8 0, .int .i64 0, .string ⟨#[]⟩], .bool false]) (by simp [results, Tryz.results21, go_sem, z0, z1, z2]) rfl (gaveTup_no HRE.out (grown_put (grown_put (grown_put HG4.out (.inr (Nat.le_refl _)) _) (.inr (Nat.le_refl _)) _) (.inr (Nat.le_refl _)) _))
    | some p =>
      obtain ⟨⟨ak, an, as'⟩, q⟩ := p
      rw [hp] at HRE HPR
      dsimp only at HRE
      have HPN := Lib.hid (show Calls Tryz.prog 30 #[.string s] w1 (ToldG (.tuple #[.agg #[.int .u8 ak, .int .i64 an, .string as'], .string (txt q), .bool true]) w1) from HPR.out)
      have HTD := Lib.hid (txt_data q)
      clear hp HPR
      generalize txt q = t at *
      go_enter Tryz.func21, Tryz.ntmps21
      go_wp2_with fail
      rw [← HW1.out]
      refine (HC2.out _).mono ?_
      rintro e w2 ⟨rfl, rfl⟩
      go_wp2_with fail
      refine HPN.out.mono ?_
      rintro e w3 ⟨rfl, hg⟩
      have HG3 := Lib.hid (grown_join HG1.out hg (.inr (by simp)))
      have HB3 := Lib.hid (HBX.out.grown hg (by simp))
      clear hg
      go_upto_region 5 with fail
      obtain ⟨W, hW⟩ : ∃ W, W = w3.alloc (.cells #[.int .u8 ak, .int .i64 an, .string as'] 27) := ⟨_, rfl⟩
      rw [← hW]
      have HBW := Lib.hid (show Box W w.heap.size 27 #[.int .u8 0, .int .i64 0, .string noS] by rw [hW]; exact HB3.out.alloc _)
      obtain ⟨b0, b1, b2⟩ := cells3 (show Box W w3.heap.size 27 #[.int .u8 ak, .int .i64 an, .string as'] by rw [hW]; exact Box.fresh _ _ _)
      have HG4 := Lib.hid (show w.grownBy W none by rw [hW]; exact grown_alloc HG3.out _)
      clear hW
      by_cases h0 : q = []
      · subst h0
        obtain ⟨n1, n2, n3⟩ := str_empty HTD.out
        have HR2 := Lib.hid (show readE s.data.toList = some ⟨ak, an, as'⟩ by rw [HRE.out, if_pos rfl])
        obtain ⟨q0, q1, q2, f0, f1, f2, z0, z1, z2⟩ := HBW.out.three (.int .u8 ak) (.int .i64 an) (.string as')
        go_wp2_with fail
        exact bodyPost_ret (v := .tuple #[.agg #[.int .u8 ak, .int .i64 an, .string as'], .bool true]) (by simp [results, Tryz.results21, go_sem, z0, z1, z2]) rfl (gaveTup_yes HR2.out (grown_put (grown_put (grown_put HG4.out (.inr (Nat.le_refl _)) _) (.inr (Nat.le_refl _)) _) (.inr (Nat.le_refl _)) _))
      · obtain ⟨n1, n2, n3⟩ := str_full (r := t) (by rw [HTD.out]; exact h0)
        have HR2 := Lib.hid (show readE s.data.toList = none by rw [HRE.out, if_neg h0])
        clear h0
        obtain ⟨q0, q1, q2, f0, f1, f2, z0, z1, z2⟩ := HBW.out.three (.int .u8 0) (.int .i64 0) (.string ⟨#[]⟩)
        go_wp2_with fail
        exact bodyPost_ret (v := .tuple #[.agg #[.int .u8 0, .int .i64 0, .string ⟨#[]⟩], .bool false]) (by simp [results, Tryz.results21, go_sem, z0, z1, z2]) rfl (gaveTup_no HR2.out (grown_put (grown_put (grown_put HG4.out (.inr (Nat.le_refl _)) _) (.inr (Nat.le_refl _)) _) (.inr (Nat.le_refl _)) _))
theorem readSays : ReadSays := fun s w hs hv => ownRead_any s w hs hv
theorem showSays : ShowSays := fun a w h _ hv => ownShow_any a.k a.n a.s w h.2.2.2.2 h.2.2.1 h.2.2.2.1 hv
end Go.Proofs.YtblmnbaejfhagaaGreatDoor
