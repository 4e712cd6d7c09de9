/-
  Layer 5: the reference's Tuple.
-/
import Derived.Test.YtblmnbaejfhagaaGreatDoorPart5
namespace Go.Proofs.YtblmnbaejfhagaaGreatDoor
open Go.ChangeShapes Go.WideShapes Go.ChangeAt Go.RowKit
set_option linter.unusedVariables false

/-- a label of the small ones, right. -/
def simpE (a : Lab) : Bool := decide (a.k ≠ 2) && rightE a
def tupE (l : List Lab) : Option Lab := if (decide (1 ≤ l.length ∧ l.length ≤ 4) && l.all simpE) = true then some ⟨2, l.length, txt (encL l)⟩ else none
theorem tup_short {l : List Lab} (h : ¬ (1 ≤ l.length ∧ l.length ≤ 4)) : tupE l = none := by unfold tupE; rw [decide_eq_false h]; rfl
theorem tup_no {l : List Lab} {x : Nat} (hx : x < l.length) (h : simpE (l.getD x noLab) = false) : tupE l = none := by
  unfold tupE
  rw [show l.all simpE = false from by
    rw [List.all_eq_false]
    refine ⟨l[x], List.getElem_mem hx, ?_⟩
    rw [List.getD_eq_getElem?_getD, List.getElem?_eq_getElem hx] at h
    simp at h
    simp [h], Bool.and_false]
  rfl
theorem tup_yes {l : List Lab} (h : 1 ≤ l.length ∧ l.length ≤ 4) (h2 : ∀ x, x < l.length → simpE (l.getD x noLab) = true) : tupE l = some ⟨2, l.length, txt (encL l)⟩ := by
  unfold tupE
  rw [decide_eq_true h, show l.all simpE = true from by
    rw [List.all_eq_true]
    intro y hy
    obtain ⟨i, hi, rfl⟩ := List.mem_iff_getElem.1 hy
    have := h2 i hi
    rw [List.getD_eq_getElem?_getD, List.getElem?_eq_getElem hi] at this
    exact this]
  rfl
theorem simp_plain {a : Lab} (h : simpE a = true) (h1 : -9223372036854775808 ≤ a.n) (h2 : a.n < 9223372036854775808) : plainL a := by
  unfold simpE at h
  rw [Bool.and_eq_true, decide_eq_true_eq] at h
  obtain ⟨hk, hr⟩ := h
  unfold rightE partsE at hr
  by_cases hp : a.k = 0 ∧ a.s = noS ∨ a.k = 1 ∧ a.n = 0 ∧ a.s.size ≤ 32
  · rcases hp with ⟨h3, h4⟩ | h3
    · exact .inl ⟨h3, h4, h1, h2⟩
    · exact .inr h3
  · rw [if_neg hp, if_pos hk] at hr; cases hr
theorem encP_length {a : Lab} (h : plainL a) : (encP a).length ≤ 34 := by
  rcases h with ⟨h1, _⟩ | ⟨h1, h2, h3⟩
  · unfold encP; rw [if_neg (by omega), List.length_cons, bytesB_length]; omega
  · unfold encP; rw [if_pos h1, List.length_cons, List.length_cons, Array.length_toList]
    have : a.s.data.size = a.s.size := rfl
    omega
theorem encL_snoc (l : List Lab) (a : Lab) : encL (l ++ [a]) = encL l ++ encP a := by simp [encL]
theorem txt_add (a b : List UInt8) : txt a ++ txt b = txt (a ++ b) := by
  apply toList_inj
  simp [txt, Lib.toList_data]
theorem Box.three {w : World} {b : Nat} {t : TypeId} {x y z : Value} (h : Box w b t #[x, y, z]) (u v s : Value) : w.cell? ⟨b, 0, none⟩ = some x ∧ w.cell? ⟨b, 1, none⟩ = some y ∧ w.cell? ⟨b, 2, none⟩ = some z ∧ w.frozen? ⟨b, 0, none⟩ = false ∧ w.frozen? ⟨b, 1, none⟩ = false ∧ w.frozen? ⟨b, 2, none⟩ = false ∧
    (((w.setCell ⟨b, 0, none⟩ u).setCell ⟨b, 1, none⟩ v).setCell ⟨b, 2, none⟩ s).cell? ⟨b, 0, none⟩ = some u ∧ (((w.setCell ⟨b, 0, none⟩ u).setCell ⟨b, 1, none⟩ v).setCell ⟨b, 2, none⟩ s).cell? ⟨b, 1, none⟩ = some v ∧ (((w.setCell ⟨b, 0, none⟩ u).setCell ⟨b, 1, none⟩ v).setCell ⟨b, 2, none⟩ s).cell? ⟨b, 2, none⟩ = some s :=
  ⟨by rw [h.get]; rfl, by rw [h.get]; rfl, by rw [h.get]; rfl, h.free 0, h.free 1, h.free 2, by rw [(((h.put 0 u).put 1 v).put 2 s).get]; rfl, by rw [(((h.put 0 u).put 1 v).put 2 s).get]; rfl, by rw [(((h.put 0 u).put 1 v).put 2 s).get]; rfl⟩
/-- a label, and whether there is one. -/
def GaveTup (o : Option Lab) (w : World) (en : Ending) (w' : World) : Prop := en = .returned (.tuple #[labO (o.getD noLab), .bool o.isSome]) ∧ w.grownBy w' none
theorem gaveTup_no {o : Option Lab} {w w' : World} (h : o = none) (hg : w.grownBy w' none) : GaveTup o w (.returned (.tuple #[.agg #[.int .u8 0, .int .i64 0, .string noS], .bool false])) w' := by subst h; exact ⟨rfl, hg⟩
theorem gaveTup_yes {o : Option Lab} {k n : Int} {s : ByteArray} {w w' : World} (h : o = some ⟨k, n, s⟩) (hg : w.grownBy w' none) : GaveTup o w (.returned (.tuple #[.agg #[.int .u8 k, .int .i64 n, .string s], .bool true])) w' := by subst h; exact ⟨rfl, hg⟩
set_option maxRecDepth 100000 in
set_option maxHeartbeats 2000000 in
theorem ref5Tuple_any (A : Option Addr) (n c : Nat) (l : List Lab) (w : World) (h : Labs w w.heap.size A n l) (hn : n ≤ 1048576) (hs : ∀ i, i < n → (l.getD i noLab).s.size ≤ 1048576 ∧ -9223372036854775808 ≤ (l.getD i noLab).n ∧ (l.getD i noLab).n < 9223372036854775808) :
    Calls Tryz.prog 8 #[.slice A n c] w (GaveTup (tupE l) w) := by
  have H := Lib.hid h
  have HL := Lib.hid h.1
  have HS := Lib.hid hs
  clear h hs
  have HBX := Lib.hid (Box.fresh w 23 #[.int .u8 0, .int .i64 0, .string noS])
  have HG0 := Lib.hid (World.grownBy_alloc w (.cells #[.int .u8 0, .int .i64 0, .string noS] 23) none)
  by_cases hr : 1 ≤ n ∧ n ≤ 4
  · have e1 : decide ((n : Int) < 1) = false := by simp; omega
    have e2 : decide ((4 : Int) < (n : Int)) = false := by simp; omega
    have HR := Lib.hid hr
    clear hr
    obtain ⟨w1, hw1⟩ : ∃ w1, w1 = w.alloc (.cells #[.int .u8 0, .int .i64 0, .string noS] 23) := ⟨_, rfl⟩
    have HW1 := Lib.hid (show w1 = w.alloc (.cells #[.int .u8 0, .int .i64 0, .string ⟨#[]⟩] 23) from hw1)
    rw [← hw1] at HBX HG0
    clear hw1
    go_enter Tryz.func8, Tryz.ntmps8
    go_wp2
    rw [← HW1.out]
    go_loopw [4, 5] (fun s i wr => ∃ x : Nat, x ≤ n ∧ i = .int .i64 x ∧ s = .string (txt (encL (l.take x))) ∧ (encL (l.take x)).length ≤ 34 * x ∧ (∀ j, j < x → simpE (l.getD j noLab) = true) ∧ w1.grownBy wr none) (fun _ i _ => n - (intOf i).toNat)
    case atStart => exact ⟨0, by omega, rfl, rfl, by simp [encL], fun i hi => by omega, grown_refl _ _⟩
    case round =>
      obtain ⟨x, hx, rfl, rfl, hle, hq, hg⟩ := hrel
      have HQ := Lib.hid hq
      have HG := Lib.hid hg
      have HLE := Lib.hid hle
      have htx := txt_size (encL (l.take x))
      have HBW := Lib.hid (HBX.out.grown hg (by simp))
      clear hq
      by_cases hlt : x < n
      · have HB0 := Lib.hid (grown_join HG0.out hg (.inr (by simp)))
        obtain ⟨b, off, rfl, _, k0, k1, k2⟩ := (H.out.grow HB0.out).at_ hlt
        have HSX := Lib.hid (HS.out x hlt)
        have HTK := Lib.hid (show l.take (x + 1) = l.take x ++ [l.getD x noLab] by
          rw [List.take_succ_eq_append_getElem (by rw [HL.out]; exact hlt)]
          simp [List.getD, HL.out, hlt])
        generalize hy : l.getD x noLab = y at *
        have HY := Lib.hid hy
        obtain ⟨yk, yn, ys⟩ := y
        dsimp only at k0 k1 k2 HSX
        clear hy hg
        generalize hpt : txt (encL (l.take x)) = p at *
        have HPT := Lib.hid hpt
        clear hpt
        have HRI := Lib.hid (fun w' => ref5Right_any yk yn ys w' HSX.out.1)
        obtain ⟨q0, q1, q2, f0, f1, f2, d0, d1, d2⟩ := HBW.out.three (.int .u8 0) (.int .i64 0) (.string ⟨#[]⟩)
        by_cases hk : yk = 2
        · subst hk
          have HN := Lib.hid (tup_no (l := l) (x := x) (by rw [HL.out]; exact hlt) (by rw [HY.out]; rfl))
          go_wp2
          exact bodyPost_ret (v := .tuple #[.agg #[.int .u8 0, .int .i64 0, .string ⟨#[]⟩], .bool false]) (by simp [results, Tryz.results8, go_sem, d0, d1, d2]) rfl (gaveTup_no HN.out (grown_put (grown_put (grown_put HB0.out (.inr (Nat.le_refl _)) _) (.inr (Nat.le_refl _)) _) (.inr (Nat.le_refl _)) _))
        · have dk : (yk == 2) = false := by simp [hk]
          have HK := Lib.hid hk
          clear hk q0 q1 q2 f0 f1 f2 d0 d1 d2
          go_wp2_with fail
          refine (HRI.out _).mono ?_
          rintro e w2 ⟨rfl, hg⟩
          have HG2 := Lib.hid (grown_join HB0.out hg (.inr (by simp)))
          have HG3 := Lib.hid (grown_join HG.out hg (.inr (by simp)))
          obtain ⟨q0, q1, q2, f0, f1, f2, d0, d1, d2⟩ := (HBW.out.grown hg (by simp)).three (.int .u8 0) (.int .i64 0) (.string ⟨#[]⟩)
          have KEEP := Lib.hid (fun (p : Addr) (v : Value) (h : wr.cell? p = some v) => (World.cell?_of_block (hg.block p.block (World.block_lt_of_cell? wr _ h) (by simp))).trans h)
          clear hg
          cases hr : rightE ⟨yk, yn, ys⟩
          · have HN := Lib.hid (tup_no (l := l) (x := x) (by rw [HL.out]; exact hlt) (by rw [HY.out]; unfold simpE; rw [hr, Bool.and_false]))
            clear hr
            go_wp2_with fail
            exact bodyPost_ret (v := .tuple #[.agg #[.int .u8 0, .int .i64 0, .string ⟨#[]⟩], .bool false]) (by simp [results, Tryz.results8, go_sem, d0, d1, d2]) rfl (gaveTup_no HN.out (grown_put (grown_put (grown_put HG2.out (.inr (Nat.le_refl _)) _) (.inr (Nat.le_refl _)) _) (.inr (Nat.le_refl _)) _))
          · have hsy : simpE ⟨yk, yn, ys⟩ = true := by unfold simpE; rw [hr, decide_eq_true HK.out]; rfl
            have HSY := Lib.hid hsy
            have hpl := simp_plain hsy HSX.out.2.1 HSX.out.2.2
            have HEP := Lib.hid (encP_length hpl)
            have HPA := Lib.hid (fun w' => ref5part_any ⟨yk, yn, ys⟩ w' hpl)
            clear hr hsy hpl q0 q1 q2 f0 f1 f2 d0 d1 d2
            have k0' := KEEP.out _ _ k0
            have k1' := KEEP.out _ _ k1
            have k2' := KEEP.out _ _ k2
            clear k0 k1 k2
            go_wp2_with fail
            refine (HPA.out _).mono ?_
            rintro e w3 ⟨rfl, hg⟩
            have HG4 := Lib.hid (grown_join HG3.out hg (.inr (by simp)))
            have HTX := Lib.hid (show p ++ txt (encP ⟨yk, yn, ys⟩) = txt (encL (l.take (x + 1))) by rw [HTK.out, encL_snoc, ← txt_add, HPT.out])
            have hts : (txt (encP ⟨yk, yn, ys⟩)).size ≤ 34 := by rw [txt_size]; exact HEP.out
            have HLE' := Lib.hid (show (encL (l.take (x + 1))).length ≤ 34 * (x + 1) by rw [HTK.out, encL_snoc, List.length_append]; have := HEP.out; have := HLE.out; omega)
            clear hg
            generalize txt (encP ⟨yk, yn, ys⟩) = q at *
            go_wp2_with fail
            go_roundw
            case rel => exact ⟨x + 1, by omega, by go_num, by rw [← HTX.out], HLE'.out, fun j hj => by
              by_cases e : j = x
              · subst e; rw [HY.out]; exact HSY.out
              · exact HQ.out j (by omega), HG4.out⟩
            case measure => simp [intOf]; omega
      · obtain rfl : n = x := by omega
        obtain ⟨q0, q1, q2, f0, f1, f2, d0, d1, d2⟩ := HBW.out.three (.int .u8 2) (.int .i64 (n : Int)) (.string (txt (encL l)))
        have HQT := Lib.hid (tup_yes (l := l) (by rw [HL.out]; exact HR.out) (by rw [HL.out]; exact HQ.out))
        have HTA := Lib.hid (show l.take n = l by rw [← HL.out, List.take_length])
        have HB0 := Lib.hid (grown_join HG0.out hg (.inr (by simp)))
        rw [HTA.out] at hle htx
        clear hg
        rw [HTA.out]
        go_wp2
        exact bodyPost_ret (v := .tuple #[.agg #[.int .u8 2, .int .i64 (n : Int), .string (txt (encL l))], .bool true]) (by simp [results, Tryz.results8, go_sem, d0, d1, d2]) rfl (gaveTup_yes (by rw [HQT.out, HL.out]) (grown_put (grown_put (grown_put HB0.out (.inr (Nat.le_refl _)) _) (.inr (Nat.le_refl _)) _) (.inr (Nat.le_refl _)) _))
  · have HN := Lib.hid (tup_short (l := l) (by rw [HL.out]; exact hr))
    by_cases h1 : n < 1
    · have e1 : decide ((n : Int) < 1) = true := by simp; omega
      clear hr
      go_enter Tryz.func8, Tryz.ntmps8
      go_wp2
      exact bodyPost_ret (v := .tuple #[.agg #[.int .u8 0, .int .i64 0, .string ⟨#[]⟩], .bool false]) (by simp [results, Tryz.results8, go_sem]) rfl (gaveTup_no HN.out HG0.out)
    · have e1 : decide ((n : Int) < 1) = false := by simp; omega
      have e2 : decide ((4 : Int) < (n : Int)) = true := by simp; omega
      clear hr
      go_enter Tryz.func8, Tryz.ntmps8
      go_wp2
      exact bodyPost_ret (v := .tuple #[.agg #[.int .u8 0, .int .i64 0, .string ⟨#[]⟩], .bool false]) (by simp [results, Tryz.results8, go_sem]) rfl (gaveTup_no HN.out HG0.out)
end Go.Proofs.YtblmnbaejfhagaaGreatDoor
