/-
  Layer 5: the program's Tuple.
-/
import Derived.Test.YtblmnbaejfhagaaGreatDoorPackO5
namespace Go.Proofs.YtblmnbaejfhagaaGreatDoor
open Go.ChangeShapes Go.WideShapes Go.ChangeAt Go.RowKit
set_option linter.unusedVariables false

theorem Box.below {w w' : World} {g B : Nat} {t : TypeId} {cs : Array Value} (h : Box w g t cs) (hb : Below B w w') (hg : g < B) : Box w' g t cs := (hb.block g hg).trans h
theorem below_less {w w' : World} {B B' : Nat} (hb : Below B w w') (h : B' ≤ B) : Below B' w w' := ⟨hb.os, hb.tape, hb.output, hb.size, fun k hk => hb.block k (by omega)⟩
theorem grown_below {a b c : World} (h : a.grownBy b none) (k : Below b.heap.size b c) : a.grownBy c none := grown_join h (grown_of_below k) (.inr (by simp))
theorem encL_pos {l : List Lab} (h : l ≠ []) : 0 < (encL l).length := by
  cases l with
  | nil => exact absurd rfl h
  | cons a l =>
    have e : encL (a :: l) = encP a ++ encL l := by simp [encL]
    rw [e, List.length_append]
    unfold encP
    split <;> (rw [List.length_cons]; omega)
set_option maxRecDepth 100000 in
set_option maxHeartbeats 4000000 in
theorem ownTuple_any (A : Option Addr) (n c : Nat) (l : List Lab) (w : World) (h : Labs w w.heap.size A n l) (hn : n ≤ 1048576) (hs : ∀ i, i < n → okL (l.getD i noLab)) :
    Calls Tryz.prog 6 #[.slice A n c] w (GaveTup (tupE l) w) := by
  have H := Lib.hid h
  have HL := Lib.hid h.1
  have HS := Lib.hid hs
  clear h hs
  have HBX := Lib.hid (Box.fresh w 27 #[.int .u8 0, .int .i64 0, .string noS])
  have HG0 := Lib.hid (World.grownBy_alloc w (.cells #[.int .u8 0, .int .i64 0, .string noS] 27) none)
  by_cases hr : 1 ≤ n ∧ n ≤ 4
  · have e1 : decide ((n : Int) < 1) = false := by simp; omega
    have e2 : decide ((4 : Int) < (n : Int)) = false := by simp; omega
    have HR := Lib.hid hr
    clear hr
    obtain ⟨w1, hw1⟩ : ∃ w1, w1 = w.alloc (.cells #[.int .u8 0, .int .i64 0, .string noS] 27) := ⟨_, rfl⟩
    have HW1 := Lib.hid (show w1 = w.alloc (.cells #[.int .u8 0, .int .i64 0, .string ⟨#[]⟩] 27) from hw1)
    have HS1 := Lib.hid (show w1.heap.size = w.heap.size + 1 by rw [hw1]; simp)
    rw [← hw1] at HBX HG0
    clear hw1
    go_enter Tryz.func6, Tryz.ntmps6
    go_wp2_with fail
    rw [← HW1.out]
    go_loopw [4, 18] (fun v4 v18 wr => ∃ x : Nat, x ≤ n ∧ v18 = .int .i64 x ∧ wr.ownsRow w1.heap.size 5 1 v4 (encL (l.take x)).length (byteV (encL (l.take x))) ∧ (encL (l.take x)).length ≤ 34 * x ∧ (∀ j, j < x → simpE (l.getD j noLab) = true) ∧ Below w1.heap.size w1 wr) (fun _ v18 _ => n - (intOf v18).toNat)
    case atStart => exact ⟨0, by omega, rfl, World.ownsRow_nil _ _ _ _, by simp [encL], fun i hi => by omega, Below.refl _ _⟩
    case round =>
      obtain ⟨x, hx, rfl, ho, hle, hq, hb⟩ := hrel
      have HQ := Lib.hid hq
      have HB := Lib.hid hb
      have HLE := Lib.hid hle
      have HO := Lib.hid ho
      have HGW := Lib.hid (grown_below HG0.out hb)
      have HBW := Lib.hid (HBX.out.below hb (by rw [HS1.out]; omega))
      obtain ⟨A4, c4, hv4⟩ := own_slice3 ho
      subst hv4
      have hel : (encL (l.take x)).length ≤ 136 := by have := HR.out; omega
      clear hq ho hb hle
      by_cases hlt : x < n
      · obtain ⟨b, off, rfl, _, k0, k1, k2⟩ := (H.out.grow HGW.out).at_ hlt
        have HSX := Lib.hid (HS.out x hlt)
        have HTK := Lib.hid (show l.take (x + 1) = l.take x ++ [l.getD x noLab] by
          rw [List.take_succ_eq_append_getElem (by rw [HL.out]; exact hlt)]
          simp [List.getD, HL.out, hlt])
        generalize hy : l.getD x noLab = y at *
        have HY := Lib.hid hy
        obtain ⟨yk, yn, ys⟩ := y
        dsimp only at k0 k1 k2
        clear hy
        generalize hpt : encL (l.take x) = p at *
        have HPT := Lib.hid hpt
        clear hpt
        have HRI := Lib.hid (fun w' => ownRight_any yk yn ys w' HSX.out.2.2.2.2 HSX.out.2.2.1 HSX.out.2.2.2.1)
        have i1 : (0 : Int) ≤ (x : Int) := by omega
        have i2 : (x : Int) < (n : Int) := by omega
        go_upto_region 7 with fail
        obtain ⟨W, hW⟩ : ∃ W, W = wr.alloc (.cells #[.int .u8 yk, .int .i64 yn, .string ys] 27) := ⟨_, rfl⟩
        rw [← hW]
        have HGB := Lib.hid (show w.grownBy W none by rw [hW]; exact grown_alloc HGW.out _)
        have HYB := Lib.hid (show Box W wr.heap.size 27 #[.int .u8 yk, .int .i64 yn, .string ys] by rw [hW]; exact Box.fresh _ _ _)
        have HBW2 := Lib.hid (show Box W w.heap.size 27 #[.int .u8 0, .int .i64 0, .string noS] by rw [hW]; exact HBW.out.alloc _)
        have HOW := Lib.hid (show W.ownsRow w1.heap.size 5 1 (.slice A4 p.length c4) p.length (byteV p) by rw [hW]; exact HO.out.alloc _)
        have HBB := Lib.hid (show Below w1.heap.size w1 W by rw [hW]; exact HB.out.trans (below_alloc HB.out.size _))
        clear hW k0 k1 k2 HBW HO HB HGW
        obtain ⟨y0, y1, y2⟩ := cells3 HYB.out
        obtain ⟨q0, q1, q2, f0, f1, f2, d0, d1, d2⟩ := HBW2.out.three (.int .u8 0) (.int .i64 0) (.string ⟨#[]⟩)
        by_cases hk : yk = 2
        · subst hk
          have HN := Lib.hid (tup_no (l := l) (x := x) (by rw [HL.out]; exact hlt) (by rw [HY.out]; rfl))
          go_wp2_with fail
          exact bodyPost_ret (v := .tuple #[.agg #[.int .u8 0, .int .i64 0, .string ⟨#[]⟩], .bool false]) (by simp [results, Tryz.results6, go_sem, d0, d1, d2]) rfl (gaveTup_no HN.out (grown_put (grown_put (grown_put HGB.out (.inr (Nat.le_refl _)) _) (.inr (Nat.le_refl _)) _) (.inr (Nat.le_refl _)) _))
        · have dk : (yk == 2) = false := by simp [hk]
          have HK := Lib.hid hk
          clear hk q0 q1 q2 f0 f1 f2 d0 d1 d2
          go_wp2_with fail
          refine (HRI.out _).mono ?_
          rintro e w2 ⟨rfl, hg⟩
          have HG2 := Lib.hid (grown_join HGB.out hg (.inr (by simp)))
          obtain ⟨q0, q1, q2, f0, f1, f2, d0, d1, d2⟩ := (HBW2.out.grown hg (by simp)).three (.int .u8 0) (.int .i64 0) (.string ⟨#[]⟩)
          have HY2 := Lib.hid (HYB.out.grown hg (by simp))
          have HO2 := Lib.hid (own_grow HOW.out hg)
          have HB2 := Lib.hid (HBB.out.trans (below_less (below_of_grown hg) HBB.out.size))
          clear hg y0 y1 y2
          obtain ⟨y0, y1, y2⟩ := cells3 HY2.out
          cases hr : rightE ⟨yk, yn, ys⟩
          · have HN := Lib.hid (tup_no (l := l) (x := x) (by rw [HL.out]; exact hlt) (by rw [HY.out]; unfold simpE; rw [hr, Bool.and_false]))
            clear hr
            go_wp2_with fail
            exact bodyPost_ret (v := .tuple #[.agg #[.int .u8 0, .int .i64 0, .string ⟨#[]⟩], .bool false]) (by simp [results, Tryz.results6, go_sem, d0, d1, d2]) rfl (gaveTup_no HN.out (grown_put (grown_put (grown_put HG2.out (.inr (Nat.le_refl _)) _) (.inr (Nat.le_refl _)) _) (.inr (Nat.le_refl _)) _))
          · have hsy : simpE ⟨yk, yn, ys⟩ = true := by unfold simpE; rw [hr, decide_eq_true HK.out]; rfl
            have HSY := Lib.hid hsy
            have hpl := simp_plain hsy HSX.out.2.2.1 HSX.out.2.2.2.1
            have HEP := Lib.hid (encP_length hpl)
            have HPA := Lib.hid (ownPack_any A4 p.length c4 w1.heap.size p ⟨yk, yn, ys⟩ w2 HO2.out HB2.out.size (by omega) hpl)
            have HEN := Lib.hid (show encL (l.take (x + 1)) = p ++ encP ⟨yk, yn, ys⟩ by rw [HTK.out, encL_snoc, HPT.out])
            dsimp only at HPA
            clear hr hsy hpl q0 q1 q2 f0 f1 f2 d0 d1 d2
            go_wp2_with fail
            refine HPA.out.mono ?_
            rintro e w3 ⟨A5, c5, rfl, ho5, hb5⟩
            have HO5 := Lib.hid ho5
            have HB5 := Lib.hid (HB2.out.trans hb5)
            clear ho5 hb5
            go_wp2_with fail
            go_roundw
            case rel => exact ⟨x + 1, by omega, by go_num, by rw [HEN.out, List.length_append]; have h5 := HO5.out; rw [List.length_append] at h5; exact h5, by rw [HEN.out, List.length_append]; have := HEP.out; have := HLE.out; omega, fun j hj => by
              by_cases e : j = x
              · subst e; rw [HY.out]; exact HSY.out
              · exact HQ.out j (by omega), HB5.out⟩
            case measure => simp [intOf]; omega
      · obtain rfl : n = x := by omega
        have HTA := Lib.hid (show l.take n = l by rw [← HL.out, List.take_length])
        have HQT := Lib.hid (tup_yes (l := l) (by rw [HL.out]; exact HR.out) (by rw [HL.out]; exact HQ.out))
        rw [HTA.out] at HO hel
        obtain ⟨q0, q1, q2, f0, f1, f2, d0, d1, d2⟩ := HBW.out.three (.int .u8 2) (.int .i64 (n : Int)) (.string ⟨(encL l).toArray⟩)
        have hpos := encL_pos (l := l) (by rintro rfl; have h1 := HL.out; have h2 := HR.out; simp at h1; omega)
        obtain ⟨r, rfl, _, _, _, hc9⟩ := own_form HO.out hpos
        have hcv := run_convert_bytes_back (P := Tryz.prog) wr 48 9 5 ⟨r, 0, none⟩ c4 (encL l) Tryz.underlying48 Tryz.underlying5 Tryz.underlying9 (fun k hk => by
          have h1 := HO.out.cellAt k (by omega)
          rw [Addr.add_lit, Nat.zero_add, h1]
          unfold byteV
          rw [List.getElem?_map, List.getElem?_eq_getElem hk]
          rfl)
        rw [HTA.out]
        clear hpos hc9
        go_wp2_with fail
        exact bodyPost_ret (v := .tuple #[.agg #[.int .u8 2, .int .i64 (n : Int), .string ⟨(encL l).toArray⟩], .bool true]) (by simp [results, Tryz.results6, go_sem, d0, d1, d2]) rfl (gaveTup_yes (by rw [HQT.out, HL.out]; rfl) (grown_put (grown_put (grown_put HGW.out (.inr (Nat.le_refl _)) _) (.inr (Nat.le_refl _)) _) (.inr (Nat.le_refl _)) _))
  · have HN := Lib.hid (tup_short (l := l) (by rw [HL.out]; exact hr))
    by_cases h1 : n < 1
    · have e1 : decide ((n : Int) < 1) = true := by simp; omega
      clear hr
      go_enter Tryz.func6, Tryz.ntmps6
      go_wp2_with fail
      exact bodyPost_ret (v := .tuple #[.agg #[.int .u8 0, .int .i64 0, .string ⟨#[]⟩], .bool false]) (by simp [results, Tryz.results6, go_sem]) rfl (gaveTup_no HN.out HG0.out)
    · have e1 : decide ((n : Int) < 1) = false := by simp; omega
      have e2 : decide ((4 : Int) < (n : Int)) = true := by simp; omega
      clear hr
      go_enter Tryz.func6, Tryz.ntmps6
      go_wp2_with fail
      exact bodyPost_ret (v := .tuple #[.agg #[.int .u8 0, .int .i64 0, .string ⟨#[]⟩], .bool false]) (by simp [results, Tryz.results6, go_sem]) rfl (gaveTup_no HN.out HG0.out)
theorem tupleSays : TupleSays := fun A n c l w h hn hs => ownTuple_any A n c l w h hn hs
end Go.Proofs.YtblmnbaejfhagaaGreatDoor
