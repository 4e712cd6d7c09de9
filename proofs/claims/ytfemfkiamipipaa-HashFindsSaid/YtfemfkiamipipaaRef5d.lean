/-
  Layer 5: the reference's Parts of a tuple, walked.
-/
import Derived.Test.YtfemfkiamipipaaRef5c
namespace Go.Proofs.Ytfemfkiamipipaa
open Go.ChangeShapes Go.WideShapes Go.ChangeAt Go.RowKit
set_option linter.unusedVariables false

def strOf (v : Value) : Nat := match v with | .string r => r.size | _ => 0
set_option maxRecDepth 100000 in
set_option maxHeartbeats 8000000 in
theorem ref5Parts_tuple (n : Int) (s : ByteArray) (w : World) (hs : s.size ≤ 1048576) : Calls Try.prog 39 #[.agg #[.int .u8 2, .int .i64 n, .string s]] w (PartsEnd 39 (partsE ⟨2, n, s⟩) w) := by
  obtain ⟨i0, hi, hz0, hz1, hz2⟩ := info_parts info_rlab
  have HST := Lib.hid (Left.start s.data.toList)
  have hbx := Box.fresh w 39 #[.int .u8 2, .int .i64 n, .string s]
  have HBX := Lib.hid hbx
  have HG0 := Lib.hid (World.grownBy_alloc w (.cells #[.int .u8 2, .int .i64 n, .string s] 39) none)
  obtain ⟨w1, hw1⟩ : ∃ w1, w1 = w.alloc (.cells #[.int .u8 2, .int .i64 n, .string s] 39) := ⟨_, rfl⟩
  have hsz1 : w1.heap.size = w.heap.size + 1 := by rw [hw1]; simp
  have HW1 := Lib.hid hw1
  rw [← hw1] at HBX HG0
  clear hbx hw1
  go_enter Try.func39, Try.ntmps39
  go_wp2
  rw [← HW1.out]
  go_loopw [3, 4, 5, 6, 7] (fun v3 v4 _ _ _ wr => ∃ (o : List Lab) (r : ByteArray), v4 = .string r ∧ r.size ≤ 1048576 ∧ wr.ownsRow w1.heap.size 39 3 v3 o.length (labV o) ∧ Left s.data.toList o r.data.toList ∧ w1.grownBy wr none) (fun _ v4 _ _ _ _ => strOf v4)
  case atStart => exact ⟨[], s, rfl, hs, World.ownsRow_nil _ _ _ _, HST.out, grown_refl _ _⟩
  case round =>
    obtain ⟨o, r, rfl, hr, ho, hl, hg⟩ := hrel
    have HO := Lib.hid ho
    have HL := Lib.hid hl
    have HG := Lib.hid hg
    have hol := hl.1
    have hszr := hg.size
    have hbx := HBX.out.grown hg (by simp)
    have hcn : wr.cell? ⟨w.heap.size, 1, none⟩ = some (.int .i64 n) := hbx.get 1
    obtain ⟨A3, c3, hv3⟩ := own_slice3 ho
    subst hv3
    clear ho hl hbx
    generalize hxo : o.length = x at *
    have HXO := Lib.hid hxo
    clear hxo
    by_cases hr0 : 0 < r.size
    · by_cases hx4 : x < 4
      · have hcons := data_cons hr0
        have hdl := data_size r
        have ax : decide ((x : Int) < 4) = true := by simp; omega
        by_cases hA : (r[0]'hr0).toNat = 0 ∧ 9 ≤ r.size
        · obtain ⟨hz, h9⟩ := hA
          have a2 : decide ((9 : Int) ≤ (r.size : Int)) = true := by simp; omega
          have hzero : r[0]'hr0 = 0 := UInt8.toNat_inj.1 hz
          have HLI := Lib.hid (show Left s.data.toList (o ++ [⟨0, (numB ((r.data.toList.drop 1).take 8) : Int) - 9223372036854775808, noS⟩]) (r.extract 9 r.size).data.toList from by
            have h1 := HL.out
            rw [hcons, hzero] at h1
            have h2 := h1.int (by rw [HXO.out]; exact hx4) (by rw [List.length_drop]; omega)
            rw [Lib.extract_to_end]
            rw [List.drop_drop] at h2
            exact h2)
          have HT := Lib.hid (fun j (hj : j + 1 < r.size) => show (r.data.toList.drop 1).take (j + 1) = (r.data.toList.drop 1).take j ++ [r[j + 1]] from by
            rw [List.take_add_one, List.getElem?_drop, Nat.add_comm 1 j, data_at hj]; rfl)
          have HNB := Lib.hid (fun j (hj : j ≤ 8) => show numB ((r.data.toList.drop 1).take j) < 256 ^ j from by
            have h1 := numB_lt ((r.data.toList.drop 1).take j)
            rw [List.length_take, List.length_drop, hdl, Nat.min_eq_left (by omega)] at h1
            exact h1)
          clear hcons hzero hdl
          go_wp2
          go_loop [5, 6] (fun v5 v6 => ∃ j : Nat, j ≤ 8 ∧ v6 = .int .i64 ((j + 1 : Nat) : Int) ∧ v5 = .int .u64 ((numB ((r.data.toList.drop 1).take j) : Nat) : Int)) (fun _ v6 => 9 - (intOf v6).toNat)
          case atStart => exact ⟨0, by omega, rfl, rfl⟩
          case round =>
            obtain ⟨j, hj, rfl, rfl⟩ := hrel
            have hb := HNB.out j hj
            by_cases hj8 : j < 8
            · have hb2 : numB ((r.data.toList.drop 1).take j) ≤ 72057594037927935 := by
                have : 256 ^ j ≤ 256 ^ 7 := Nat.pow_le_pow_right (by omega) (by omega)
                have e7 : (256 : Nat) ^ 7 = 72057594037927936 := by decide
                omega
              have HTJ := Lib.hid (HT.out j (by omega))
              have hnx : numB ((r.data.toList.drop 1).take (j + 1)) = numB ((r.data.toList.drop 1).take j) * 256 + (r[j + 1]'(by omega)).toNat := by rw [HTJ.out, numB_snoc]
              have HNX := Lib.hid hnx
              have hbyte := (r[j + 1]'(by omega)).toNat_lt
              clear hb hnx HTJ
              generalize numB ((r.data.toList.drop 1).take j) = u at *
              have i1 : (0 : Int) ≤ ((j + 1 : Nat) : Int) := by omega
              have i2 : (j : Int) + 1 < (r.size : Int) := by omega
              go_wp2
              go_round
              case rel => exact ⟨j + 1, by omega, by go_num, by rw [HNX.out]; go_num⟩
              case measure => simp [intOf]; omega
            · obtain rfl : j = 8 := by omega
              have hb2 : numB ((r.data.toList.drop 1).take 8) < 18446744073709551616 := by
                have e7 : (256 : Nat) ^ 8 = 18446744073709551616 := by decide
                omega
              clear hb
              generalize numB ((r.data.toList.drop 1).take 8) = u at *
              have ht := turned_back hb2
              go_wp2_with (at_builtin; refine wpList_append_own_at _ rfl (.tmp 66) (.tmp 71) _ rfl w1.heap.size 39 i0 _ 3 32 Try.underlying22 hi hz0 hz1 hz2 rfl (by omega) (.slice A3 x c3) x _ rfl (HO.out.alloc _) ⟨_, 0, none⟩ 1 1 [.int .u8 0, .int .i64 ((u : Int) - 9223372036854775808), .string noS] rfl rfl (new_cells3 _ _ _ _ _) (three_one _ _ _) (by simp only [maxLen]; omega) (by omega) (by simp; omega) ?_; intro v7' w4 hown4 hg4 _ hat4; have HO4 := Lib.hid hown4; have HG4 := Lib.hid hg4; clear hown4 hg4 hat4)
              go_roundw
              case rel => exact ⟨o ++ [⟨0, (u : Int) - 9223372036854775808, noS⟩], r.extract 9 r.size, rfl, by rw [ByteArray.size_extract]; omega, by rw [List.length_append, HXO.out, labV_snoc]; exact HO4.out, HLI.out, grown_join (grown_alloc HG.out _) HG4.out (.inr fun y hy => (HO.out.lt y hy).1)⟩
              case measure => simp [strOf]; omega
        · have HCONS := Lib.hid hcons
          have HDL := Lib.hid (show (r.data.toList.drop 1).length = r.size - 1 by rw [List.length_drop, hdl])
          clear hcons hdl
          by_cases hz : (r[0]'hr0).toNat = 0
          · have h9 : r.size < 9 := by omega
            have a2 : decide ((9 : Int) ≤ (r.size : Int)) = false := by simp; omega
            have HZ : Hid (r[0]'hr0 ≠ 1) := Lib.hid (by intro e; rw [e] at hz; exact absurd hz (by decide))
            clear hA
            go_wp2
            go_ret
            exact .inl ⟨parts_gone (by have h1 := HL.out; rw [HCONS.out] at h1; exact h1.bad (by rw [HXO.out]; exact hx4) (by rintro ⟨_, h2⟩; rw [HDL.out] at h2; omega) (.inl HZ.out)), rfl, grown_join HG0.out HG.out (.inr (by simp))⟩
          · have HZ0 : Hid (¬ (r[0]'hr0 = 0)) := Lib.hid (by intro e; rw [e] at hz; exact hz rfl)
            clear hA
            by_cases h1 : (r[0]'hr0).toNat = 1
            · have HONE : Hid (r[0]'hr0 = 1) := Lib.hid (UInt8.toNat_inj.1 h1)
              clear hz
              by_cases h2 : 2 ≤ r.size
              · have a3 : decide ((r.size : Int) < 2) = false := by simp; omega
                have HC2 := Lib.hid (data_cons2 (r := r) (by omega))
                have HD2 := Lib.hid (show (r.data.toList.drop 2).length = r.size - 2 by rw [List.length_drop, data_size])
                have hm256 := (r[1]'(by omega)).toNat_lt
                have HTX := Lib.hid (fun (h1 : (r[1]'(by omega)).toNat ≤ 32) (h6 : (r[1]'(by omega)).toNat ≤ (r.data.toList.drop 2).length) => show Left s.data.toList (o ++ [⟨1, 0, r.extract 2 (2 + (r[1]'(by omega)).toNat)⟩]) (r.extract (2 + (r[1]'(by omega)).toNat) r.size).data.toList from by
                  have h3 := HL.out
                  rw [HC2.out, HONE.out] at h3
                  have h4 := h3.txt (by rw [HXO.out]; exact hx4) h1 h6
                  rw [Lib.extract_to_end]
                  have e1 : txt ((r.data.toList.drop 2).take (r[1]'(by omega)).toNat) = r.extract 2 (2 + (r[1]'(by omega)).toNat) := by
                    rw [← txt_of (r.extract 2 (2 + (r[1]'(by omega)).toNat)), Lib.extract_data, Nat.add_sub_cancel_left]
                  rw [e1, List.drop_drop] at h4
                  exact h4)
                have HBD := Lib.hid (fun (h : 32 < (r[1]'(by omega)).toNat ∨ (r.data.toList.drop 2).length < (r[1]'(by omega)).toNat) => show parseL 4 s.data.toList = none from by
                  have h3 := HL.out
                  rw [HC2.out] at h3
                  exact h3.bad (by rw [HXO.out]; exact hx4) (fun h5 => HZ0.out h5.1) (.inr (.inr ⟨_, _, rfl, h⟩)))
                rw [HD2.out] at HTX HBD
                by_cases h32 : (r[1]'(by omega)).toNat ≤ 32
                · by_cases hfit : (r[1]'(by omega)).toNat ≤ r.size - 2
                  · have HLT := Lib.hid (HTX.out h32 hfit)
                    have hm2 : 2 + (r[1]'(by omega)).toNat ≤ r.size := by omega
                    go_wp2_with (at_builtin; refine wpList_append_own_at _ rfl (.tmp 101) (.tmp 107) _ rfl w1.heap.size 39 i0 _ 3 32 Try.underlying22 hi hz0 hz1 hz2 rfl (by omega) (.slice A3 x c3) x _ rfl (HO.out.alloc _) ⟨_, 0, none⟩ 1 1 [.int .u8 1, .int .i64 0, .string (r.extract 2 (2 + (r[1]'(by omega)).toNat))] rfl rfl (new_cells3 _ _ _ _ _) (three_one _ _ _) (by simp only [maxLen]; omega) (by omega) (by simp; omega) ?_; intro v7' w4 hown4 hg4 _ hat4; have HO4 := Lib.hid hown4; have HG4 := Lib.hid hg4; clear hown4 hg4 hat4)
                    go_roundw
                    case rel => exact ⟨o ++ [⟨1, 0, r.extract 2 (2 + (r[1]'(by omega)).toNat)⟩], r.extract (2 + (r[1]'(by omega)).toNat) r.size, rfl, by rw [ByteArray.size_extract]; omega, by rw [List.length_append, HXO.out, labV_snoc]; exact HO4.out, HLT.out, grown_join (grown_alloc HG.out _) HG4.out (.inr fun y hy => (HO.out.lt y hy).1)⟩
                    case measure => simp [strOf]; omega
                  · have HBB := Lib.hid (HBD.out (.inr (by omega)))
                    have a5 : (r.size : Int) - 2 < ((r[1]'(by omega)).toNat : Int) := by omega
                    go_wp2
                    go_ret
                    exact .inl ⟨parts_gone (HBB.out), rfl, grown_join HG0.out HG.out (.inr (by simp))⟩
                · have HBB := Lib.hid (HBD.out (.inl (by omega)))
                  have a4 : (32 : Int) < ((r[1]'(by omega)).toNat : Int) := by omega
                  go_wp2
                  go_ret
                  exact .inl ⟨parts_gone (HBB.out), rfl, grown_join HG0.out HG.out (.inr (by simp))⟩
              · have a3 : decide ((r.size : Int) < 2) = true := by simp; omega
                go_wp2
                go_ret
                exact .inl ⟨parts_gone (by have h1 := HL.out; rw [HCONS.out] at h1; exact h1.bad (by rw [HXO.out]; exact hx4) (fun h => HZ0.out h.1) (.inr (.inl (by rw [HDL.out]; omega)))), rfl, grown_join HG0.out HG.out (.inr (by simp))⟩
            · have HN1 : Hid (r[0]'hr0 ≠ 1) := Lib.hid (by intro e; rw [e] at h1; exact h1 rfl)
              go_wp2
              go_ret
              exact .inl ⟨parts_gone (by have h1 := HL.out; rw [HCONS.out] at h1; exact h1.bad (by rw [HXO.out]; exact hx4) (fun h => HZ0.out h.1) (.inl HN1.out)), rfl, grown_join HG0.out HG.out (.inr (by simp))⟩
      · have hx4' : x = 4 := by omega
        have hcons := data_cons hr0
        have HFU := Lib.hid (show parseL 4 s.data.toList = none from by
          have h1 := HL.out
          rw [hcons] at h1
          exact h1.full (by rw [HXO.out]; exact hx4'))
        have hne : r.toList ≠ [] := by rw [Lib.toList_data, hcons]; simp
        have hne2 : r.toList.isEmpty = false := by
          cases he : r.toList with
          | nil => exact absurd he hne
          | cons _ _ => rfl
        have hne3 : ¬ r.toList = [] := hne
        clear hcons hne
        go_wp2
        go_ret
        exact .inl ⟨parts_gone HFU.out, rfl, grown_join HG0.out HG.out (.inr (by simp))⟩
    · have hr00 : r = noS := noS_of (by rw [Lib.toList_data]; exact List.eq_nil_of_length_eq_zero (by rw [data_size]; omega))
      subst hr00
      have HDN := Lib.hid (show parseL 4 s.data.toList = some o from HL.out.done)
      have hne := noS_list
      have hne2 : noS.toList.isEmpty = true := by rw [noS_list]; rfl
      have hsz0 : noS.size = 0 := rfl
      clear hr0
      by_cases hx0 : x = 0
      · have HOD := Lib.hid (parts_odd (n := n) HDN.out (.inl (List.eq_nil_of_length_eq_zero (by rw [HXO.out]; exact hx0))))
        subst hx0
        go_wp2
        go_ret
        exact .inl ⟨HOD.out, rfl, grown_join HG0.out HG.out (.inr (by simp))⟩
      · have hx00 : ((x : Int) == 0) = false := by simp; exact hx0
        by_cases hnx : n = x
        · have HEV := Lib.hid (parts_left (n := n) HDN.out (fun e => by rw [e] at HXO; exact hx0 HXO.out.symm) (by rw [HXO.out]; exact hnx))
          subst hnx
          obtain ⟨g, rfl, hbg, _, _, _⟩ := own_form HO.out (by omega)
          go_wp2
          go_ret
          exact .inr ⟨o, ⟨g, 0, none⟩, c3, HEV.out, by rw [HXO.out]; rfl, ⟨rfl, by rw [HXO.out]; exact own_lower HO.out (by omega)⟩, grown_join HG0.out HG.out (.inr (by simp))⟩
        · have HOD := Lib.hid (parts_odd (n := n) HDN.out (.inr (by rw [HXO.out]; exact hnx)))
          have d9 : (n != (x : Int)) = true := by simp [hnx]
          clear hnx
          go_wp2
          go_ret
          exact .inl ⟨HOD.out, rfl, grown_join HG0.out HG.out (.inr (by simp))⟩
end Go.Proofs.Ytfemfkiamipipaa
