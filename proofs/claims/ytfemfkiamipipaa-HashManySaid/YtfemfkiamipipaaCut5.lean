/-
  Layer 5: the program's Int, Text, cut: the first part of a tuple's row.
-/
import Derived.Test.YtfemfkiamipipaaSays5
namespace Go.Proofs.Ytfemfkiamipipaa
open Go.ChangeShapes Go.WideShapes Go.ChangeAt Go.RowKit
set_option linter.unusedVariables false

/-! ### plain -/
/-- the first part of a tuple's row, and what is behind it. -/
def cutE : List UInt8 → Option (Lab × List UInt8)
  | [] => none
  | c :: t =>
    if c = 0 ∧ 8 ≤ t.length then some (⟨0, (numB (t.take 8) : Int) - 9223372036854775808, noS⟩, t.drop 8)
    else match t with
      | [] => none
      | m :: r => if c = 1 ∧ m.toNat ≤ 32 ∧ m.toNat ≤ r.length then some (⟨1, 0, txt (r.take m.toNat)⟩, r.drop m.toNat) else none
theorem cut_step (c : UInt8) (t : List UInt8) : cutE (c :: t) = if c = 0 ∧ 8 ≤ t.length then some (⟨0, (numB (t.take 8) : Int) - 9223372036854775808, noS⟩, t.drop 8) else match t with
      | [] => none
      | m :: r => if c = 1 ∧ m.toNat ≤ 32 ∧ m.toNat ≤ r.length then some (⟨1, 0, txt (r.take m.toNat)⟩, r.drop m.toNat) else none := rfl
theorem parse_cut (f : Nat) (l : List UInt8) (h : l ≠ []) : parseL (f + 1) l = match cutE l with | none => none | some p => (parseL f p.2).map (p.1 :: ·) := by
  cases l with
  | nil => exact absurd rfl h
  | cons c t =>
    rw [parse_step, cut_step]
    by_cases h0 : c = 0 ∧ 8 ≤ t.length
    · rw [if_pos h0, if_pos h0]
    · rw [if_neg h0, if_neg h0]
      cases t with
      | nil => rfl
      | cons m r =>
        dsimp only
        by_cases h1 : c = 1 ∧ m.toNat ≤ 32 ∧ m.toNat ≤ r.length
        · rw [if_pos h1, if_pos h1]
        · rw [if_neg h1, if_neg h1]
theorem cut_int {t : List UInt8} (h : 8 ≤ t.length) : cutE (0 :: t) = some (⟨0, (numB (t.take 8) : Int) - 9223372036854775808, noS⟩, t.drop 8) := by
  rw [cut_step, if_pos ⟨rfl, h⟩]
theorem cut_txt {m : UInt8} {r : List UInt8} (h1 : m.toNat ≤ 32) (h2 : m.toNat ≤ r.length) : cutE (1 :: m :: r) = some (⟨1, 0, txt (r.take m.toNat)⟩, r.drop m.toNat) := by
  rw [cut_step, if_neg (by rintro ⟨h, _⟩; exact absurd h (by decide))]; dsimp only; rw [if_pos ⟨rfl, h1, h2⟩]
theorem cut_bad {c : UInt8} {t : List UInt8} (h0 : ¬ (c = 0 ∧ 8 ≤ t.length)) (h : c ≠ 1 ∨ t.length < 1 ∨ ∃ m r, t = m :: r ∧ (32 < m.toNat ∨ r.length < m.toNat)) : cutE (c :: t) = none := by
  rw [cut_step, if_neg h0]
  cases t with
  | nil => rfl
  | cons m r =>
    dsimp only
    rw [if_neg ?_]
    rintro ⟨h1, h2, h3⟩
    rcases h with h | h | ⟨m', r', e, h⟩
    · exact h h1
    · simp at h
    · injection e with e1 e2
      subst e1; subst e2
      omega
theorem cut_less {l r : List UInt8} {a : Lab} (h : cutE l = some (a, r)) : r.length + 2 ≤ l.length := by
  unfold cutE at h
  split at h
  · cases h
  · next c t =>
    by_cases h0 : c = 0 ∧ 8 ≤ t.length
    · rw [if_pos h0] at h
      injection h with h; injection h with h1 h2
      rw [← h2, List.length_drop, List.length_cons]; omega
    · rw [if_neg h0] at h
      split at h
      · cases h
      · next m q =>
        split at h
        · injection h with h; injection h with h1 h2
          rw [← h2, List.length_drop, List.length_cons, List.length_cons]; omega
        · cases h
theorem cut_plain {l r : List UInt8} {a : Lab} (h : cutE l = some (a, r)) : plainL a := by
  unfold cutE at h
  split at h
  · cases h
  · next c t =>
    by_cases h0 : c = 0 ∧ 8 ≤ t.length
    · rw [if_pos h0] at h
      injection h with h; injection h with h1 h2
      have hb := numB_lt (t.take 8)
      have hl : (t.take 8).length = 8 := by rw [List.length_take]; omega
      have e8 : (256 : Nat) ^ 8 = 18446744073709551616 := by decide
      rw [hl, e8] at hb
      rw [← h1]
      exact .inl ⟨rfl, rfl, by show -9223372036854775808 ≤ (numB (t.take 8) : Int) - 9223372036854775808; omega, by show (numB (t.take 8) : Int) - 9223372036854775808 < 9223372036854775808; omega⟩
    · rw [if_neg h0] at h
      split at h
      · cases h
      · next m q =>
        split at h
        · next hc =>
          injection h with h; injection h with h1 h2
          rw [← h1]
          exact .inr ⟨rfl, rfl, by show (txt (q.take m.toNat)).size ≤ 32; rw [txt_size, List.length_take]; omega⟩
        · cases h
/-- what cut answers. -/
def cutV (o : Option (Lab × List UInt8)) : Value := match o with
  | some (a, r) => .tuple #[labO a, .string (txt r), .bool true]
  | none => .tuple #[labO noLab, .string noS, .bool false]

/-! ### walks -/
theorem ownInt_any (n : Int) (w : World) : Calls Try.prog 25 #[.int .i64 n] w fun e w' => e = .returned (.agg #[.int .u8 0, .int .i64 n, .string noS]) ∧ w' = w.alloc (.cells #[.int .u8 0, .int .i64 n, .string noS] 38) := by
  go_enter Try.func25, Try.ntmps25
  go_wp2
  exact bodyPost_ret (v := .agg #[.int .u8 0, .int .i64 n, .string noS]) (by simp [results, Try.results25, go_sem]; rfl) rfl ⟨rfl, rfl⟩
theorem ownText_any (s : ByteArray) (w : World) : Calls Try.prog 42 #[.string s] w fun e w' => e = .returned (.agg #[.int .u8 1, .int .i64 0, .string s]) ∧ w' = w.alloc (.cells #[.int .u8 1, .int .i64 0, .string s] 38) := by
  go_enter Try.func42, Try.ntmps42
  go_wp2
  exact bodyPost_ret (v := .agg #[.int .u8 1, .int .i64 0, .string s]) (by simp [results, Try.results42, go_sem]) rfl ⟨rfl, rfl⟩

theorem or_byte {u : Nat} (b : UInt8) (h : u ≤ 72057594037927935) : bits .or .u64 ((u : Int) * 256) (IntKind.u64.wrap (b.toNat : Int)) = ((u * 256 + b.toNat : Nat) : Int) := by
  have hb := b.toNat_lt
  have e1 : IntKind.u64.wrap (b.toNat : Int) = (b.toNat : Int) := by rw [IntKind.wrap_u64]; omega
  have e2 := bits_or_u64_nat (u * 256) b.toNat (by omega) (by omega)
  have e3 := Nat.two_pow_add_eq_or_of_lt (i := 8) (b := b.toNat) (by omega) u
  rw [e1, show ((u : Int) * 256) = ((u * 256 : Nat) : Int) by omega, e2]
  rw [show (2 : Nat) ^ 8 = 256 by decide, Nat.mul_comm 256 u] at e3
  rw [← e3]
theorem cutG_eq {o : Option (Lab × List UInt8)} {v : Value} {w w' : World} (h : cutV o = v) (hg : w.grownBy w' none) : ToldG (cutV o) w (.returned v) w' := ⟨by rw [h], hg⟩
theorem cutV_none {o : Option (Lab × List UInt8)} (h : o = none) : cutV o = .tuple #[.agg #[.int .u8 0, .int .i64 0, .string ⟨#[]⟩], .string ⟨#[]⟩, .bool false] := by subst h; rfl
theorem cutV_some {o : Option (Lab × List UInt8)} {k n : Int} {s r : ByteArray} (h : o = some (⟨k, n, s⟩, r.data.toList)) : cutV o = .tuple #[.agg #[.int .u8 k, .int .i64 n, .string s], .string r, .bool true] := by
  subst h
  show Value.tuple #[labO ⟨k, n, s⟩, .string (txt r.data.toList), .bool true] = _
  rw [txt_of]; rfl
set_option maxRecDepth 100000 in
set_option maxHeartbeats 4000000 in
theorem ownCut_any (s : ByteArray) (w : World) (hs : s.size ≤ 1048576) : Calls Try.prog 41 #[.string s] w (ToldG (cutV (cutE s.data.toList)) w) := by
  by_cases hr0 : 0 < s.size
  · have hcons := data_cons hr0
    have hdl := data_size s
    by_cases hz : (s[0]'hr0).toNat = 0
    · have hzero : s[0]'hr0 = 0 := UInt8.toNat_inj.1 hz
      by_cases h9 : 9 ≤ s.size
      · have a2 : decide ((9 : Int) ≤ (s.size : Int)) = true := by simp; omega
        have HV := Lib.hid (show cutV (cutE s.data.toList) = .tuple #[.agg #[.int .u8 0, .int .i64 ((numB ((s.data.toList.drop 1).take 8) : Int) - 9223372036854775808), .string noS], .string (s.extract 9 s.size), .bool true] from cutV_some (by
          have e : s.data.toList = 0 :: s.data.toList.drop 1 := by rw [hzero] at hcons; exact hcons
          rw [Lib.extract_to_end]
          have h1 := cut_int (t := s.data.toList.drop 1) (by rw [List.length_drop]; omega)
          rw [← e, List.drop_drop] at h1
          exact h1))
        have HT := Lib.hid (fun j (hj : 1 + j < s.size) => show (s.data.toList.drop 1).take (j + 1) = (s.data.toList.drop 1).take j ++ [s[1 + j]] from by
          rw [List.take_add_one, List.getElem?_drop, data_at hj]; rfl)
        have HNB := Lib.hid (fun j (hj : j ≤ 8) => show numB ((s.data.toList.drop 1).take j) < 256 ^ j from by
          have h1 := numB_lt ((s.data.toList.drop 1).take j)
          rw [List.length_take, List.length_drop, hdl, Nat.min_eq_left (by omega)] at h1
          exact h1)
        clear hcons hzero hdl
        go_enter Try.func41, Try.ntmps41
        go_wp2
        go_loop [5, 6, 17] (fun v5 v6 v17 => ∃ j : Nat, j ≤ 8 ∧ v17 = .int .i64 (j : Int) ∧ v5 = .int .u64 ((numB ((s.data.toList.drop 1).take j) : Nat) : Int)) (fun _ _ v17 => 8 - (intOf v17).toNat)
        case atStart => exact ⟨0, by omega, rfl, rfl⟩
        case round =>
          obtain ⟨j, hj, rfl, rfl⟩ := hrel
          have hb := HNB.out j hj
          by_cases hj8 : j < 8
          · have hb2 : numB ((s.data.toList.drop 1).take j) ≤ 72057594037927935 := by
              have : 256 ^ j ≤ 256 ^ 7 := Nat.pow_le_pow_right (by omega) (by omega)
              have e7 : (256 : Nat) ^ 7 = 72057594037927936 := by decide
              omega
            have HTJ := Lib.hid (HT.out j (by omega))
            have hnx : numB ((s.data.toList.drop 1).take (j + 1)) = numB ((s.data.toList.drop 1).take j) * 256 + (s[1 + j]'(by omega)).toNat := by rw [HTJ.out, numB_snoc]
            have HNX := Lib.hid hnx
            have hor := or_byte (s[1 + j]'(by omega)) hb2
            clear hb hnx HTJ
            generalize numB ((s.data.toList.drop 1).take j) = u at *
            have i1 : (0 : Int) ≤ ((j + 1 : Nat) : Int) := by omega
            have i2 : (j : Int) + 1 < (s.size : Int) := by omega
            go_wp2
            go_round
            case rel => exact ⟨j + 1, by omega, by go_num, by rw [HNX.out]; go_num⟩
            case measure => simp [intOf]; omega
          · obtain rfl : j = 8 := by omega
            have hb2 : numB ((s.data.toList.drop 1).take 8) < 18446744073709551616 := by
              have e7 : (256 : Nat) ^ 8 = 18446744073709551616 := by decide
              omega
            clear hb
            generalize numB ((s.data.toList.drop 1).take 8) = u at *
            have ht := turned_back hb2
            go_upto_region 8 with fail
            go_region_with (go_at_call 25; refine (ownInt_any _ _).mono ?_; rintro e w2 ⟨rfl, rfl⟩)
            all_goals go_wp2
            all_goals exact bodyPost_ret (v := .tuple #[.agg #[.int .u8 0, .int .i64 ((u : Int) - 9223372036854775808), .string noS], .string (s.extract 9 s.size), .bool true]) (by simp [results, Try.results41, go_sem]) rfl (cutG_eq HV.out (grown_drew (grown_alloc (World.grownBy_alloc w _ none) _)))
      · have a2 : decide ((9 : Int) ≤ (s.size : Int)) = false := by simp; omega
        have HV := Lib.hid (cutV_none (o := cutE s.data.toList) (by rw [hcons]; exact cut_bad (by rintro ⟨_, h2⟩; rw [List.length_drop] at h2; omega) (.inl (by rw [hzero]; decide))))
        clear hcons hzero hdl
        go_enter Try.func41, Try.ntmps41
        go_wp2
        all_goals exact bodyPost_ret (v := .tuple #[.agg #[.int .u8 0, .int .i64 0, .string ⟨#[]⟩], .string ⟨#[]⟩, .bool false]) (by simp [results, Try.results41, go_sem]) rfl (cutG_eq HV.out (World.grownBy_alloc w _ none))
    · have hnz : s[0]'hr0 ≠ 0 := by intro e; rw [e] at hz; exact hz rfl
      by_cases h1 : (s[0]'hr0).toNat = 1
      · have hone : s[0]'hr0 = 1 := UInt8.toNat_inj.1 h1
        by_cases h2 : 2 ≤ s.size
        · have hs1 : 1 < s.size := by omega
          have a3 : decide ((2 : Int) ≤ (s.size : Int)) = true := by simp; omega
          have HC2 := Lib.hid (data_cons2 (r := s) hs1)
          have HD2 := Lib.hid (show (s.data.toList.drop 2).length = s.size - 2 by rw [List.length_drop, data_size])
          have hm256 := (s[1]'hs1).toNat_lt
          have HBD := Lib.hid (fun (h : 32 < (s[1]'hs1).toNat ∨ (s.data.toList.drop 2).length < (s[1]'hs1).toNat) => cutV_none (o := cutE s.data.toList) (by
            rw [HC2.out]
            exact cut_bad (fun h5 => hnz h5.1) (.inr (.inr ⟨_, _, rfl, h⟩))))
          rw [HD2.out] at HBD
          by_cases h32 : (s[1]'hs1).toNat ≤ 32
          · have a4 : (((s[1]'hs1).toNat : Nat) : Int) ≤ 32 := by omega
            by_cases hfit : (s[1]'hs1).toNat ≤ s.size - 2
            · have HV := Lib.hid (show cutV (cutE s.data.toList) = .tuple #[.agg #[.int .u8 1, .int .i64 0, .string (s.extract 2 (2 + (s[1]'hs1).toNat))], .string (s.extract (2 + (s[1]'hs1).toNat) s.size), .bool true] from cutV_some (by
                have h4 := cut_txt (m := s[1]'hs1) (r := s.data.toList.drop 2) h32 (by rw [HD2.out]; exact hfit)
                rw [← hone, ← HC2.out] at h4
                rw [Lib.extract_to_end]
                have e1 : txt ((s.data.toList.drop 2).take (s[1]'hs1).toNat) = s.extract 2 (2 + (s[1]'hs1).toNat) := by
                  rw [← txt_of (s.extract 2 (2 + (s[1]'hs1).toNat)), Lib.extract_data, Nat.add_sub_cancel_left]
                rw [e1, List.drop_drop] at h4
                exact h4))
              have hm2 : 2 + (s[1]'hs1).toNat ≤ s.size := by omega
              have e9 : ((2 : Int) + ((s[1]'hs1).toNat : Int)).toNat = 2 + (s[1]'hs1).toNat := by omega
              clear hcons HBD HC2 HD2 hdl
              go_enter Try.func41, Try.ntmps41
              go_upto_region 12 with fail
              all_goals go_region_with (go_at_call 42; refine (ownText_any _ _).mono ?_; rintro e w2 ⟨rfl, rfl⟩)
              all_goals go_wp2
              all_goals exact bodyPost_ret (v := .tuple #[.agg #[.int .u8 1, .int .i64 0, .string (s.extract 2 (2 + (s[1]'hs1).toNat))], .string (s.extract (2 + (s[1]'hs1).toNat) s.size), .bool true]) (by simp [results, Try.results41, go_sem]) rfl (cutG_eq HV.out (grown_drew (grown_alloc (World.grownBy_alloc w _ none) _)))
            · have HV := Lib.hid (HBD.out (.inr (by omega)))
              have a5 : (s.size : Int) < 2 + ((s[1]'hs1).toNat : Int) := by omega
              clear hcons HBD HC2 HD2 hdl
              go_enter Try.func41, Try.ntmps41
              go_wp2
              all_goals exact bodyPost_ret (v := .tuple #[.agg #[.int .u8 0, .int .i64 0, .string ⟨#[]⟩], .string ⟨#[]⟩, .bool false]) (by simp [results, Try.results41, go_sem]) rfl (cutG_eq HV.out (World.grownBy_alloc w _ none))
          · have HV := Lib.hid (HBD.out (.inl (by omega)))
            have a5 : (34 : Int) < 2 + ((s[1]'hs1).toNat : Int) := by omega
            clear hcons HBD HC2 HD2 hdl
            go_enter Try.func41, Try.ntmps41
            go_wp2
            all_goals exact bodyPost_ret (v := .tuple #[.agg #[.int .u8 0, .int .i64 0, .string ⟨#[]⟩], .string ⟨#[]⟩, .bool false]) (by simp [results, Try.results41, go_sem]) rfl (cutG_eq HV.out (World.grownBy_alloc w _ none))
        · have a3 : decide ((2 : Int) ≤ (s.size : Int)) = false := by simp; omega
          have HV := Lib.hid (cutV_none (o := cutE s.data.toList) (by rw [hcons]; exact cut_bad (fun h5 => hnz h5.1) (.inr (.inl (by rw [List.length_drop]; omega)))))
          clear hcons hdl
          go_enter Try.func41, Try.ntmps41
          go_wp2
          all_goals exact bodyPost_ret (v := .tuple #[.agg #[.int .u8 0, .int .i64 0, .string ⟨#[]⟩], .string ⟨#[]⟩, .bool false]) (by simp [results, Try.results41, go_sem]) rfl (cutG_eq HV.out (World.grownBy_alloc w _ none))
      · have HV := Lib.hid (cutV_none (o := cutE s.data.toList) (by rw [hcons]; exact cut_bad (fun h5 => hnz h5.1) (.inl (by intro e; rw [e] at h1; exact h1 rfl))))
        clear hcons hdl
        go_enter Try.func41, Try.ntmps41
        go_wp2
        all_goals exact bodyPost_ret (v := .tuple #[.agg #[.int .u8 0, .int .i64 0, .string ⟨#[]⟩], .string ⟨#[]⟩, .bool false]) (by simp [results, Try.results41, go_sem]) rfl (cutG_eq HV.out (World.grownBy_alloc w _ none))
  · have HV := Lib.hid (cutV_none (o := cutE s.data.toList) (by rw [List.eq_nil_of_length_eq_zero (l := s.data.toList) (by rw [data_size]; omega)]; rfl))
    have a1 : decide ((9 : Int) ≤ (s.size : Int)) = false := by simp; omega
    have a2 : decide ((2 : Int) ≤ (s.size : Int)) = false := by simp; omega
    go_enter Try.func41, Try.ntmps41
    go_wp2
    all_goals exact bodyPost_ret (v := .tuple #[.agg #[.int .u8 0, .int .i64 0, .string ⟨#[]⟩], .string ⟨#[]⟩, .bool false]) (by simp [results, Try.results41, go_sem]) rfl (cutG_eq HV.out (World.grownBy_alloc w _ none))
end Go.Proofs.Ytfemfkiamipipaa
