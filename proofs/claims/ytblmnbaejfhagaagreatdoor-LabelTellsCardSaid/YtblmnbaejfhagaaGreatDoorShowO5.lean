/-
  Layer 5: the program's showPart: a number or a text as a text.
-/
import Derived.Test.YtblmnbaejfhagaaGreatDoorTupO5
namespace Go.Proofs.YtblmnbaejfhagaaGreatDoor
open Go.ChangeShapes Go.WideShapes Go.ChangeAt Go.RowKit
set_option linter.unusedVariables false

theorem showPart_int (n : Int) (w : World) (h1 : -9223372036854775808 ≤ n) (h2 : n < 9223372036854775808) (hv : Vars w) : Calls Tryz.prog 31 #[.agg #[.int .u8 0, .int .i64 n, .string noS]] w (ToldG (.string (txt (intL n))) w) := by
  have HG := Lib.hid (World.grownBy_alloc w (.cells #[.int .u8 0, .int .i64 n, .string noS] 27) none)
  have HF := Lib.hid (libFormat_any n (w.alloc (.cells #[.int .u8 0, .int .i64 n, .string noS] 27)) h1 h2 (hv.grow HG.out))
  clear hv
  go_enter Tryz.func31, Tryz.ntmps31
  go_wp2_with fail
  refine HF.out.mono ?_
  rintro e w2 ⟨rfl, hg⟩
  have HG2 := Lib.hid (grown_join HG.out hg (.inr (by simp)))
  clear hg
  go_wp2_with fail
  go_ret
  exact ⟨rfl, HG2.out⟩
theorem escL_snoc (l : List UInt8) (b : UInt8) : escL (l ++ [b]) = escL l ++ escB b := by simp [escL]
theorem take_next {s : ByteArray} {x : Nat} (h : x < s.size) : s.data.toList.take (x + 1) = s.data.toList.take x ++ [s[x]] := by
  rw [List.take_add_one, data_at h]; rfl
theorem two_one (a b : Int) : ∀ u ∈ [Value.int .u8 a, .int .u8 b], u.oneCell' = true := by
  intro u hu
  simp at hu
  rcases hu with rfl | rfl <;> rfl
theorem new_cells2 (w : World) (u v : Value) (t : TypeId) : ∀ j y, [u, v][j]? = some y → (w.alloc (.cells #[u, v] t)).cell? ((⟨w.heap.size, 0, none⟩ : Addr).add j) = some y := by
  intro j y hx
  match j, hx with
  | 0, hx => rw [Addr.add_lit, cell_of_row _ _ _ _ _ _ (heap_alloc_new w _)]; exact hx
  | 1, hx => rw [Addr.add_lit, cell_of_row _ _ _ _ _ _ (heap_alloc_new w _)]; exact hx
/-- what the loop over a text's bytes carries: the row so far, the text's box. -/
def Quoted (w : World) (s : ByteArray) (x : Nat) (v : Value) (wr : World) : Prop := wr.ownsRow w.heap.size 5 1 v (39 :: escL (s.data.toList.take x)).length (byteV (39 :: escL (s.data.toList.take x))) ∧ Box wr w.heap.size 27 #[.int .u8 1, .int .i64 0, .string s] ∧ Below w.heap.size w wr
theorem Quoted.next {w wr w1 w2 : World} {s : ByteArray} {x : Nat} {v v2 : Value} {news : List UInt8} {o : Obj} (h : Quoted w s x v wr) (hx : x < s.size) (hb : escB (s[x]) = news) (hw : w1 = wr.alloc o)
    (ho : w2.ownsRow w.heap.size 5 1 v2 ((39 :: escL (s.data.toList.take x)).length + news.length) (byteV (39 :: escL (s.data.toList.take x)) ++ byteV news)) (hg : w1.grownBy w2 v.ownBlock) : Quoted w s (x + 1) v2 w2 := by
  obtain ⟨h1, h2, h3⟩ := h
  subst hw
  have e : 39 :: escL (s.data.toList.take (x + 1)) = (39 :: escL (s.data.toList.take x)) ++ news := by rw [take_next hx, escL_snoc, hb]; rfl
  refine ⟨?_, box_past (h2.alloc o) (h1.alloc o) (by decide) hg, h3.trans ((below_alloc h3.size o).trans (below_past (h1.alloc o) (Nat.le_trans h3.size (by simp)) hg))⟩
  rw [e, List.length_append, byteV_append]
  exact ho
/-- a row of the call's own as a text. -/
theorem own_text {w : World} {B n c r : Nat} {l : List UInt8} (hn : l.length = n) (h : w.ownsRow B 5 1 (.slice (some ⟨r, 0, none⟩) n c) n (byteV l)) : (convert 48 9 (.slice (some ⟨r, 0, none⟩) n c)).run Tryz.prog w = .ok (.string (txt l)) w := by
  have h1 := run_convert_bytes_back (P := Tryz.prog) w 48 9 5 ⟨r, 0, none⟩ c l Tryz.underlying48 Tryz.underlying5 Tryz.underlying9 (fun k hk => by
    have h2 := h.cellAt k (by omega)
    rw [Addr.add_lit, Nat.zero_add, h2]
    unfold byteV
    rw [List.getElem?_map, List.getElem?_eq_getElem hk]
    rfl)
  rw [hn] at h1
  exact h1
set_option maxRecDepth 100000 in
set_option maxHeartbeats 4000000 in
theorem showPart_text (s : ByteArray) (w : World) (hs : s.size ≤ 32) : Calls Tryz.prog 31 #[.agg #[.int .u8 1, .int .i64 0, .string s]] w (ToldG (.string (txt (39 :: (escL s.data.toList ++ [39])))) w) := by
  have HIN := Lib.hid (info_parts info_pu8)
  obtain ⟨w1, hw1⟩ : ∃ w1, w1 = w.alloc (.cells #[.int .u8 1, .int .i64 0, .string s] 27) := ⟨_, rfl⟩
  have HW1 := Lib.hid hw1
  have HBX := Lib.hid (show Box w1 w.heap.size 27 #[.int .u8 1, .int .i64 0, .string s] by rw [hw1]; exact Box.fresh w _ _)
  have HBL := Lib.hid (show Below w.heap.size w w1 by rw [hw1]; exact below_alloc (Nat.le_refl _) _)
  clear hw1
  obtain ⟨q0, q1, q2⟩ := cells3 HBX.out
  go_enter Tryz.func31, Tryz.ntmps31
  go_upto_region 1 with fail
  rw [← HW1.out]
  go_upto_region 4 with fail
  have HQ0 : Hid (Quoted w s 0 (.slice (some ⟨w1.heap.size, 0, none⟩) 1 1) (w1.alloc (.cells #[.int .u8 39] 5))) := Lib.hid ⟨World.ownsRow_lit w1 #[.int .u8 39] 1 HBL.out.size (by unfold maxLen; omega) rfl, HBX.out.alloc _, HBL.out.trans (below_alloc HBL.out.size _)⟩
  obtain ⟨w2, hw2⟩ : ∃ w2, w2 = w1.alloc (.cells #[.int .u8 39] 5) := ⟨_, rfl⟩
  rw [← hw2]
  rw [← hw2] at HQ0
  clear hw2 q0 q1 q2
  obtain ⟨q0, q1, q2⟩ := cells3 HQ0.out.2.1
  go_wp2_with fail
  go_loopw [3, 16] (fun v3 v16 wr => ∃ x : Nat, x ≤ s.size ∧ v16 = .int .i64 (x : Int) ∧ Quoted w s x v3 wr) (fun _ v16 _ => s.size - (intOf v16).toNat)
  case atStart => exact ⟨0, by omega, rfl, HQ0.out⟩
  case round =>
    obtain ⟨x, hx, rfl, hq⟩ := hrel
    have HQ := Lib.hid hq
    obtain ⟨A3, c3, hv3⟩ := own_slice3 hq.1
    subst hv3
    clear hq q0 q1 q2
    obtain ⟨q0, q1, q2⟩ := cells3 HQ.out.2.1
    have hel : (39 :: escL (s.data.toList.take x)).length ≤ 65 := by
      have h1 := escL_length (s.data.toList.take x)
      rw [List.length_take] at h1
      rw [List.length_cons]; omega
    have HSZ := Lib.hid (show w.heap.size ≤ wr.heap.size from HQ.out.2.2.size)
    generalize hm : (39 :: escL (s.data.toList.take x)).length = m at *
    have HM := Lib.hid hm
    have HOW := Lib.hid (show wr.ownsRow w.heap.size 5 1 (.slice A3 m c3) m (byteV (39 :: escL (s.data.toList.take x))) by have h := HQ.out.1; rw [hm] at h; exact h)
    clear hm
    by_cases hlt : x < s.size
    · have i1 : (0 : Int) ≤ (x : Int) := by omega
      have i2 : (x : Int) < (s.size : Int) := by omega
      have hbt := (s[x]'hlt).toNat_lt
      by_cases h92 : (s[x]'hlt).toNat = 92
      · have HB : Hid (escB (s[x]'hlt) = [92, s[x]'hlt]) := Lib.hid (by unfold escB; rw [if_pos (.inr (UInt8.toNat_inj.1 h92))])
        go_wp2_with (at_builtin; obtain ⟨i0, hi, hz0, hz1, hz2⟩ := HIN.out; refine wpList_append_own_at _ rfl (.tmp 31) (.tmp 33) _ rfl w.heap.size 5 i0 _ 1 1 Tryz.underlying48 hi hz0 hz1 hz2 rfl (by omega) (.slice A3 m c3) m _ rfl (HOW.out.alloc _) ⟨_, 0, none⟩ 2 2 [.int .u8 92, .int .u8 92] rfl rfl (new_cells2 _ _ _ _) (two_one _ _) (by simp only [maxLen]; omega) (by omega) (by have := HSZ.out; simp; omega) ?_; intro v4 w4 hown4 hg4 _ _; have HO4 := Lib.hid hown4; have HG4 := Lib.hid hg4; clear hown4 hg4 hi hz0 hz1 hz2)
        go_roundw
        case rel => exact ⟨x + 1, by omega, by go_num, HQ.out.next hlt HB.out rfl (by
          rw [HM.out]
          have h1 := HO4.out
          have e : byteV [92, s[x]'hlt] = [.int .u8 92, .int .u8 92] := by simp [byteV, h92]
          rw [e]; exact h1) HG4.out⟩
        case measure => simp [intOf]; omega
      · by_cases h39 : (s[x]'hlt).toNat = 39
        · have HB : Hid (escB (s[x]'hlt) = [92, s[x]'hlt]) := Lib.hid (by unfold escB; rw [if_pos (.inl (UInt8.toNat_inj.1 h39))])
          go_wp2_with (at_builtin; obtain ⟨i0, hi, hz0, hz1, hz2⟩ := HIN.out; refine wpList_append_own_at _ rfl (.tmp 31) (.tmp 33) _ rfl w.heap.size 5 i0 _ 1 1 Tryz.underlying48 hi hz0 hz1 hz2 rfl (by omega) (.slice A3 m c3) m _ rfl (HOW.out.alloc _) ⟨_, 0, none⟩ 2 2 [.int .u8 92, .int .u8 39] rfl rfl (new_cells2 _ _ _ _) (two_one _ _) (by simp only [maxLen]; omega) (by omega) (by have := HSZ.out; simp; omega) ?_; intro v4 w4 hown4 hg4 _ _; have HO4 := Lib.hid hown4; have HG4 := Lib.hid hg4; clear hown4 hg4 hi hz0 hz1 hz2)
          go_roundw
          case rel => exact ⟨x + 1, by omega, by go_num, HQ.out.next hlt HB.out rfl (by
            rw [HM.out]
            have h1 := HO4.out
            have e : byteV [92, s[x]'hlt] = [.int .u8 92, .int .u8 39] := by simp [byteV, h39]
            rw [e]; exact h1) HG4.out⟩
          case measure => simp [intOf]; omega
        · by_cases h10 : (s[x]'hlt).toNat = 10
          · have HB : Hid (escB (s[x]'hlt) = [92, 110]) := Lib.hid (by unfold escB; rw [if_neg (by rintro (h | h); exact h39 (by rw [h]; rfl); exact h92 (by rw [h]; rfl)), if_pos (UInt8.toNat_inj.1 h10)])
            go_wp2_with (at_builtin; obtain ⟨i0, hi, hz0, hz1, hz2⟩ := HIN.out; refine wpList_append_own_at _ rfl (.tmp 37) (.tmp 38) _ rfl w.heap.size 5 i0 _ 1 1 Tryz.underlying48 hi hz0 hz1 hz2 rfl (by omega) (.slice A3 m c3) m _ rfl (HOW.out.alloc _) ⟨_, 0, none⟩ 2 2 [.int .u8 92, .int .u8 110] rfl rfl (new_cells2 _ _ _ _) (two_one _ _) (by simp only [maxLen]; omega) (by omega) (by have := HSZ.out; simp; omega) ?_; intro v4 w4 hown4 hg4 _ _; have HO4 := Lib.hid hown4; have HG4 := Lib.hid hg4; clear hown4 hg4 hi hz0 hz1 hz2)
            go_roundw
            case rel => exact ⟨x + 1, by omega, by go_num, HQ.out.next hlt HB.out rfl (by
              rw [HM.out]
              exact HO4.out) HG4.out⟩
            case measure => simp [intOf]; omega
          · have HB : Hid (escB (s[x]'hlt) = [s[x]'hlt]) := Lib.hid (by unfold escB; rw [if_neg (by rintro (h | h); exact h39 (by rw [h]; rfl); exact h92 (by rw [h]; rfl)), if_neg (by intro h; exact h10 (by rw [h]; rfl))])
            go_wp2_with (at_builtin; obtain ⟨i0, hi, hz0, hz1, hz2⟩ := HIN.out; refine wpList_append_own_at _ rfl (.tmp 24) (.tmp 26) _ rfl w.heap.size 5 i0 _ 1 1 Tryz.underlying48 hi hz0 hz1 hz2 rfl (by omega) (.slice A3 m c3) m _ rfl (HOW.out.alloc _) ⟨_, 0, none⟩ 1 1 [.int .u8 ((s[x]'hlt).toNat : Int)] rfl rfl (cell_one_new _ _ _) (by intro y hy; simp at hy; subst hy; rfl) (by simp only [maxLen]; omega) (by omega) (by have := HSZ.out; simp; omega) ?_; intro v4 w4 hown4 hg4 _ _; have HO4 := Lib.hid hown4; have HG4 := Lib.hid hg4; clear hown4 hg4 hi hz0 hz1 hz2)
            go_roundw
            case rel => exact ⟨x + 1, by omega, by go_num, HQ.out.next hlt HB.out rfl (by
              rw [HM.out]
              exact HO4.out) HG4.out⟩
            case measure => simp [intOf]; omega
    · obtain rfl : x = s.size := by omega
      have HTK := Lib.hid (show s.data.toList.take s.size = s.data.toList by rw [← data_size, List.take_length])
      rw [HTK.out] at HOW HM
      go_upto_region 16 with fail
      go_wp2_with (at_builtin; obtain ⟨i0, hi, hz0, hz1, hz2⟩ := HIN.out; refine wpList_append_own_at _ rfl (.tmp 41) (.tmp 42) _ rfl w.heap.size 5 i0 _ 1 1 Tryz.underlying48 hi hz0 hz1 hz2 rfl (by omega) (.slice A3 m c3) m _ rfl (HOW.out.alloc _) ⟨_, 0, none⟩ 1 1 [.int .u8 39] rfl rfl (cell_one_new _ _ _) (by intro y hy; simp at hy; subst hy; rfl) (by simp only [maxLen]; omega) (by omega) (by have := HSZ.out; simp; omega) ?_; intro v4 w4 hown4 hg4 _ _; have HO4 := Lib.hid hown4; have HG4 := Lib.hid hg4; clear hown4 hg4 hi hz0 hz1 hz2; obtain ⟨A4, c4, hv4⟩ := own_slice3 HO4.out; subst hv4; obtain ⟨r, hr, _, _, _, _⟩ := own_form HO4.out (Nat.succ_pos _); subst hr; have hcv := own_text (n := m + 1) (l := 39 :: (escL s.data.toList ++ [39])) (by have h := HM.out; simp at h ⊢; omega) (by rw [← List.cons_append, byteV_append]; exact HO4.out))
      go_ret
      exact ⟨rfl, grown_of_below (HQ.out.2.2.trans ((below_alloc HSZ.out _).trans (below_past (HOW.out.alloc _) (Nat.le_trans HSZ.out (by simp)) HG4.out)))⟩
/-- a right label that is no tuple, as a text. -/
theorem showPart_any (a : Lab) (w : World) (h : plainL a) (hv : Vars w) : Calls Tryz.prog 31 #[.agg #[.int .u8 a.k, .int .i64 a.n, .string a.s]] w (ToldG (.string (txt (showP a))) w) := by
  obtain ⟨k, n, s⟩ := a
  rcases h with ⟨h1, h2, h3, h4⟩ | ⟨h1, h2, h3⟩
  · obtain rfl : k = 0 := h1
    obtain rfl : s = noS := h2
    have e : showP ⟨0, n, noS⟩ = intL n := by unfold showP; rw [if_neg (show ¬ (0 : Int) = 1 by decide)]
    rw [e]
    exact showPart_int n w h3 h4 hv
  · obtain rfl : k = 1 := h1
    obtain rfl : n = 0 := h2
    exact showPart_text s w h3
end Go.Proofs.YtblmnbaejfhagaaGreatDoor
