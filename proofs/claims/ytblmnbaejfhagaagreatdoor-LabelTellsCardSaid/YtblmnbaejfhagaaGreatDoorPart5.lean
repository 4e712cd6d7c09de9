/-
  Layer 5: the reference's part: a part's bytes.
-/
import Derived.Test.YtblmnbaejfhagaaGreatDoorUniq5
import Derived.Laws.IdiomStrings
import Derived.Laws.Concat
namespace Go.Proofs.YtblmnbaejfhagaaGreatDoor
open Go.ChangeShapes Go.WideShapes Go.ChangeAt Go.RowKit
set_option linter.unusedVariables false

/-- the first j bytes of a number, the highest first. -/
def topB (u j : Nat) : List UInt8 := (List.range j).map fun t => UInt8.ofNat (u / 256 ^ (7 - t) % 256)
theorem topB_zero (u : Nat) : topB u 0 = [] := rfl
theorem topB_succ (u j : Nat) : topB u (j + 1) = topB u j ++ [UInt8.ofNat (u / 256 ^ (7 - j) % 256)] := by unfold topB; rw [List.range_succ, List.map_append]; rfl
theorem topB_length (u j : Nat) : (topB u j).length = j := by simp [topB]
theorem topB_all (u : Nat) : topB u 8 = bytesB 8 u := by
  simp only [topB, bytesB, List.range, List.range.loop, List.map, List.nil_append, List.cons_append, Nat.div_div_eq_div_mul, Nat.reduceMul, Nat.reduceSub, Nat.reducePow, Nat.div_one]
def byteV (l : List UInt8) : List Value := l.map fun b => .int .u8 (b.toNat : Int)
theorem byteV_length (l : List UInt8) : (byteV l).length = l.length := by simp [byteV]
theorem byteV_snoc (l : List UInt8) (b : UInt8) : byteV (l ++ [b]) = byteV l ++ [.int .u8 (b.toNat : Int)] := by simp [byteV]
theorem info_pu8 : (Tryz.prog.info? 5).map (fun i => (i.zero, i.size, i.bytes)) = some (some (.int .u8 0), 1, 1) := by kernel_rfl
theorem enc_text {n : Int} {s : ByteArray} : encP ⟨1, n, s⟩ = 1 :: UInt8.ofNat s.size :: s.data.toList := by unfold encP; rw [if_pos rfl]
theorem enc_int {n : Int} {s : ByteArray} : encP ⟨0, n, s⟩ = 0 :: bytesB 8 (n + 9223372036854775808).toNat := by unfold encP; rw [if_neg (show ¬ (0 : Int) = 1 by decide)]
set_option maxHeartbeats 1000000 in
theorem ref5part_text (n : Int) (s : ByteArray) (w : World) (hs : s.size ≤ 32) : Calls Tryz.prog 25 #[.agg #[.int .u8 1, .int .i64 n, .string s]] w (ToldG (.string (txt (encP ⟨1, n, s⟩))) w) := by
  have HE := Lib.hid (show txt [1, UInt8.ofNat s.size] ++ s = txt (encP ⟨1, n, s⟩) from by
    rw [enc_text]
    cases s
    apply toList_inj
    simp [txt, Lib.toList_data])
  have hcv0 : ∀ w' : World, (convert 48 9 (.slice (some ⟨w'.heap.size, 0, none⟩) 2 2)).run Tryz.prog (w'.alloc (.cells #[.int .u8 1, .int .u8 (s.size : Int)] 5)) = .ok (.string (txt [1, UInt8.ofNat s.size])) (w'.alloc (.cells #[.int .u8 1, .int .u8 (s.size : Int)] 5)) := fun w' =>
    run_convert_bytes_back _ _ _ _ _ 2 [1, UInt8.ofNat s.size] Tryz.underlying48 Tryz.underlying5 Tryz.underlying9 (fun j hj => by
      have h1 := World.cell?_alloc_mark w' #[.int .u8 1, .int .u8 (s.size : Int)] 5 (0, 0) j
      rw [show (⟨w'.heap.size, 0, none⟩ : Addr).add j = ⟨w'.heap.size, j, none⟩ by rw [Addr.add_lit]; simp, h1]
      match j, hj with
      | 0, _ => rfl
      | 1, _ => show some (Value.int .u8 (s.size : Int)) = some (.int .u8 ((UInt8.ofNat s.size).toNat : Int)); simp; omega)
  have hcv := hcv0 (w.alloc (.cells #[.int .u8 1, .int .i64 n, .string s] 23))
  rw [show (w.alloc (.cells #[.int .u8 1, .int .i64 n, .string s] 23)).heap.size = w.heap.size + 1 by simp] at hcv
  clear hcv0
  have hst : (txt [1, UInt8.ofNat s.size]).size = 2 := txt_size _
  go_enter Tryz.func25, Tryz.ntmps25
  go_wp2
  go_ret
  exact toldG_eq (by rw [← HE.out]; rfl) (grown_alloc (World.grownBy_alloc w _ none) _)
theorem top_number {n : Int} (h1 : -9223372036854775808 ≤ n) (h2 : n < 9223372036854775808) : bits .xor .u64 (IntKind.u64.wrap n) 9223372036854775808 = (((n + 9223372036854775808).toNat : Nat) : Int) := by
  rw [IntKind.wrap_u64]
  obtain ⟨u, hu⟩ : ∃ u : Nat, n % 18446744073709551616 = (u : Int) := ⟨(n % 18446744073709551616).toNat, by omega⟩
  rw [hu, bits_top (by omega)]
  rcases Nat.lt_or_ge u 9223372036854775808 with h | h
  · rw [xor_top h]; omega
  · rw [xor_back h (by omega)]; omega
set_option maxRecDepth 100000 in
set_option maxHeartbeats 2000000 in
theorem ref5part_int (n : Int) (w : World) (h1 : -9223372036854775808 ≤ n) (h2 : n < 9223372036854775808) : Calls Tryz.prog 25 #[.agg #[.int .u8 0, .int .i64 n, .string noS]] w (ToldG (.string (txt (encP ⟨0, n, noS⟩))) w) := by
  obtain ⟨i0, hi, hz0, hz1, hz2⟩ := info_parts info_pu8
  have hx := top_number h1 h2
  have hlt : (n + 9223372036854775808).toNat < 18446744073709551616 := by omega
  have HE := Lib.hid (enc_int (n := n) (s := noS))
  generalize (n + 9223372036854775808).toNat = u at *
  rw [← topB_all] at HE
  have HO0 := Lib.hid (World.ownsRow_lit (base := w.heap.size) (e := 5) (size := 1) (w.alloc (.cells #[.int .u8 0, .int .i64 n, .string noS] 23)) #[.int .u8 0] 1 (by simp) (by unfold maxLen; omega) rfl)
  rw [show (w.alloc (.cells #[.int .u8 0, .int .i64 n, .string noS] 23)).heap.size = w.heap.size + 1 by simp] at HO0
  have HG0 := Lib.hid (grown_alloc (World.grownBy_alloc w (.cells #[.int .u8 0, .int .i64 n, .string noS] 23) none) (.cells #[.int .u8 0] 5))
  have HS0 := Lib.hid (show w.heap.size ≤ ((w.alloc (.cells #[.int .u8 0, .int .i64 n, .string noS] 23)).alloc (.cells #[.int .u8 0] 5)).heap.size by simp; omega)
  obtain ⟨w1, hw1⟩ : ∃ w1, w1 = (w.alloc (.cells #[.int .u8 0, .int .i64 n, .string noS] 23)).alloc (.cells #[.int .u8 0] 5) := ⟨_, rfl⟩
  have HW1 := Lib.hid hw1
  rw [← hw1] at HO0 HG0 HS0
  clear hw1
  go_enter Tryz.func25, Tryz.ntmps25
  go_wp2
  rw [← HW1.out]
  go_loopw [3, 5] (fun v3 v5 wr => ∃ j : Nat, j ≤ 8 ∧ v5 = .int .i64 (7 - (j : Int)) ∧ wr.ownsRow w.heap.size 5 1 v3 (1 + j) (byteV (0 :: topB u j)) ∧ w.grownBy wr none) (fun _ v5 _ => ((intOf v5) + 1).toNat)
  case atStart => exact ⟨0, by omega, rfl, HO0.out, HG0.out⟩
  case round =>
    obtain ⟨j, hj, rfl, ho, hg⟩ := hrel
    have HO := Lib.hid ho
    have HG := Lib.hid hg
    obtain ⟨A3, c3, hv3⟩ := own_slice3 ho
    subst hv3
    clear ho hg
    by_cases hj8 : j < 8
    · have hb : ((u : Int) / 2 ^ (8 * (7 - j)) % 256) = ((UInt8.ofNat (u / 256 ^ (7 - j) % 256)).toNat : Int) := by
        rw [show (u : Int) / 2 ^ (8 * (7 - j)) = ((u / 2 ^ (8 * (7 - j)) : Nat) : Int) by simp, Nat.pow_mul, show (2 : Nat) ^ 8 = 256 by decide]
        simp
      have HB := Lib.hid hb
      clear hb
      go_wp2_with (at_builtin; refine wpList_append_own_at _ rfl (.tmp 27) (.tmp 33) _ rfl w.heap.size 5 i0 _ 1 1 Tryz.underlying48 hi hz0 hz1 hz2 rfl (by omega) (.slice A3 (1 + j) c3) (1 + j) _ rfl (HO.out.alloc _) ⟨_, 0, none⟩ 1 1 [.int .u8 ((u : Int) / 2 ^ (8 * (7 - j)) % 256)] rfl rfl (cell_one_new _ _ _) (by intro y hy; simp at hy; subst hy; rfl) (by simp only [maxLen]; omega) (by omega) (by have h1 := HS0.out; have h2 := HG.out.size; simp; omega) ?_; intro v7' w4 hown4 hg4 _ hat4; have HO4 := Lib.hid hown4; have HG4 := Lib.hid hg4; clear hown4 hg4 hat4)
      go_roundw
      case rel => exact ⟨j + 1, by omega, by go_num, by
        have h1 := HO4.out
        rw [HB.out] at h1
        rw [show 1 + (j + 1) = 1 + j + 1 by omega, topB_succ, ← List.cons_append, byteV_snoc]
        exact h1, grown_join (grown_alloc HG.out _) HG4.out (.inr fun y hy => (HO.out.lt y hy).1)⟩
      case measure => simp [intOf]; omega
    · obtain rfl : j = 8 := by omega
      obtain ⟨r, rfl, _, _, _, hc9⟩ := own_form HO.out (by omega)
      have hcv := run_convert_bytes_back (P := Tryz.prog) wr 48 9 5 ⟨r, 0, none⟩ c3 (0 :: topB u 8) Tryz.underlying48 Tryz.underlying5 Tryz.underlying9 (fun k hk => by
        have h1 := HO.out.cellAt k (by rw [List.length_cons, topB_length] at hk; omega)
        rw [Addr.add_lit, Nat.zero_add, h1]
        unfold byteV
        rw [List.getElem?_map, List.getElem?_eq_getElem hk]
        rfl)
      rw [show (0 :: topB u 8).length = 9 by rw [List.length_cons, topB_length]] at hcv
      go_wp2
      go_ret
      exact toldG_eq (by rw [HE.out]; rfl) HG.out
/-- a right label that is no tuple. -/
def plainL (a : Lab) : Prop := a.k = 0 ∧ a.s = noS ∧ -9223372036854775808 ≤ a.n ∧ a.n < 9223372036854775808 ∨ a.k = 1 ∧ a.n = 0 ∧ a.s.size ≤ 32
theorem ref5part_any (a : Lab) (w : World) (h : plainL a) : Calls Tryz.prog 25 #[labO a] w (ToldG (.string (txt (encP a))) w) := by
  obtain ⟨k, n, s⟩ := a
  rcases h with ⟨h1, h2, h3, h4⟩ | ⟨h1, h2, h3⟩
  · obtain rfl : k = 0 := h1
    obtain rfl : s = noS := h2
    exact ref5part_int n w h3 h4
  · obtain rfl : k = 1 := h1
    exact ref5part_text n s w h3
end Go.Proofs.YtblmnbaejfhagaaGreatDoor
