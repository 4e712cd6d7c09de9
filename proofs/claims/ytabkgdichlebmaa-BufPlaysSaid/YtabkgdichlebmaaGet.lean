/-
  bits.Get, blank: contracts.
-/
import Derived.Test.YtabkgdichlebmaaBase
import Derived.Test.YtabkgdichlebmaaMask
namespace Go.Proofs.Ytabkgdichlebmaa
open Go.ChangeShapes Go.WideShapes Go.ChangeAt Go.RowKit
set_option linter.unusedVariables false

theorem shr_cast (x s : Nat) : (x : Int) / 2 ^ s = ((x / 2 ^ s : Nat) : Int) := by simp
theorem shr_lt {x s n : Nat} (h : x < n) : x / 2 ^ s < n := Nat.lt_of_le_of_lt (Nat.div_le_self _ _) h
theorem bit_asked (x s : Nat) (h : x < 18446744073709551616) : (bits BinOp.and IntKind.u64 ((x : Int) / 2 ^ s) 1 == 1) = x.testBit s := by
  rw [shr_cast, show (1 : Int) = ((1 : Nat) : Int) from rfl, u64_and_nat _ _ (shr_lt h) (by omega), nat_mask1, Nat.testBit_eq_decide_div_mod_eq]
  by_cases h1 : x / 2 ^ s % 2 = 1
  · rw [h1]; rfl
  · have h0 : x / 2 ^ s % 2 = 0 := by omega
    rw [h0]; rfl
theorem get_out (p : Option Addr) (l : List Bool) (i : Int) (B : Nat) (w : World) (h : MaskP w B p l) (hi : hasB l i = false) :
    Calls Try.prog 41 #[.pointer p, .int .i64 i] w fun e w' => e = .returned (.bool (tr l i)) ∧ w' = w := by
  have H := Lib.hid h
  have HI := Lib.hid hi
  clear h hi
  go_enter Try.func41, Try.ntmps41
  go_wp2_with (go_at_call 47; refine (has_any _ l _ _ _ H.out).mono ?_; rintro e w' ⟨rfl, rfl⟩; rw [HI.out])
  go_ret
  refine ⟨ret_truth ?_, rfl⟩
  have := of_decide_eq_false HI.out
  by_cases h0 : 0 ≤ i
  · rw [tr_past l i (by omega)]
  · rw [tr_neg l i (by omega)]
theorem get_in (g : Nat) (A : Option Addr) (k c : Nat) (l : List Bool) (i : Nat) (B : Nat) (w : World) (h : Mask w B g A k c l) (hi : i < l.length) :
    Calls Try.prog 41 #[.pointer (some ⟨g, 0, none⟩), .int .i64 i] w fun e w' => e = .returned (.bool (l.getD i false)) ∧ w' = w := by
  have HI := Lib.hid (show hasB l i = true by unfold hasB; simp; omega)
  have hk := h.count
  have hj : i / 64 < k := by rw [hk]; unfold nw; omega
  have hs := h.small
  have hrow := h.row_cell
  obtain ⟨r, rfl, _, _, hc, _⟩ := h.at_ hj
  have HB := Lib.hid (word_bit l (i / 64) (i % 64) (by omega))
  have hw := word_lt l (i / 64)
  have H := Lib.hid h
  clear h hk
  generalize word l (i / 64) = x at *
  go_enter Try.func41, Try.ntmps41
  go_wp2_with (go_at_call 47; refine (has_any _ l _ _ _ H.out.p).mono ?_; rintro e w' ⟨rfl, rfl⟩; rw [HI.out])
  go_ret
  refine ⟨ret_truth ?_, rfl⟩
  rw [bit_asked x _ hw, HB.out]
  congr 1
  omega
theorem get_any (p : Option Addr) (l : List Bool) (i : Int) (B : Nat) (w : World) (h : MaskP w B p l) :
    Calls Try.prog 41 #[.pointer p, .int .i64 i] w fun e w' => e = .returned (.bool (tr l i)) ∧ w' = w := by
  cases hi : hasB l i with
  | false => exact get_out p l i B w h hi
  | true =>
    have hd := of_decide_eq_true hi
    rcases h with ⟨rfl, rfl⟩ | ⟨g, A, k, c, rfl, h⟩
    · simp at hd; omega
    · obtain ⟨n, rfl⟩ : ∃ n : Nat, i = n := ⟨i.toNat, by omega⟩
      rw [tr_nat]
      exact get_in g A k c l n B w h (by omega)

/-! ### blank -/
theorem info_u64 : (Try.prog.info? 82).map (fun i => (i.zero, i.size, i.bytes)) = some (some (.int .u64 0), 1, 8) := by kernel_rfl
theorem zeros_of (z : Value) (hz : z.cells = #[z]) (n : Nat) : (madeCells z.cells (n * 1)).toList = List.replicate n z := by
  rw [hz]
  apply List.ext_getElem
  · simp [madeCells]
  · intro i h1 h2
    simp [madeCells, Nat.mod_one]
/-- how many truths a Mask of n has. -/
def cutN (n : Int) : Nat := min (max n 0).toNat 2097152
def none_ (n : Nat) : List Bool := List.replicate n false
theorem none_length (n : Nat) : (none_ n).length = n := by simp [none_]
theorem none_get (n i : Nat) : (none_ n).getD i false = false := by
  unfold none_
  by_cases h : i < n <;> simp [List.getD, h]
theorem none_words (n : Nat) : wordsV (none_ n) = List.replicate (nw (none_ n)) (.int .u64 0) := by
  apply List.ext_getElem?
  intro i
  by_cases h : i < nw (none_ n)
  · rw [wordsV_get _ _ h]
    have : word (none_ n) i = 0 := (eq_word (by omega) fun b _ => by rw [none_get]; simp).symm
    rw [this]; simp [h]
  · rw [List.getElem?_eq_none (by rw [wordsV_length]; omega), List.getElem?_eq_none (by simp; omega)]
/-- a new Mask. -/
def NewMask (l : List Bool) (w : World) (e : Ending) (w' : World) : Prop :=
  ∃ g A k c, e = .returned (.pointer (some ⟨g, 0, none⟩)) ∧ Mask w' w.heap.size g A k c l ∧ w.grownBy w' none
theorem make_words (m : Nat) (hm : m ≤ 32768) : ∃ Z : Array Value, Z.toList = List.replicate m (.int .u64 0) ∧ ∀ W : World, (Instr.makeSlice 79 (.int .i64 (m : Int)) (.int .i64 (m : Int))).run Try.prog W = .ok (.slice (some ⟨W.heap.size, 0, none⟩) m m) (W.alloc (.cells Z 82)) := by
  obtain ⟨i0, hi, hz0, hz1, hz2⟩ := info_parts info_u64
  refine ⟨madeCells (Value.int .u64 0).cells (m * i0.size), by rw [hz1]; exact zeros_of _ rfl m, fun W => ?_⟩
  have h := run_make (P := Try.prog) W 79 82 i0 _ Try.underlying79 hi hz0 .i64 .i64 (m : Int) (m : Int) (by omega) (by omega) (by rw [hz2]; omega) (by omega)
  simpa using h
theorem blank_end (N : Nat) (hN : N ≤ 2097152) (w : World) (Z : Array Value) (hZ : Z.toList = List.replicate ((N + 63) / 64) (.int .u64 0)) :
    NewMask (none_ N) w (.returned (.pointer (some ⟨w.heap.size + 1, 0, none⟩))) ((w.alloc (.cells Z 82)).alloc (.cells #[.int .i64 (N : Int), .slice (some ⟨w.heap.size, 0, none⟩) ((N + 63) / 64) ((N + 63) / 64)] 81)) := by
  have hw : wordsV (none_ N) = Z.toList := by rw [none_words, hZ]; unfold nw; rw [none_length]
  have hn : nw (none_ N) = (N + 63) / 64 := by unfold nw; rw [none_length]
  refine ⟨_, some ⟨w.heap.size, 0, none⟩, (N + 63) / 64, (N + 63) / 64, rfl, ⟨by rw [none_length]; exact hN, by omega, ?_, ?_⟩, grown_alloc (grown_alloc (grown_refl w none) _) _⟩
  · rw [none_length]
    have := Box.fresh (w.alloc (.cells Z 82)) 81 #[.int .i64 (N : Int), .slice (some ⟨w.heap.size, 0, none⟩) ((N + 63) / 64) ((N + 63) / 64)]
    rw [show (w.alloc (.cells Z 82)).heap.size = w.heap.size + 1 by simp] at this
    exact this
  · rw [hw]
    refine World.ownsRow.alloc (World.ownsRow_lit w Z _ (Nat.le_refl _) (by unfold maxLen; omega) ?_) _
    rw [← Array.length_toList, hZ]; simp
theorem blank_any (n : Int) (hn : I64 n) (w : World) : Calls Try.prog 45 #[.int .i64 n] w (NewMask (none_ (cutN n)) w) := by
  unfold I64 at hn
  by_cases h0 : n < 0
  · obtain ⟨Z, hZ, hmk⟩ := make_words 0 (by omega)
    have HE := Lib.hid (blank_end 0 (by omega) w Z hZ)
    have HC : cutN n = 0 := by unfold cutN; omega
    rw [HC]
    clear HC hZ
    simp only [Int.ofNat_zero] at hmk
    go_enter Try.func45, Try.ntmps45
    go_wp2
    go_ret
    exact HE.out
  · by_cases h1 : n ≤ 2097152
    · obtain ⟨N, rfl⟩ : ∃ N : Nat, n = N := ⟨n.toNat, by omega⟩
      obtain ⟨Z, hZ, hmk⟩ := make_words ((N + 63) / 64) (by omega)
      have HE := Lib.hid (blank_end N (by omega) w Z hZ)
      have HC : cutN (N : Int) = N := by unfold cutN; omega
      rw [HC]
      clear HC hZ
      have e : (((N + 63) / 64 : Nat) : Int) = ((N : Int) + 64 - 1) / 64 := by omega
      rw [e] at hmk
      clear e
      go_enter Try.func45, Try.ntmps45
      go_wp2
      go_ret
      exact HE.out
    · obtain ⟨Z, hZ, hmk⟩ := make_words 32768 (by omega)
      have HE := Lib.hid (blank_end 2097152 (by omega) w Z hZ)
      have HC : cutN n = 2097152 := by unfold cutN; omega
      rw [HC]
      clear HC hZ
      have hmk' : ∀ W : World, (Instr.makeSlice 79 (.int .i64 32768) (.int .i64 32768)).run Try.prog W = .ok (.slice (some ⟨W.heap.size, 0, none⟩) 32768 32768) (W.alloc (.cells Z 82)) := hmk
      clear hmk
      have h2 : 2097152 < n := by omega
      clear h1
      go_enter Try.func45, Try.ntmps45
      go_wp2
      go_ret
      exact HE.out
end Go.Proofs.Ytabkgdichlebmaa
