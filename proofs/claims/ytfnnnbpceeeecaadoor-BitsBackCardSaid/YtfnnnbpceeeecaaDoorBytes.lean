/-
  bits.Bytes and its reference: contracts.
-/
import Derived.Test.YtfnnnbpceeeecaaDoorNext
namespace Go.Proofs.YtfnnnbpceeeecaaDoor
open Go.ChangeShapes Go.WideShapes Go.ChangeAt Go.RowKit
set_option linter.unusedVariables false

/-! ### truths as bytes -/
def byteL (l : List Bool) (i : Nat) : Nat := bitsOf (fun b => l.getD (8 * i + b) false) 8
def nb (l : List Bool) : Nat := (l.length + 7) / 8
theorem byteL_lt (l : List Bool) (i : Nat) : byteL l i < 256 := bitsOf_lt _ 8
theorem byteL_bit (l : List Bool) (i b : Nat) (hb : b < 8) : (byteL l i).testBit b = l.getD (8 * i + b) false := by unfold byteL; rw [bitsOf_bit]; simp [hb]
theorem eq_byteL {x i : Nat} {l : List Bool} (hx : x < 256) (h : ∀ b, b < 8 → x.testBit b = l.getD (8 * i + b) false) : x = byteL l i := eq_bitsOf hx h
def bytesL (l : List Bool) : List Nat := (List.range (nb l)).map (byteL l)
theorem bytesL_length (l : List Bool) : (bytesL l).length = nb l := by simp [bytesL]
theorem bytesL_get (l : List Bool) (i : Nat) (h : i < nb l) : (bytesL l).getD i 0 = byteL l i := by simp [bytesL, List.getD, h]
/-- of a word, the byte. -/
theorem byte_word (l : List Bool) (i : Nat) : word l (i / 8) / 2 ^ (i % 8 * 8) % 256 = byteL l i :=
  eq_byteL (Nat.mod_lt _ (by omega)) fun b hb => by
    rw [show (256 : Nat) = 2 ^ 8 by decide, Nat.testBit_mod_two_pow, Nat.testBit_div_two_pow, word_bit _ _ _ (by omega), show 64 * (i / 8) + (b + i % 8 * 8) = 8 * i + b by omega]
    simp [hb]
/-- the cells of a row of bytes, the first i as they must be, the others noughts. -/
def byteV (f : Nat → Nat) (n : Nat) : List Value := (List.range n).map fun j => Value.int .u8 ((f j : Nat) : Int)
theorem byteV_length (f : Nat → Nat) (n : Nat) : (byteV f n).length = n := by simp [byteV]
theorem byteV_get (f : Nat → Nat) (n j : Nat) (h : j < n) : (byteV f n)[j]? = some (Value.int .u8 ((f j : Nat) : Int)) := by simp [byteV, h]
theorem byteV_zero (n : Nat) (f : Nat → Nat) (h : ∀ j, j < n → f j = 0) : List.replicate n (Value.int .u8 0) = byteV f n := by
  apply List.ext_getElem?
  intro i
  by_cases hi : i < n
  · rw [byteV_get _ _ _ hi, h i hi]; simp [hi]
  · rw [List.getElem?_eq_none (by simp; omega), List.getElem?_eq_none (by rw [byteV_length]; omega)]
theorem byteV_set (f g : Nat → Nat) (n j : Nat) (h : ∀ i, i < n → i ≠ j → g i = f i) : (byteV f n).set j (Value.int .u8 ((g j : Nat) : Int)) = byteV g n := by
  apply List.ext_getElem?
  intro i
  rw [List.getElem?_set]
  by_cases hi : i < n
  · rw [byteV_get _ _ _ hi, byteV_get _ _ _ hi, byteV_length]
    by_cases e : j = i
    · subst e; rw [if_pos rfl, if_pos hi]
    · rw [if_neg e, h i hi (Ne.symm e)]
  · rw [List.getElem?_eq_none (by rw [byteV_length]; omega), List.getElem?_eq_none (by rw [byteV_length]; omega)]
    by_cases e : j = i
    · subst e; rw [if_pos rfl, if_neg (by rw [byteV_length]; exact hi)]
    · rw [if_neg e]
theorem byteV_congr (f g : Nat → Nat) (n : Nat) (h : ∀ i, i < n → g i = f i) : byteV f n = byteV g n := by
  apply List.ext_getElem?
  intro i
  by_cases hi : i < n
  · rw [byteV_get _ _ _ hi, byteV_get _ _ _ hi, h i hi]
  · rw [List.getElem?_eq_none (by rw [byteV_length]; omega), List.getElem?_eq_none (by rw [byteV_length]; omega)]
theorem info_u8 : (Tryd.prog.info? 5).map (fun i => (i.zero, i.size, i.bytes)) = some (some (.int .u8 0), 1, 1) := by kernel_rfl
theorem make_bytes (m : Nat) (hm : m ≤ 2097152) : ∃ Z : Array Value, Z.toList = List.replicate m (.int .u8 0) ∧ ∀ W : World, (Instr.makeSlice 39 (.int .i64 (m : Int)) (.int .i64 (m : Int))).run Tryd.prog W = .ok (.slice (some ⟨W.heap.size, 0, none⟩) m m) (W.alloc (.cells Z 5)) := by
  obtain ⟨i0, hi, hz0, hz1, hz2⟩ := info_parts info_u8
  refine ⟨madeCells (Value.int .u8 0).cells (m * i0.size), by rw [hz1]; exact zeros_of _ rfl m, fun W => ?_⟩
  have h := run_make (P := Tryd.prog) W 39 5 i0 _ Tryd.underlying39 hi hz0 .i64 .i64 (m : Int) (m : Int) (by omega) (by omega) (by rw [hz2]; omega) (by omega)
  simpa using h
theorem size_any (n : Nat) (hn : n ≤ 2097152) (w : World) : Calls Tryd.prog 35 #[.int .i64 n] w fun e w' => e = .returned (.int .i64 (((n + 7) / 8 : Nat) : Int)) ∧ w' = w := by
  go_enter Tryd.func35, Tryd.ntmps35
  go_wp2
  go_ret
  exact ⟨ret_int (by omega), rfl⟩
theorem row_put {w : World} {base g n c x : Nat} {f : Nat → Nat} (h : w.ownsRow base 5 1 (.slice (some ⟨g, 0, none⟩) n c) n (byteV f n)) (f' : Nat → Nat) (hf : ∀ i, i < n → i ≠ x → f' i = f i) (u : Int) (hu : u = ((f' x : Nat) : Int)) :
    (w.setCell ⟨g, x, none⟩ (.int .u8 u)).ownsRow base 5 1 (.slice (some ⟨g, 0, none⟩) n c) n (byteV f' n) := by
  have := (h.stored x (.int .u8 u)).1
  rw [hu, byteV_set f f' n x hf] at this
  rw [hu]
  exact this
theorem shr_byte (v s y : Nat) (h : v / 2 ^ s % 256 = y) : (v : Int) / 2 ^ s % 256 = (y : Int) := by rw [shr_cast, ← h]; omega
/-- a new row of bytes. -/
def NewBytes (f : Nat → Nat) (n : Nat) (w : World) (e : Ending) (w' : World) : Prop :=
  ∃ A c, e = .returned (.slice A n c) ∧ w'.ownsRow w.heap.size 5 1 (.slice A n c) n (byteV f n) ∧ w.grownBy w' none
set_option maxHeartbeats 1000000 in
theorem bytes_mask (g : Nat) (A : Option Addr) (k c : Nat) (l : List Bool) (B : Nat) (w : World) (h : Mask w B g A k c l) (hB : B ≤ w.heap.size) :
    Calls Tryd.prog 21 #[.pointer (some ⟨g, 0, none⟩)] w (NewBytes (byteL l) (nb l) w) := by
  have H := Lib.hid h
  have hs := h.small
  have hk := Lib.hid h.count
  clear h
  have hnb : nb l ≤ 262144 := by unfold nb; omega
  obtain ⟨Z, hZ, hmk⟩ := make_bytes (nb l) (by omega)
  have HO := Lib.hid (World.ownsRow_lit w Z (nb l) (Nat.le_refl _) (by unfold maxLen; omega) (e := 5) (size := 1) (by rw [← Array.length_toList, hZ]; simp))
  rw [hZ, byteV_zero (nb l) (fun j => if j < 0 then byteL l j else 0) (fun j _ => rfl)] at HO
  have HSZ := Lib.hid (size_any l.length hs)
  rw [show ((l.length + 7) / 8) = nb l from rfl] at HSZ
  clear hZ
  generalize hn : nb l = n at *
  have HN := Lib.hid hn
  clear hn
  go_enter Tryd.func21, Tryd.ntmps21
  go_wp2_with (first
    | (go_at_call 32; refine (row_any _ _ _ _ l _ _ H.out).mono ?_; rintro e w' ⟨rfl, hww⟩; subst hww)
    | (go_at_call 24; refine (len_any _ l _ _ H.out.p).mono ?_; rintro e w' ⟨rfl, hww⟩; subst hww)
    | (go_at_call 35; refine (HSZ.out _).mono ?_; rintro e w' ⟨rfl, hww⟩; subst hww))
  go_loopw [14] (fun i wr => ∃ x : Nat, x ≤ n ∧ i = .int .i64 x ∧ wr.ownsRow w'.heap.size 5 1 (.slice (some ⟨w'.heap.size, 0, none⟩) n n) n (byteV (fun j => if j < x then byteL l j else 0) n) ∧ w'.grownBy wr none) (fun i _ => n - (intOf i).toNat)
  case atStart => exact ⟨0, by omega, rfl, HO.out, World.grownBy_alloc _ _ _⟩
  case round =>
    obtain ⟨x, hx, rfl, ho, hg⟩ := hrel
    have HG := Lib.hid hg
    have HR := Lib.hid ho
    clear hg ho
    by_cases hlt : x < n
    · have hj : x / 8 < k := by have h1 := hk.out; have h2 := HN.out; unfold nw at h1; unfold nb at h2; omega
      have hM := H.out.grow HG.out
      have hrow := hM.row_cell
      obtain ⟨r, rfl, hne, hBr, hc, _⟩ := hM.at_ hj
      have hown := HR.out.cellAt x (by omega)
      rw [byteV_get _ _ _ hlt] at hown
      have hfz := HR.out.frozenAt x
      have hbw := byte_word l x
      have hv := word_lt l (x / 8)
      have HBL := Lib.hid (byteL_lt l x)
      clear hM
      generalize word l (x / 8) = v at *
      have HBW := Lib.hid hbw
      clear hbw
      go_wp2
      go_roundw
      case rel => exact ⟨x + 1, by omega, by go_num, row_put HR.out _ (fun i _ hi => by
        show (if i < x + 1 then byteL l i else 0) = if i < x then byteL l i else 0
        by_cases h : i < x
        · rw [if_pos h, if_pos (by omega)]
        · rw [if_neg h, if_neg (by omega)]) _ (by rw [shr_byte v _ _ HBW.out, if_pos (by omega)]), grown_put HG.out (.inr (Nat.le_refl _)) _⟩
      case measure => simp [intOf]; omega
    · obtain rfl : x = n := by omega
      go_wp2
      go_ret
      refine ⟨_, _, rfl, ?_, HG.out⟩
      have h := HR.out
      rw [byteV_congr _ (byteL l) x (fun i hi => by show byteL l i = if i < x then byteL l i else 0; rw [if_pos hi])] at h
      exact h
theorem bytes_nil (w : World) : Calls Tryd.prog 21 #[.pointer none] w (NewBytes (byteL []) 0 w) := by
  obtain ⟨Z, hZ, hmk⟩ := make_bytes 0 (by omega)
  have HO := Lib.hid (World.ownsRow_lit w Z 0 (Nat.le_refl _) (by unfold maxLen; omega) (e := 5) (size := 1) (by rw [← Array.length_toList, hZ]; simp))
  rw [hZ] at HO
  have hmk' : ∀ W : World, (Instr.makeSlice 39 (.int .i64 0) (.int .i64 0)).run Tryd.prog W = .ok (.slice (some ⟨W.heap.size, 0, none⟩) 0 0) (W.alloc (.cells Z 5)) := hmk
  clear hmk hZ
  go_enter Tryd.func21, Tryd.ntmps21
  go_wp2_with (first
    | (go_at_call 32; refine (row_nil _).mono ?_; rintro e w' ⟨rfl, hww⟩; subst hww)
    | (go_at_call 24; refine (len_any none [] 0 _ (MaskP.nil _ _)).mono ?_; rintro e w' ⟨rfl, hww⟩; subst hww)
    | (go_at_call 35; refine (size_any 0 (by omega) _).mono ?_; rintro e w' ⟨rfl, hww⟩; subst hww))
  go_loopw [14] (fun i wr => i = .int .i64 0 ∧ wr = w'.alloc (.cells Z 5)) (fun _ _ => 0)
  case atStart => exact ⟨rfl, rfl⟩
  case round =>
    obtain ⟨rfl, rfl⟩ := hrel
    go_wp2
    go_ret
    exact ⟨_, _, rfl, HO.out, World.grownBy_alloc _ _ _⟩
theorem bytes_any (p : Option Addr) (l : List Bool) (B : Nat) (w : World) (h : MaskP w B p l) (hB : B ≤ w.heap.size) :
    Calls Tryd.prog 21 #[.pointer p] w (NewBytes (byteL l) (nb l) w) := by
  rcases h with ⟨rfl, rfl⟩ | ⟨g, A, k, c, rfl, h⟩
  · exact bytes_nil w
  · exact bytes_mask g A k c l B w h hB

/-! ### the reference's -/
theorem byte_head_at (l : List Bool) (i : Nat) (h : l.getD i false = true) : byteL (headL l (i + 1)) (i / 8) = byteL (headL l i) (i / 8) ||| 2 ^ (i % 8) := by
  have h2 : 2 ^ (i % 8) < 2 ^ 8 := Nat.pow_lt_pow_right (by omega) (by omega)
  refine (eq_byteL (Nat.or_lt_two_pow (n := 8) (byteL_lt _ _) h2) fun b hb => ?_).symm
  rw [Nat.testBit_or, byteL_bit _ _ _ hb, headL_get, headL_get, Nat.testBit_two_pow]
  by_cases e : i % 8 = b
  · have : 8 * (i / 8) + b = i := by omega
    rw [this, h]; simp [e]
  · have : decide (8 * (i / 8) + b < i + 1) = decide (8 * (i / 8) + b < i) := decide_eq_decide.2 (by omega)
    rw [this]; simp [e]
theorem byte_head_far (l : List Bool) (i j : Nat) (h : j ≠ i / 8) : byteL (headL l (i + 1)) j = byteL (headL l i) j := by
  refine bitsOf_congr fun b hb => ?_
  rw [headL_get, headL_get]
  have : decide (8 * j + b < i + 1) = decide (8 * j + b < i) := decide_eq_decide.2 (by omega)
  rw [this]
theorem byte_head_zero (l : List Bool) (j : Nat) : byteL (headL l 0) j = 0 := by
  have : byteL (headL l 0) j = bitsOf (fun _ => false) 8 := bitsOf_congr fun b _ => by rw [headL_get]; simp
  rw [this]; rfl
theorem u8_bit (s : Nat) (h : s < 8) : ((2 : Int) ^ s) % 256 = ((2 ^ s : Nat) : Int) := by
  have h2 : 2 ^ s < 2 ^ 8 := Nat.pow_lt_pow_right (by omega) h
  have e : (2 : Int) ^ s = ((2 ^ s : Nat) : Int) := by simp
  rw [e]
  generalize 2 ^ s = y at *
  omega
set_option maxHeartbeats 1000000 in
theorem refBytes_any (A : Option Addr) (n c : Nat) (l : List Bool) (w : World) (h : Bools w w.heap.size A n l) (hn : n ≤ 2097152) :
    Calls Tryd.prog 22 #[.slice A n c] w (NewBytes (byteL l) (nb l) w) := by
  have H := Lib.hid h
  have HN := Lib.hid h.1
  clear h
  have hnb : nb l ≤ 262144 := by unfold nb; rw [HN.out]; omega
  obtain ⟨Z, hZ, hmk⟩ := make_bytes (nb l) (by omega)
  have HO := Lib.hid (World.ownsRow_lit w Z (nb l) (Nat.le_refl _) (by unfold maxLen; omega) (e := 5) (size := 1) (by rw [← Array.length_toList, hZ]; simp))
  rw [hZ, byteV_zero (nb l) (byteL (headL l 0)) (fun j _ => byte_head_zero l j)] at HO
  have e : ((nb l : Nat) : Int) = ((n : Int) + 7) / 8 := by unfold nb; rw [HN.out]; omega
  rw [e] at hmk
  clear hZ e
  generalize hn' : nb l = m at *
  have HM := Lib.hid hn'
  clear hn'
  go_enter Tryd.func22, Tryd.ntmps22
  go_wp2
  go_loopw [4] (fun i wr => ∃ x : Nat, x ≤ n ∧ i = .int .i64 x ∧ wr.ownsRow w.heap.size 5 1 (.slice (some ⟨w.heap.size, 0, none⟩) m m) m (byteV (byteL (headL l x)) m) ∧ w.grownBy wr none) (fun i _ => n - (intOf i).toNat)
  case atStart => exact ⟨0, by omega, rfl, HO.out, World.grownBy_alloc _ _ _⟩
  case round =>
    obtain ⟨x, hx, rfl, ho, hg⟩ := hrel
    have HG := Lib.hid hg
    have HR := Lib.hid ho
    clear hg ho
    by_cases hlt : x < n
    · have hj : x / 8 < m := by have h2 := HM.out; unfold nb at h2; have h3 := HN.out; omega
      obtain ⟨b, off, rfl, hb, hcell⟩ := (H.out.keep (below_of_grown HG.out)).2.at_ hlt
      have hown := HR.out.cellAt (x / 8) (by omega)
      rw [byteV_get _ _ _ hj] at hown
      have hfz := HR.out.frozenAt (x / 8)
      generalize hlx : l.getD x false = y at *
      have HY := Lib.hid hlx
      clear hlx
      cases y
      · have HS := Lib.hid (headL_skip l x HY.out)
        go_wp2
        go_roundw
        case rel => exact ⟨x + 1, by omega, by go_num, by rw [HS.out]; exact HR.out, HG.out⟩
        case measure => simp [intOf]; omega
      · have hv := byteL_lt (headL l x) (x / 8)
        have HV := Lib.hid (byte_head_at l x HY.out)
        generalize byteL (headL l x) (x / 8) = v at *
        go_wp2
        go_region
        go_wp2
        go_roundw
        case rel => exact ⟨x + 1, by omega, by go_num, row_put HR.out _ (fun i _ hi => byte_head_far l x i hi) _ (by
          have h2 : 2 ^ (x % 8) < 2 ^ 8 := Nat.pow_lt_pow_right (by omega) (by omega)
          rw [HV.out, u8_bit _ (by omega), u8_or_nat _ _ hv h2]), grown_drew (grown_put HG.out (.inr (Nat.le_refl _)) _)⟩
        case measure => simp [intOf]; omega
    · obtain rfl : x = n := by omega
      go_wp2
      go_ret
      refine ⟨_, _, rfl, ?_, HG.out⟩
      have h := HR.out
      rw [← HN.out, headL_all] at h
      exact h
end Go.Proofs.YtfnnnbpceeeecaaDoor
