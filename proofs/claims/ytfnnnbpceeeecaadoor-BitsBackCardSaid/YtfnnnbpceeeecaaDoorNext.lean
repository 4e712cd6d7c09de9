/-
  math/bits.TrailingZeros64; bits.Next and its reference.
-/
import Derived.Test.YtfnnnbpceeeecaaDoorCount
import Derived.Lib.TrailingZeros
namespace Go.Proofs.YtfnnnbpceeeecaaDoor
open Go.ChangeShapes Go.WideShapes Go.ChangeAt Go.RowKit
set_option linter.unusedVariables false

/-- the library's table lies in its variable. -/
def Tab (w : World) : Prop := ∀ j, j < 64 → w.cell? ⟨0, j, none⟩ = some (.int .u8 ((Lib.deBruijn64tab.getD j 0 : Nat) : Int))
/-- the lowest bit's place in the table. -/
def tzAt (k : Nat) : Nat := 2 ^ k * 285870213051353865 % 18446744073709551616 / 288230376151711744
theorem tz_place (x k : Nat) (hx : x < 18446744073709551616) (hx0 : 0 < x) (hlow : x &&& (18446744073709551616 - x) = 2 ^ k) (m : Nat) (hm : tzAt k = m) :
    IntKind.u64.wrap (bits BinOp.and IntKind.u64 (x : Int) (IntKind.u64.wrap (-(x : Int))) * 285870213051353865) / 288230376151711744 = (m : Int) := by
  have e1 : IntKind.u64.wrap (-(x : Int)) = ((18446744073709551616 - x : Nat) : Int) := by rw [IntKind.wrap_u64]; omega
  unfold tzAt at hm
  rw [e1, u64_and_nat _ _ hx (by omega), hlow, IntKind.wrap_u64, ← hm]
  generalize 2 ^ k = q
  omega
theorem tz_walk (x k m : Nat) (hx : x < 18446744073709551616) (hne : ((x : Int) == 0) = false) (hm : m < 64) (hk : k < 64)
    (key : IntKind.u64.wrap (bits BinOp.and IntKind.u64 (x : Int) (IntKind.u64.wrap (-(x : Int))) * 285870213051353865) / 288230376151711744 = (m : Int)) (w : World)
    (hcell : w.cell? ⟨0, m, none⟩ = some (.int .u8 (k : Int))) :
    Calls Tryd.prog 34 #[.int .u64 x] w fun e w' => e = .returned (.int .i64 (k : Int)) ∧ w' = w := by
  go_enter Tryd.func34, Tryd.ntmps34
  go_wp2_with (simp only [key])
  go_ret
  exact ⟨rfl, rfl⟩
theorem tz_any (x : Nat) (hx : x < 18446744073709551616) (hx0 : x ≠ 0) (w : World) (hT : Tab w) :
    Calls Tryd.prog 34 #[.int .u64 x] w fun e w' => e = .returned (.int .i64 ((Lib.ctz 64 x : Nat) : Int)) ∧ w' = w := by
  obtain ⟨hlow, hk⟩ := Lib.lowest_bit 64 x hx0 hx
  obtain ⟨hi, htab⟩ := Lib.deBruijn64_at _ hk
  have hcell := hT _ hi
  rw [htab] at hcell
  exact tz_walk x _ _ hx (by simp; omega) hi hk (tz_place x _ hx (by omega) hlow _ rfl) w hcell

/-- where it is b from F on, in word x. -/
def cand (l : List Bool) (F : Nat) (b : Bool) (x : Nat) : Nat := bitsOf (fun c => (l.getD (64 * x + c) false == b) && decide (F ≤ 64 * x + c)) 64
theorem cand_bit (l : List Bool) (F : Nat) (b : Bool) (x c : Nat) (hc : c < 64) : (cand l F b x).testBit c = ((l.getD (64 * x + c) false == b) && decide (F ≤ 64 * x + c)) := by
  unfold cand; rw [bitsOf_bit]; simp [hc]
theorem cand_lt (l : List Bool) (F : Nat) (b : Bool) (x : Nat) : cand l F b x < 18446744073709551616 := bitsOf_lt _ 64
theorem eq_cand {y : Nat} (l : List Bool) (F : Nat) (b : Bool) (x : Nat) (hy : y < 18446744073709551616) (h : ∀ c, c < 64 → y.testBit c = ((l.getD (64 * x + c) false == b) && decide (F ≤ 64 * x + c))) : y = cand l F b x := eq_bitsOf hy h
def inv (v : Nat) : Nat := 18446744073709551615 ^^^ v
theorem inv_lt {v : Nat} (h : v < 18446744073709551616) : inv v < 18446744073709551616 := Nat.xor_lt_two_pow (n := 64) (by omega) h
theorem inv_bit (v c : Nat) (hc : c < 64) : (inv v).testBit c = !v.testBit c := by
  unfold inv
  rw [Nat.testBit_xor, show (18446744073709551615 : Nat) = 2 ^ 64 - 1 by decide, Nat.testBit_two_pow_sub_one]
  simp [hc]
theorem inv_eq (v : Nat) (h : v < 18446744073709551616) : bits BinOp.xor IntKind.u64 IntKind.u64.max (v : Int) = ((inv v : Nat) : Int) := by
  rw [show IntKind.u64.max = ((18446744073709551615 : Nat) : Int) by decide, u64_xor_nat _ _ (by omega) h]; rfl
def upM (s : Nat) : Nat := bitsOf (fun c => decide (s ≤ c)) 64
theorem upM_lt (s : Nat) : upM s < 18446744073709551616 := bitsOf_lt _ 64
theorem upM_bit (s c : Nat) (hc : c < 64) : (upM s).testBit c = decide (s ≤ c) := by unfold upM; rw [bitsOf_bit]; simp [hc]
theorem upM_eq (s : Nat) : IntKind.u64.wrap (18446744073709551615 * 2 ^ s) = ((upM s : Nat) : Int) := by
  have e : 18446744073709551615 * 2 ^ s % 18446744073709551616 = upM s := by
    refine eq_bitsOf (Nat.mod_lt _ (by omega)) fun b hb => ?_
    rw [show (18446744073709551616 : Nat) = 2 ^ 64 by decide, Nat.testBit_mod_two_pow, Nat.testBit_mul_two_pow, show (18446744073709551615 : Nat) = 2 ^ 64 - 1 by decide, Nat.testBit_two_pow_sub_one, Bool.eq_iff_iff]
    simp
    omega
  have e2 : (18446744073709551615 : Int) * 2 ^ s = ((18446744073709551615 * 2 ^ s : Nat) : Int) := by simp
  rw [e2, IntKind.wrap_u64, ← e]
  omega
theorem and_eq (a b : Nat) (ha : a < 18446744073709551616) (hb : b < 18446744073709551616) : bits BinOp.and IntKind.u64 (a : Int) (b : Int) = ((a &&& b : Nat) : Int) := u64_and_nat a b ha hb
theorem and_lt {a : Nat} (b : Nat) (ha : a < 18446744073709551616) : a &&& b < 18446744073709551616 := Nat.lt_of_le_of_lt Nat.and_le_left ha
theorem cand_tt_far (l : List Bool) (F x : Nat) (h : F / 64 < x) : word l x = cand l F true x :=
  eq_cand l F true x (word_lt _ _) fun c hc => by rw [word_bit _ _ _ hc]; simp; intro _; omega
theorem cand_ff_far (l : List Bool) (F x : Nat) (h : F / 64 < x) : inv (word l x) = cand l F false x :=
  eq_cand l F false x (inv_lt (word_lt _ _)) fun c hc => by
    rw [inv_bit _ _ hc, word_bit _ _ _ hc]
    have : decide (F ≤ 64 * x + c) = true := decide_eq_true (by omega)
    rw [this]; cases l.getD (64 * x + c) false <;> rfl
theorem cand_tt_at (l : List Bool) (F x : Nat) (h : x = F / 64) : word l x &&& upM (F % 64) = cand l F true x :=
  eq_cand l F true x (and_lt _ (word_lt _ _)) fun c hc => by
    rw [Nat.testBit_and, upM_bit _ _ hc, word_bit _ _ _ hc]
    have : decide (F ≤ 64 * x + c) = decide (F % 64 ≤ c) := decide_eq_decide.2 (by omega)
    rw [this]; simp
theorem cand_ff_at (l : List Bool) (F x : Nat) (h : x = F / 64) : inv (word l x) &&& upM (F % 64) = cand l F false x :=
  eq_cand l F false x (and_lt _ (inv_lt (word_lt _ _))) fun c hc => by
    rw [Nat.testBit_and, upM_bit _ _ hc, inv_bit _ _ hc, word_bit _ _ _ hc]
    have : decide (F ≤ 64 * x + c) = decide (F % 64 ≤ c) := decide_eq_decide.2 (by omega)
    rw [this]; cases l.getD (64 * x + c) false <;> rfl
/-- none so far. -/
def NoneTo (l : List Bool) (F : Nat) (b : Bool) (e : Nat) : Prop := ∀ j, F ≤ j → j < e → j < l.length → l.getD j false = !b
theorem none_more {l : List Bool} {F x : Nat} {b : Bool} (h : NoneTo l F b (64 * x)) (hz : cand l F b x = 0) : NoneTo l F b (64 * (x + 1)) := fun j h1 h2 h3 => by
  by_cases hj : j < 64 * x
  · exact h j h1 hj h3
  · have hb := cand_bit l F b x (j - 64 * x) (by omega)
    rw [hz, show 64 * x + (j - 64 * x) = j by omega] at hb
    have hd : decide (F ≤ j) = true := decide_eq_true h1
    rw [hd] at hb
    cases b <;> cases hl : l.getD j false <;> rw [hl] at hb <;> simp at hb <;> rfl
theorem ctz_bits (y : Nat) (h0 : y ≠ 0) (h : y < 18446744073709551616) : Lib.ctz 64 y < 64 ∧ y.testBit (Lib.ctz 64 y) = true ∧ ∀ c, c < Lib.ctz 64 y → y.testBit c = false := by
  obtain ⟨m, hm, hk⟩ := Lib.ctzFrom_spec 64 y (by omega) h
  have e : Lib.ctz 64 y = Lib.ctzFrom 64 y := by simp [Lib.ctz, h0]
  rw [e]
  generalize Lib.ctzFrom 64 y = t at *
  refine ⟨hk, ?_, fun c hc => ?_⟩
  · rw [hm, Nat.testBit_two_pow_mul]
    simp
  · rw [hm, Nat.testBit_two_pow_mul]
    simp
    omega
theorem next_found {l : List Bool} {F x t : Nat} {b : Bool} (h : NoneTo l F b (64 * x)) (ht : t = Lib.ctz 64 (cand l F b x)) (hz : cand l F b x ≠ 0) (hx : 64 * x < l.length) : IsNext l F b (min (x * 64 + t) l.length) := by
  obtain ⟨h1, h2, h3⟩ := ctz_bits _ hz (cand_lt _ _ _ _)
  rw [← ht] at h1 h2 h3
  rw [cand_bit _ _ _ _ _ h1] at h2
  rw [show x * 64 + t = 64 * x + t by omega]
  simp at h2
  refine ⟨Nat.min_le_right _ _, fun i hi1 hi2 => ?_, fun hlt => ?_⟩
  · by_cases hi : i < 64 * x
    · exact h i hi1 hi (by omega)
    · have hc := h3 (i - 64 * x) (by omega)
      rw [cand_bit _ _ _ _ _ (by omega), show 64 * x + (i - 64 * x) = i by omega] at hc
      have hd : decide (F ≤ i) = true := decide_eq_true hi1
      rw [hd] at hc
      cases b <;> cases hl : l.getD i false <;> rw [hl] at hc <;> simp at hc <;> rfl
  · have : min (64 * x + t) l.length = 64 * x + t := by omega
    rw [this]
    exact ⟨h2.2, h2.1⟩
theorem next_none {l : List Bool} {F x : Nat} {b : Bool} (h : NoneTo l F b (64 * x)) (hx : l.length ≤ 64 * x) : IsNext l F b l.length :=
  ⟨Nat.le_refl _, fun i h1 h2 => h i h1 (by omega) h2, fun h3 => absurd h3 (by omega)⟩
def NextEnd (l : List Bool) (F : Nat) (b : Bool) (w : World) (e : Ending) (w' : World) : Prop :=
  ∃ r : Nat, IsNext l F b r ∧ e = .returned (.int .i64 r) ∧ ∃ m, w' = w.drewN m
theorem next_end {l : List Bool} {F : Nat} {b : Bool} {w : World} {r : Nat} (h : IsNext l F b r) {v : Int} (hv : v = (r : Int)) (m : Nat) : NextEnd l F b w (.returned (.int .i64 v)) (w.drewN m) := ⟨r, h, by rw [hv], m, rfl⟩
theorem max_f (f : Int) (F : Nat) (h : (0 ≤ f ∧ f = F) ∨ (f < 0 ∧ F = 0)) : (if f < 0 then (0 : Int) else f) = F := by split <;> omega
theorem max_f2 (f : Int) (F : Nat) (h : (0 ≤ f ∧ f = F) ∨ (f < 0 ∧ F = 0)) : (if 0 < f then f else (0 : Int)) = F := by split <;> omega
theorem i64_fit (n : Int) (h1 : -9223372036854775808 ≤ n) (h2 : n ≤ 9223372036854775807) : IntKind.i64.wrap n = n := by rw [IntKind.wrap_i64]; omega
set_option maxHeartbeats 2000000 in
theorem next_tt (g : Nat) (A : Option Addr) (k c : Nat) (l : List Bool) (f : Int) (F : Nat) (hF : F ≤ 9223372036854775807) (hfF : (0 ≤ f ∧ f = F) ∨ (f < 0 ∧ F = 0)) (B : Nat) (w : World) (h : Mask w B g A k c l) (hT : Tab w) :
    Calls Tryd.prog 15 #[.pointer (some ⟨g, 0, none⟩), .int .i64 f, .bool true] w (NextEnd l F true w) := by
  have H := Lib.hid h
  have HT := Lib.hid hT
  have hs := h.small
  have hk := Lib.hid h.count
  have hkm : k ≤ 32768 := by rw [hk.out]; exact nw_le hs
  have hlen := h.len_cell
  have hsg : IntKind.u64.signed = false := rfl
  have hmax := max_f f F hfF
  clear h hT hfF
  go_enter Tryd.func15, Tryd.ntmps15
  go_wp2_with (go_at_call 32; refine (row_any _ _ _ _ l _ _ H.out).mono ?_; rintro e w' ⟨rfl, hww⟩; subst hww)
  go_loopw [9] (fun i wr => ∃ x : Nat, F / 64 ≤ x ∧ i = .int .i64 x ∧ wr = w' ∧ NoneTo l F true (64 * x) ∧ (F / 64 < x → x ≤ k)) (fun i _ => k - (intOf i).toNat)
  case atStart => exact ⟨F / 64, by omega, by go_num, rfl, fun j h1 h2 _ => by omega, fun h => by omega⟩
  case round =>
    obtain ⟨x, hx1, rfl, rfl, hno, hx2⟩ := hrel
    have HNO := Lib.hid hno
    clear hno
    by_cases hlt : x < k
    · obtain ⟨r, rfl, _, _, hc, _⟩ := H.out.at_ hlt
      have HX := Lib.hid (show 64 * x < l.length by have := hk.out; unfold nw at this; omega)
      have hi1 : IntKind.i64.wrap ((x : Int) * 64) = (x : Int) * 64 := i64_fit _ (by omega) (by omega)
      have hi2 : ∀ t : Nat, t < 64 → IntKind.i64.wrap ((x : Int) * 64 + (t : Int)) = (x : Int) * 64 + (t : Int) := fun t ht => i64_fit _ (by omega) (by omega)
      have HI := Lib.hid hi2
      clear hi2 hx2
      by_cases hf : x = F / 64
      · have hv := word_lt l x
        have hm := upM_lt (F % 64)
        have hfirst : ((x : Int) == (F : Int) / 64) = true := by simp; omega
        have hU := upM_eq (F % 64)
        have hE := and_eq (word l x) (upM (F % 64)) hv hm
        rw [cand_tt_at l F x hf] at hE
        generalize word l x = v at *
        generalize upM (F % 64) = M at *
        have HF := Lib.hid hf
        clear hf
        have HN := Lib.hid (none_more (b := true) HNO.out)
        have HY := Lib.hid (fun t (ht : t = _) hz => next_found (b := true) HNO.out ht hz HX.out)
        have hcl := cand_lt l F true x
        generalize cand l F true x = C at *
        clear hm
        by_cases hz : C = 0
        · have hne : ((C : Int) != 0) = false := by simp; omega
          have HZ := Lib.hid hz
          clear hz
          go_wp2
          go_roundw
          case rel => exact ⟨x + 1, by omega, by go_num, trivial, HN.out HZ.out, fun _ => by omega⟩
          case measure => simp [intOf]; omega
        · have hne : ((C : Int) != 0) = true := by simp; omega
          have HTZ := Lib.hid (fun W => tz_any C hcl hz W)
          have HB := Lib.hid (ctz_bits C hz hcl)
          have HZ := Lib.hid hz
          clear hz
          generalize hct : Lib.ctz 64 C = t at *
          have ht := HB.out.1
          have hi3 := HI.out t ht
          have HCT := Lib.hid hct
          clear hct
          go_wp2
          go_quiet ((go_at_call 34; exact Calls.quiet_of_same (HTZ.out _ HT.out)))
          by_cases hmin : x * 64 + t ≤ l.length
          · go_wp2
            go_ret
            exact next_end (HY.out t rfl HZ.out) (by omega) _
          · go_wp2
            go_ret
            exact next_end (HY.out t rfl HZ.out) (by omega) _
      · have hv := word_lt l x
        have hm := upM_lt (F % 64)
        have hfirst : ((x : Int) == (F : Int) / 64) = false := by simp; omega
        rw [cand_tt_far l F x (by omega)] at hc
        have HN := Lib.hid (none_more (b := true) HNO.out)
        have HY := Lib.hid (fun t (ht : t = _) hz => next_found (b := true) HNO.out ht hz HX.out)
        have hcl := cand_lt l F true x
        generalize cand l F true x = C at *
        clear hm
        by_cases hz : C = 0
        · have hne : ((C : Int) != 0) = false := by simp; omega
          have HZ := Lib.hid hz
          clear hz
          go_wp2
          go_roundw
          case rel => exact ⟨x + 1, by omega, by go_num, trivial, HN.out HZ.out, fun _ => by omega⟩
          case measure => simp [intOf]; omega
        · have hne : ((C : Int) != 0) = true := by simp; omega
          have HTZ := Lib.hid (fun W => tz_any C hcl hz W)
          have HB := Lib.hid (ctz_bits C hz hcl)
          have HZ := Lib.hid hz
          clear hz
          generalize hct : Lib.ctz 64 C = t at *
          have ht := HB.out.1
          have hi3 := HI.out t ht
          have HCT := Lib.hid hct
          clear hct
          go_wp2
          go_quiet ((go_at_call 34; exact Calls.quiet_of_same (HTZ.out _ HT.out)))
          by_cases hmin : x * 64 + t ≤ l.length
          · go_wp2
            go_ret
            exact next_end (HY.out t rfl HZ.out) (by omega) _
          · go_wp2
            go_ret
            exact next_end (HY.out t rfl HZ.out) (by omega) _
    · have HX := Lib.hid (show l.length ≤ 64 * x by have := hk.out; unfold nw at this; omega)
      go_wp2_with (go_at_call 24; refine (len_any _ l _ _ H.out.p).mono ?_; rintro e w' ⟨rfl, hww⟩; subst hww)
      go_ret
      exact next_end (next_none HNO.out HX.out) rfl 0
set_option maxHeartbeats 2000000 in
theorem next_ff (g : Nat) (A : Option Addr) (k c : Nat) (l : List Bool) (f : Int) (F : Nat) (hF : F ≤ 9223372036854775807) (hfF : (0 ≤ f ∧ f = F) ∨ (f < 0 ∧ F = 0)) (B : Nat) (w : World) (h : Mask w B g A k c l) (hT : Tab w) :
    Calls Tryd.prog 15 #[.pointer (some ⟨g, 0, none⟩), .int .i64 f, .bool false] w (NextEnd l F false w) := by
  have H := Lib.hid h
  have HT := Lib.hid hT
  have hs := h.small
  have hk := Lib.hid h.count
  have hkm : k ≤ 32768 := by rw [hk.out]; exact nw_le hs
  have hlen := h.len_cell
  have hsg : IntKind.u64.signed = false := rfl
  have hmax := max_f f F hfF
  clear h hT hfF
  go_enter Tryd.func15, Tryd.ntmps15
  go_wp2_with (go_at_call 32; refine (row_any _ _ _ _ l _ _ H.out).mono ?_; rintro e w' ⟨rfl, hww⟩; subst hww)
  go_loopw [9] (fun i wr => ∃ x : Nat, F / 64 ≤ x ∧ i = .int .i64 x ∧ wr = w' ∧ NoneTo l F false (64 * x) ∧ (F / 64 < x → x ≤ k)) (fun i _ => k - (intOf i).toNat)
  case atStart => exact ⟨F / 64, by omega, by go_num, rfl, fun j h1 h2 _ => by omega, fun h => by omega⟩
  case round =>
    obtain ⟨x, hx1, rfl, rfl, hno, hx2⟩ := hrel
    have HNO := Lib.hid hno
    clear hno
    by_cases hlt : x < k
    · obtain ⟨r, rfl, _, _, hc, _⟩ := H.out.at_ hlt
      have HX := Lib.hid (show 64 * x < l.length by have := hk.out; unfold nw at this; omega)
      have hi1 : IntKind.i64.wrap ((x : Int) * 64) = (x : Int) * 64 := i64_fit _ (by omega) (by omega)
      have hi2 : ∀ t : Nat, t < 64 → IntKind.i64.wrap ((x : Int) * 64 + (t : Int)) = (x : Int) * 64 + (t : Int) := fun t ht => i64_fit _ (by omega) (by omega)
      have HI := Lib.hid hi2
      clear hi2 hx2
      by_cases hf : x = F / 64
      · have hv := word_lt l x
        have hm := upM_lt (F % 64)
        have hfirst : ((x : Int) == (F : Int) / 64) = true := by simp; omega
        have hU := upM_eq (F % 64)
        have hI := inv_eq (word l x) hv
        have hE := and_eq (inv (word l x)) (upM (F % 64)) (inv_lt hv) hm
        rw [cand_ff_at l F x hf] at hE
        generalize inv (word l x) = iv at *
        generalize word l x = v at *
        generalize upM (F % 64) = M at *
        have HF := Lib.hid hf
        clear hf
        have HN := Lib.hid (none_more (b := false) HNO.out)
        have HY := Lib.hid (fun t (ht : t = _) hz => next_found (b := false) HNO.out ht hz HX.out)
        have hcl := cand_lt l F false x
        generalize cand l F false x = C at *
        clear hm
        by_cases hz : C = 0
        · have hne : ((C : Int) != 0) = false := by simp; omega
          have HZ := Lib.hid hz
          clear hz
          go_wp2
          go_roundw
          case rel => exact ⟨x + 1, by omega, by go_num, trivial, HN.out HZ.out, fun _ => by omega⟩
          case measure => simp [intOf]; omega
        · have hne : ((C : Int) != 0) = true := by simp; omega
          have HTZ := Lib.hid (fun W => tz_any C hcl hz W)
          have HB := Lib.hid (ctz_bits C hz hcl)
          have HZ := Lib.hid hz
          clear hz
          generalize hct : Lib.ctz 64 C = t at *
          have ht := HB.out.1
          have hi3 := HI.out t ht
          have HCT := Lib.hid hct
          clear hct
          go_wp2
          go_quiet ((go_at_call 34; exact Calls.quiet_of_same (HTZ.out _ HT.out)))
          by_cases hmin : x * 64 + t ≤ l.length
          · go_wp2
            go_ret
            exact next_end (HY.out t rfl HZ.out) (by omega) _
          · go_wp2
            go_ret
            exact next_end (HY.out t rfl HZ.out) (by omega) _
      · have hv := word_lt l x
        have hm := upM_lt (F % 64)
        have hfirst : ((x : Int) == (F : Int) / 64) = false := by simp; omega
        have hI := inv_eq (word l x) hv
        rw [cand_ff_far l F x (by omega)] at hI
        generalize word l x = v at *
        have HN := Lib.hid (none_more (b := false) HNO.out)
        have HY := Lib.hid (fun t (ht : t = _) hz => next_found (b := false) HNO.out ht hz HX.out)
        have hcl := cand_lt l F false x
        generalize cand l F false x = C at *
        clear hm
        by_cases hz : C = 0
        · have hne : ((C : Int) != 0) = false := by simp; omega
          have HZ := Lib.hid hz
          clear hz
          go_wp2
          go_roundw
          case rel => exact ⟨x + 1, by omega, by go_num, trivial, HN.out HZ.out, fun _ => by omega⟩
          case measure => simp [intOf]; omega
        · have hne : ((C : Int) != 0) = true := by simp; omega
          have HTZ := Lib.hid (fun W => tz_any C hcl hz W)
          have HB := Lib.hid (ctz_bits C hz hcl)
          have HZ := Lib.hid hz
          clear hz
          generalize hct : Lib.ctz 64 C = t at *
          have ht := HB.out.1
          have hi3 := HI.out t ht
          have HCT := Lib.hid hct
          clear hct
          go_wp2
          go_quiet ((go_at_call 34; exact Calls.quiet_of_same (HTZ.out _ HT.out)))
          by_cases hmin : x * 64 + t ≤ l.length
          · go_wp2
            go_ret
            exact next_end (HY.out t rfl HZ.out) (by omega) _
          · go_wp2
            go_ret
            exact next_end (HY.out t rfl HZ.out) (by omega) _
    · have HX := Lib.hid (show l.length ≤ 64 * x by have := hk.out; unfold nw at this; omega)
      go_wp2_with (go_at_call 24; refine (len_any _ l _ _ H.out.p).mono ?_; rintro e w' ⟨rfl, hww⟩; subst hww)
      go_ret
      exact next_end (next_none HNO.out HX.out) rfl 0

theorem next_nil (f : Int) (b : Bool) (hf : I64 f) (w : World) : Calls Tryd.prog 15 #[.pointer none, .int .i64 f, .bool b] w fun e w' => e = .returned (.int .i64 0) ∧ w' = w := by
  unfold I64 at hf
  have hmax := max_f f f.toNat (by omega)
  have hF : f.toNat ≤ 9223372036854775807 := by omega
  generalize f.toNat = F at *
  go_enter Tryd.func15, Tryd.ntmps15
  go_wp2_with (go_at_call 32; refine (row_nil _).mono ?_; rintro e w' ⟨rfl, hww⟩; subst hww)
  go_loop [9] (fun i => i = .int .i64 ((F : Int) / 64)) (fun _ => 0)
  case atStart => exact rfl
  case round =>
    obtain rfl := hrel
    have hge : ¬ ((F : Int) / 64 < 0) := by omega
    go_wp2_with (go_at_call 24; refine (len_any none [] 0 _ (MaskP.nil _ _)).mono ?_; rintro e w' ⟨rfl, rfl⟩)
    go_ret
    exact ⟨rfl, rfl⟩
theorem next_any (p : Option Addr) (l : List Bool) (f : Int) (b : Bool) (hf : I64 f) (B : Nat) (w : World) (h : MaskP w B p l) (hT : Tab w) :
    Calls Tryd.prog 15 #[.pointer p, .int .i64 f, .bool b] w (NextEnd l f.toNat b w) := by
  unfold I64 at hf
  rcases h with ⟨rfl, rfl⟩ | ⟨g, A, k, c, rfl, h⟩
  · refine (next_nil f b hf w).mono fun e w' ⟨h1, h2⟩ => ?_
    subst h1; subst h2
    exact next_end (r := 0) ⟨Nat.le_refl _, fun i _ h => by omega, fun h => absurd h (by simp)⟩ rfl 0
  · cases b
    · exact next_ff g A k c l f f.toNat (by omega) (by omega) B w h hT
    · exact next_tt g A k c l f f.toNat (by omega) (by omega) B w h hT

theorem refNext_any (A : Option Addr) (n c : Nat) (l : List Bool) (f : Int) (b : Bool) (hf : I64 f) (B : Nat) (w : World) (h : Bools w B A n l) (hn : n ≤ 2097152) :
    Calls Tryd.prog 16 #[.slice A n c, .int .i64 f, .bool b] w (NextEnd l f.toNat b w) := by
  unfold I64 at hf
  have H := Lib.hid h
  have HN := Lib.hid h.1
  clear h
  have hmax := max_f2 f f.toNat (by omega)
  have hF : f.toNat ≤ 9223372036854775807 := by omega
  generalize f.toNat = F at *
  go_enter Tryd.func16, Tryd.ntmps16
  go_wp2
  go_loop [7] (fun i => ∃ x : Nat, F ≤ x ∧ i = .int .i64 x ∧ NoneTo l F b x ∧ (F < x → x ≤ n)) (fun i => n - (intOf i).toNat)
  case atStart => exact ⟨F, by omega, rfl, fun j h1 h2 _ => by omega, fun h => by omega⟩
  case round =>
    obtain ⟨x, hx1, rfl, hno, hx2⟩ := hrel
    have HNO := Lib.hid hno
    clear hno
    by_cases hlt : x < n
    · obtain ⟨b', off, rfl, _, hc⟩ := H.out.2.at_ hlt
      have HX := Lib.hid hx2
      clear hx2
      generalize hv : l.getD x false = v at *
      have HV := Lib.hid hv
      clear hv
      by_cases hb : v = b
      · have hbe : (v == b) = true := by simp [hb]
        have HB := Lib.hid hb
        clear hb
        go_wp2
        go_ret
        exact next_end (r := x) ⟨by rw [HN.out]; omega, fun i h1 h2 => HNO.out i h1 h2 (by rw [HN.out]; omega), fun _ => ⟨hx1, HV.out.trans HB.out⟩⟩ rfl 0
      · have hbe : (v == b) = false := by simp [hb]
        have HB := Lib.hid hb
        clear hb
        go_wp2
        go_round
        case rel => exact ⟨x + 1, by omega, by go_num, fun j h1 h2 h3 => by
          by_cases hj : j = x
          · subst hj
            rw [HV.out]
            have := HB.out
            revert this
            cases v <;> cases b <;> simp
          · exact HNO.out j h1 (by omega) h3, fun _ => by omega⟩
        case measure => simp [intOf]; omega
    · go_wp2
      go_ret
      exact next_end (r := l.length) ⟨Nat.le_refl _, fun i h1 h2 => HNO.out i h1 (by have := HN.out; omega) h2, fun h => absurd h (by omega)⟩ (by rw [HN.out]) 0
end Go.Proofs.YtfnnnbpceeeecaaDoor
